/- Lists of series that are being put together; labels copied. -/
import Derived.Test.YtaekngadfajcaaaGreatRMK
import Derived.Test.YtaekngadfajcaaaGreatRTf
namespace Go.Proofs.YtaekngadfajcaaaGreat.Srs
open Go.RowKit
open Go.Proofs.YtaekngadfajcaaaGreat.Lab (Lb HasL)
open Go.Proofs.YtaekngadfajcaaaGreat.Smp (Sm HasS)

/-- A list of series, nil or not, all of it the call's own. -/
structure OwnO (X : Nat) (a : Option Addr) (n c : Nat) (qs : List Q) (w : World) : Prop where
  len : qs.length = n
  row : w.ownsRow X 53 2 (.slice a n c) n (flat qs)
  own : ∀ i, i < n → Own2 X (qs.getD i q0) w
  nea : ∀ g, a = some ⟨g, 0, none⟩ → ∀ i, i < n → blk (qs.getD i q0).a ≠ g ∧ blk (qs.getD i q0).b ≠ g
  dis : ∀ i j, i < n → j < n → i ≠ j → blk (qs.getD i q0).a ≠ blk (qs.getD j q0).a ∧ blk (qs.getD i q0).a ≠ blk (qs.getD j q0).b ∧ blk (qs.getD i q0).b ≠ blk (qs.getD j q0).a ∧ blk (qs.getD i q0).b ≠ blk (qs.getD j q0).b
theorem OwnO.nil (X : Nat) (w : World) : OwnO X none 0 0 [] w := ⟨rfl, World.ownsRow_nil _ _ _ _, fun i hi => by omega, fun g _ i hi => by omega, fun i j hi => by omega⟩
theorem OwnO.below {X n c : Nat} {a : Option Addr} {qs : List Q} {w w' : World} (h : OwnO X a n c qs w) (hb : Below w.heap.size w w') : OwnO X a n c qs w' := ⟨h.len, own_below h.row hb, fun i hi => (h.own i hi).below hb, h.nea, h.dis⟩
theorem OwnO.cases {X n c : Nat} {a : Option Addr} {qs : List Q} {w : World} (h : OwnO X a n c qs w) : (a = none ∧ n = 0 ∧ c = 0 ∧ qs = []) ∨ ∃ g, a = some ⟨g, 0, none⟩ ∧ OwnG X g n c qs w := by
  rcases h.row.2 with ⟨h1, h2⟩ | ⟨g, cap, cur, h1, _⟩
  · simp only [Value.slice.injEq] at h1
    exact .inl ⟨h1.1, h1.2.1, h1.2.2, List.eq_nil_of_length_eq_zero (by rw [h.len]; exact h2)⟩
  · simp only [Value.slice.injEq] at h1
    obtain ⟨h1, _, _⟩ := h1
    refine .inr ⟨g, h1, h.len, by have := h.row; rw [h1] at this; exact this, h.own, ⟨h.nea g h1, h.dis⟩⟩
theorem OwnO.has {X n c : Nat} {a : Option Addr} {qs : List Q} {w : World} (h : OwnO X a n c qs w) : HasQ w a qs := by
  rcases h.cases with ⟨_, _, _, h4⟩ | ⟨g, h1, h2⟩
  · exact .inl h4
  · rw [h1]; exact h2.has
theorem OwnO.push {X n c c' : Nat} {a a' : Option Addr} {qs : List Q} {q : Q} {w W w' : World} (h : OwnO X a n c qs w) (hb : Below w.heap.size w W) (hq : Own2 X q W) (h1 : w.heap.size ≤ blk q.a) (h2 : w.heap.size ≤ blk q.b)
    (hg : W.grownBy w' (Value.slice a n c).ownBlock) (hr : w'.ownsRow X 53 2 (.slice a' (n + 1) c') (n + 1) (flat (qs ++ [q])))
    (hv : (Value.slice a' (n + 1) c').ownBlock = (Value.slice a n c).ownBlock ∨ (Value.slice a' (n + 1) c').ownBlock = some W.heap.size) : OwnO X a' (n + 1) c' (qs ++ [q]) w' := by
  have hl := h.len
  have hget : ∀ i, (qs ++ [q]).getD i q0 = if i = n then q else qs.getD i q0 := fun i => by rw [getD_snoc, hl]
  have hlo : ∀ i, i < n → blk (qs.getD i q0).a < w.heap.size ∧ blk (qs.getD i q0).b < w.heap.size := fun i hi => (h.own i hi).hi
  have hob : ∀ g, (Value.slice a n c).ownBlock = some g → a = some ⟨g, 0, none⟩ ∧ g < w.heap.size := by
    intro g hgg
    have h3 := h.row.lt g hgg
    rcases h.row.2 with ⟨h4, _⟩ | ⟨g', cap, cur, h4, _⟩
    · simp only [Value.slice.injEq] at h4; rw [h4.1] at hgg; cases hgg
    · simp only [Value.slice.injEq] at h4
      rw [h4.1] at hgg
      have : g' = g := Option.some.inj hgg
      rw [this] at h4
      exact ⟨h4.1, h3.2⟩
  refine ⟨by simp [hl], hr, fun i hi => ?_, fun g hg' i hi => ?_, fun i j hi hj hij => ?_⟩
  · rw [hget]
    by_cases e : i = n
    · rw [if_pos e]
      refine hq.kept hg (fun e => ?_) (fun e => ?_)
      · have := (hob _ e.symm).2; omega
      · have := (hob _ e.symm).2; omega
    · rw [if_neg e]
      have hi' : i < n := by omega
      refine ((h.own i hi').below hb).kept hg (fun e => ?_) (fun e => ?_)
      · exact (h.nea _ (hob _ e.symm).1 i hi').1 rfl
      · exact (h.nea _ (hob _ e.symm).1 i hi').2 rfl
  · rw [hg'] at hv
    have hv' : some g = (Value.slice a n c).ownBlock ∨ some g = some W.heap.size := hv
    rw [hget]
    by_cases e : i = n
    · rw [if_pos e]
      rcases hv' with h3 | h3
      · have := (hob g h3.symm).2; constructor <;> omega
      · have h4 := Option.some.inj h3; have := hq.hi; constructor <;> omega
    · rw [if_neg e]
      have hi' : i < n := by omega
      rcases hv' with h3 | h3
      · exact h.nea g (hob g h3.symm).1 i hi'
      · have h4 := Option.some.inj h3; have := hlo i hi'; have := hb.size; constructor <;> omega
  · rw [hget, hget]
    by_cases e : i = n
    · have ej : ¬ j = n := by omega
      rw [if_pos e, if_neg ej]
      have := hlo j (by omega)
      refine ⟨?_, ?_, ?_, ?_⟩ <;> omega
    · rw [if_neg e]
      by_cases ej : j = n
      · rw [if_pos ej]
        have := hlo i (by omega)
        refine ⟨?_, ?_, ?_, ?_⟩ <;> omega
      · rw [if_neg ej]; exact h.dis i j (by omega) (by omega) hij
/-- A row of labels of the call's own. -/
abbrev OwnL (w : World) (base : Nat) (v : Value) (L : List Lb) : Prop := w.ownsRow base 62 2 v L.length (Lab.flat L)
theorem infoL : (Tryz.prog.info? 62).map (fun i => (i.zero, i.size, i.bytes)) = some (some (.agg #[.string ByteArray.empty, .string ByteArray.empty]), 2, 32) := by kernel_rfl
theorem lab_cells {w : World} {b off : Nat} {L : List Lb} (hr : HasL w (some ⟨b, off, none⟩) L) : ∀ j u, (Lab.flat L)[j]? = some u → w.cell? ((⟨b, off, none⟩ : Addr).add j) = some u := by
  intro j u hj
  have hlt : j < L.length * 2 := by
    by_cases h : j < L.length * 2
    · exact h
    · rw [List.getElem?_eq_none (by rw [Lab.flat_len]; omega)] at hj; cases hj
  rcases hr with h | ⟨b', off', h1, h2, h3⟩
  · rw [h] at hlt; simp at hlt
  · cases h1
    have e : (⟨b, off, none⟩ : Addr).add j = ⟨b, off + j, none⟩ := by simp [Addr.add]
    rw [e]
    obtain ⟨g0, g1⟩ := h3 (j / 2) (by omega)
    obtain ⟨y0, y1⟩ := Lab.flat_get L (j / 2) (by omega)
    rcases (show j % 2 = 0 ∨ j % 2 = 1 by omega) with h | h
    · rw [show j = j / 2 * 2 by omega, y0] at hj
      rw [show off + j = off + j / 2 * 2 by omega, g0]; exact hj
    · rw [show j = j / 2 * 2 + 1 by omega, y1] at hj
      rw [show off + j = off + j / 2 * 2 + 1 by omega, g1]; exact hj
theorem lab_one (L : List Lb) : ∀ u ∈ Lab.flat L, u.oneCell' = true := by
  intro u hu
  unfold Lab.flat at hu
  rw [List.mem_flatMap] at hu
  obtain ⟨p, _, hp⟩ := hu
  simp at hp
  rcases hp with rfl | rfl <;> rfl
theorem eqNilL (w : World) (a : Option Addr) (l c : Nat) : (binOp .eql 50 (.slice a l c) (.slice none 0 0)).run Tryz.prog w = .ok (.bool a.isNone) w := Go.run_eql_slice_nil w _ _ a l c Tryz.underlying50
theorem f26 (b off c : Nat) (L : List Lb) (w : World) (h20 : L.length ≤ 1048576) (hr : HasL w (some ⟨b, off, none⟩) L) :
    Calls Tryz.prog 26 #[.slice (some ⟨b, off, none⟩) L.length c] w fun e w' => ∃ v', e = .returned v' ∧ OwnL w' w.heap.size v' L ∧ Below w.heap.size w w' := by
  obtain ⟨i0, hi, hz0, hz1, hz2⟩ := info_parts infoL
  have q := eqNilL
  have HN := hid (lab_cells (hr.alloc (.cells #[] 62)))
  have H1 := hid (lab_one L)
  clear hr
  go_enter Tryz.func26, Tryz.ntmps26
  go_wp2_with (at_builtin; refine wpList_append_own _ rfl (.tmp 5) (.tmp 6) 50 rfl w.heap.size 62 i0 (.agg #[.string ByteArray.empty, .string ByteArray.empty]) 2 32 Tryz.underlying50 hi hz0 hz1 hz2 rfl (by decide) _ _ _ rfl (World.ownsRow_made w #[] 0 (Nat.le_refl _) (Nat.zero_le _) rfl) ⟨b, off, none⟩ L.length c (Lab.flat L) rfl (Lab.flat_len L) HN.out H1.out ?d3 ?d4 ?d5 ?_)
  case d3 => unfold maxLen; omega
  case d4 => omega
  case d5 => simp
  intro v1 w3 hown1 hgr1 _
  go_wp2
  go_ret
  refine ⟨v1, rfl, ?_, ?_⟩
  · unfold OwnL; simpa using hown1
  · exact ((Below.refl _ w).alloc (Nat.le_refl _) _).grown hgr1 (by simp) (by intro k hk; simp [Value.ownBlock] at hk; omega)
theorem f44 (b off c : Nat) (L : List Lb) (w : World) (h20 : L.length ≤ 1048576) (hr : HasL w (some ⟨b, off, none⟩) L) :
    Calls Tryz.prog 44 #[.slice (some ⟨b, off, none⟩) L.length c] w fun e w' => ∃ v', e = .returned v' ∧ OwnL w' w.heap.size v' L ∧ Below w.heap.size w w' := by
  obtain ⟨i0, hi, hz0, hz1, hz2⟩ := info_parts infoL
  have HN := hid (lab_cells hr)
  have H1 := hid (lab_one L)
  clear hr
  go_enter Tryz.func44, Tryz.ntmps44
  go_wp2_with (at_builtin; refine wpList_append_own _ rfl (.tmp 4) (.tmp 5) 50 rfl w.heap.size 62 i0 (.agg #[.string ByteArray.empty, .string ByteArray.empty]) 2 32 Tryz.underlying50 hi hz0 hz1 hz2 rfl (by decide) _ _ _ rfl (World.ownsRow_nil w w.heap.size 62 2) ⟨b, off, none⟩ L.length c (Lab.flat L) rfl (Lab.flat_len L) HN.out H1.out ?d3 ?d4 ?d5 ?_)
  case d3 => unfold maxLen; omega
  case d4 => omega
  case d5 => simp
  intro v1 w3 hown1 hgr1 _
  go_wp2
  go_ret
  refine ⟨v1, rfl, ?_, ?_⟩
  · unfold OwnL; simpa using hown1
  · exact (Below.refl _ w).grown hgr1 (Nat.le_refl _) (by intro k hk; simp [Value.ownBlock] at hk)
end Go.Proofs.YtaekngadfajcaaaGreat.Srs
