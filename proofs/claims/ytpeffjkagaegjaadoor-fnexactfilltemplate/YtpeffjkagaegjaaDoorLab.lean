/- Lists of labels: what szLabelS, toLabelS and eqLabelS come to. -/
import Derived.Test.YtpeffjkagaegjaaDoorCmp
namespace Go.Proofs.YtpeffjkagaegjaaDoor.Lab
open Go.RowKit Go.Proofs.YtpeffjkagaegjaaDoor.Str

abbrev Lb := ByteArray × ByteArray
def e0 : Lb := (ByteArray.empty, ByteArray.empty)

/-- The slice that begins at 'a' holds the labels 'ls' in the world 'w'. -/
def HasL (w : World) (a : Option Addr) (ls : List Lb) : Prop :=
  ls = [] ∨ ∃ b off, a = some ⟨b, off, none⟩ ∧ b < w.heap.size ∧ ∀ i, i < ls.length → w.cell? ⟨b, off + i * 2, none⟩ = some (.string (ls.getD i e0).1) ∧ w.cell? ⟨b, off + i * 2 + 1, none⟩ = some (.string (ls.getD i e0).2)

theorem HasL.below {w w' : World} {a : Option Addr} {ls : List Lb} (h : HasL w a ls) (hb : Below w.heap.size w w') : HasL w' a ls := by
  rcases h with h | ⟨b, off, h1, h2, h3⟩
  · exact .inl h
  · exact .inr ⟨b, off, h1, Nat.lt_of_lt_of_le h2 hb.size, fun i hi => ⟨(hb.cell (by exact h2)).trans (h3 i hi).1, (hb.cell (by exact h2)).trans (h3 i hi).2⟩⟩
theorem HasL.alloc {w : World} {a : Option Addr} {ls : List Lb} (h : HasL w a ls) (o : Obj) : HasL (w.alloc o) a ls := h.below ((Below.refl _ _).alloc (Nat.le_refl _) o)

/-- All texts are such as a machine can hold. -/
def Fit (ls : List Lb) : Prop := ∀ i, (ls.getD i e0).1.size ≤ maxLen ∧ (ls.getD i e0).2.size ≤ maxLen

theorem f9 (s t : ByteArray) (x : Int) (w : World) (hs : s.size ≤ maxLen) (ht : t.size ≤ maxLen) (hx0 : 0 ≤ x) (hx1 : x ≤ 1048576) :
    Calls Tryd.prog 9 #[.agg #[.string s, .string t], .int .i64 x] w fun e w' => ∃ y : Int, e = .returned (.int .i64 y) ∧ -1 ≤ y ∧ y ≤ 1048576 ∧ Below w.heap.size w w' := by
  unfold maxLen at hs ht
  have hb := (Below.refl w.heap.size w).alloc (Nat.le_refl _) (.cells #[.string s, .string t] 31)
  have HB := hid hb
  clear hb
  by_cases h1 : x < s.size
  · go_enter Tryd.func9, Tryd.ntmps9
    go_wp2
    go_ret
    exact ⟨-1, rfl, by omega, by omega, HB.out⟩
  · by_cases h2 : x < s.size + t.size
    · go_enter Tryd.func9, Tryd.ntmps9
      go_wp2
      go_ret
      exact ⟨-1, rfl, by omega, by omega, HB.out⟩
    · go_enter Tryd.func9, Tryd.ntmps9
      go_wp2
      go_ret
      exact ⟨_, rfl, by omega, by omega, HB.out⟩

set_option maxHeartbeats 1000000 in
theorem f4 (a : Option Addr) (n c : Nat) (ls : List Lb) (w : World) (hn : ls.length = n) (hr : HasL w a ls) (hf : Fit ls) (hmax : n ≤ maxLen) :
    Calls Tryd.prog 4 #[.slice a n c, .int .i64 1048576] w fun e w' => ∃ y : Int, e = .returned (.int .i64 y) ∧ (0 ≤ y → n ≤ 1048576) ∧ -1 ≤ y ∧ y ≤ 1048576 ∧ Below w.heap.size w w' := by
  unfold maxLen at hmax
  by_cases hbig : n ≤ 1048576
  · have HN := hid hn
    clear hn
    go_enter Tryd.func4, Tryd.ntmps4
    go_wp2
    go_loopw [1, 5] (fun sx i wr => ∃ (k : Nat) (x : Int), k ≤ n ∧ i = .int .i64 k ∧ sx = .int .i64 x ∧ 0 ≤ x ∧ x ≤ 1048576 ∧ Below w.heap.size w wr) (fun _ i _ => n - (intOf i).toNat)
    case atStart => exact ⟨0, _, Nat.zero_le _, rfl, rfl, by omega, by omega, Below.refl _ _⟩
    case round =>
      obtain ⟨k, x, hk, rfl, rfl, hx0, hx1, hb⟩ := hrel
      have HB := hid hb
      by_cases hlt : k < n
      · rcases hr with h | ⟨b, off, rfl, h2, h3⟩
        · exfalso; rw [h] at HN; have := HN.out; simp at this; omega
        obtain ⟨c0, c1⟩ := h3 k (by rw [HN.out]; exact hlt)
        obtain ⟨g0, g1⟩ := hf k
        have d0 := (hb.cell (p := ⟨b, off + k * 2, none⟩) h2).trans c0
        have d1 := (hb.cell (p := ⟨b, off + k * 2 + 1, none⟩) h2).trans c1
        clear h3 c0 c1 hb
        generalize (ls.getD k e0).1 = s at *
        generalize (ls.getD k e0).2 = t at *
        go_wp2_with fail
        refine (f9 s t x _ g0 g1 hx0 hx1).mono ?_
        rintro e w2 ⟨y, rfl, y0, y1, hb2⟩
        have HB2 := hid (HB.out.trans (hb2.mono HB.out.size))
        clear hb2 d0 d1
        by_cases hy : y < 0
        · go_wp2
          go_ret
          exact ⟨-1, rfl, fun h => absurd h (by omega), by omega, by omega, HB2.out⟩
        · go_wp2
          go_roundw
          case rel => exact ⟨k + 1, y, by omega, by go_num, rfl, by omega, y1, HB2.out⟩
          case measure => simp [intOf]; omega
      · go_wp2
        go_ret
        exact ⟨x, rfl, fun _ => hbig, by omega, hx1, HB.out⟩
  · go_enter Tryd.func4, Tryd.ntmps4
    go_wp2
    go_ret
    exact ⟨-1, rfl, by omega, by omega, by omega, Below.refl _ _⟩

set_option maxHeartbeats 1000000 in
theorem f13 (s t : ByteArray) (w : World) : Calls Tryd.prog 13 #[.agg #[.string s, .string t]] w fun e w' => e = .returned (.agg #[.string s, .string t]) ∧ Below w.heap.size w w' := by
  go_enter Tryd.func13, Tryd.ntmps13
  go_wp2
  refine bodyPost_ret (v := .agg #[.string s, .string t]) (by simp [results, Tryd.results13, go_sem]) rfl ⟨rfl, ?_⟩
  exact (((Below.refl w.heap.size w).alloc (Nat.le_refl _) _).alloc (by simp) _).alloc (by simp; omega) _

/-- The cells of a row of labels. -/
def flat (L : List Lb) : List Value := L.flatMap fun p => [.string p.1, .string p.2]
theorem flat_nil : flat [] = [] := rfl
theorem flat_cons (p : Lb) (L : List Lb) : flat (p :: L) = .string p.1 :: .string p.2 :: flat L := rfl
theorem flat_len (L : List Lb) : (flat L).length = L.length * 2 := by
  induction L with
  | nil => rfl
  | cons p L ih => rw [flat_cons]; simp [ih]; omega
theorem flat_get : ∀ (L : List Lb) (i : Nat), i < L.length → (flat L)[i * 2]? = some (.string (L.getD i e0).1) ∧ (flat L)[i * 2 + 1]? = some (.string (L.getD i e0).2) := by
  intro L
  induction L with
  | nil => intro i h; simp at h
  | cons p L ih =>
    intro i h
    cases i with
    | zero => exact ⟨rfl, rfl⟩
    | succ i =>
      have := ih i (by simpa using h)
      rw [flat_cons, show (i + 1) * 2 = i * 2 + 1 + 1 from by omega, show i * 2 + 1 + 1 + 1 = (i * 2 + 1) + 1 + 1 from rfl]
      simpa using this
theorem flat_set : ∀ (L : List Lb) (i : Nat) (s t : ByteArray), i < L.length → ((flat L).set (i * 2) (.string s)).set (i * 2 + 1) (.string t) = flat (L.set i (s, t)) := by
  intro L
  induction L with
  | nil => intro i s t h; simp at h
  | cons p L ih =>
    intro i s t h
    cases i with
    | zero => rfl
    | succ i =>
      have := ih i s t (by simpa using h)
      rw [List.set_cons_succ, flat_cons, flat_cons, ← this, show (i + 1) * 2 = i * 2 + 1 + 1 from by omega, show i * 2 + 1 + 1 + 1 = (i * 2 + 1) + 1 + 1 from rfl]
      rfl
theorem made_two (n : Nat) : (madeCells #[.string ByteArray.empty, .string ByteArray.empty] (n * 2)).toList = flat (List.replicate n e0) := by
  apply List.ext_getElem?
  intro j
  by_cases hj : j < n * 2
  · have e1 : (madeCells #[.string ByteArray.empty, .string ByteArray.empty] (n * 2)).toList[j]? = some (.string ByteArray.empty) := by
      have h2 : j % 2 = 0 ∨ j % 2 = 1 := by omega
      unfold madeCells
      simp [hj]
      rcases h2 with h | h <;> rw [h] <;> rfl
    rw [e1]
    obtain ⟨g0, g1⟩ := flat_get (List.replicate n e0) (j / 2) (by simp; omega)
    have h2 : (List.replicate n e0).getD (j / 2) e0 = e0 := by
      rw [List.getD_eq_getElem?_getD, List.getElem?_replicate]; split <;> rfl
    rw [h2] at g0 g1
    rcases (show j = j / 2 * 2 ∨ j = j / 2 * 2 + 1 by omega) with h | h
    · rw [h]; exact g0.symm
    · rw [h]; exact g1.symm
  · rw [List.getElem?_eq_none (by simp [size_madeCells]; omega), List.getElem?_eq_none (by rw [flat_len]; simp; omega)]

theorem own_below {w w' : World} {base e size n : Nat} {v : Value} {xs : List Value} (h : w.ownsRow base e size v n xs) (hb : Below w.heap.size w w') : w'.ownsRow base e size v n xs :=
  h.kept (row := none) ⟨hb.os, hb.tape, hb.output, hb.size, fun k hk _ => hb.block k hk⟩ (by cases hv : v.ownBlock <;> simp)
theorem HasL.own {w : World} {base g n c : Nat} {ls : List Lb} (h : w.ownsRow base 34 2 (.slice (some ⟨g, 0, none⟩) n c) n (flat ls)) : HasL w (some ⟨g, 0, none⟩) ls := by
  have hl := h.1
  rw [flat_len] at hl
  refine .inr ⟨g, 0, rfl, (h.lt g rfl).2, fun i hi => ?_⟩
  obtain ⟨h0, h1⟩ := flat_get ls i hi
  rw [Nat.zero_add]
  exact ⟨(h.cellAt (i * 2) (by omega)).trans h0, (h.cellAt (i * 2 + 1) (by omega)).trans h1⟩

theorem info50 : (Tryd.prog.info? 34).map (fun i => (i.zero, i.size, i.bytes)) = some (some (.agg #[.string ByteArray.empty, .string ByteArray.empty]), 2, 32) := by kernel_rfl

theorem step_set (ls : List Lb) (n k : Nat) (hn : ls.length = n) (hk : k < n) : (ls.take k ++ List.replicate (n - k) e0).set k (ls.getD k e0) = ls.take (k + 1) ++ List.replicate (n - (k + 1)) e0 := by
  have hl : (ls.take k).length = k := by simp; omega
  rw [List.set_append_right _ _ (by omega), hl, Nat.sub_self, show n - k = (n - (k + 1)) + 1 from by omega, List.replicate_succ, List.set_cons_zero, List.take_succ_eq_append_getElem (by omega), List.append_assoc]
  congr 2
  simp [hn, hk]
theorem step_len (ls : List Lb) (n k : Nat) (hn : ls.length = n) (hk : k ≤ n) : (ls.take k ++ List.replicate (n - k) e0).length = n := by simp; omega

set_option maxHeartbeats 1000000 in
theorem f6 (a : Option Addr) (n c : Nat) (ls : List Lb) (w : World) (hn : ls.length = n) (hb : n ≤ 1048576) (hr : HasL w a ls) :
    Calls Tryd.prog 6 #[.slice a n c] w fun e w' => e = .returned (.slice (some ⟨w.heap.size, 0, none⟩) n n) ∧
      w'.ownsRow w.heap.size 34 2 (.slice (some ⟨w.heap.size, 0, none⟩) n n) n (flat ls) ∧ Below w.heap.size w w' := by
  obtain ⟨i0, hi, hz0, hz1, hz2⟩ := info_parts info50
  have HN : Hid (ls.length = n) := hn
  clear hn
  go_enter Tryd.func6, Tryd.ntmps6
  go_wp2_with (at_make; refine wpList_make_full _ rfl _ _ 25 rfl w.heap.size 34 i0 (.agg #[.string ByteArray.empty, .string ByteArray.empty]) 2 Tryd.underlying25 hi hz0 hz1 _ _ _ _ n rfl rfl rfl rfl ?b2 ?b3 (Nat.le_refl _) ?_)
  case b2 => rw [hz2]; omega
  case b3 => unfold maxLen; omega
  intro w0 hown0 hgrow0
  have hown1 : Hid (w0.ownsRow w.heap.size 34 2 (.slice (some ⟨w.heap.size, 0, none⟩) n n) n (flat (List.replicate n e0))) := by
    rw [← made_two]; exact hown0
  have hb0 := hid ((Below.refl w.heap.size w).grown hgrow0 (Nat.le_refl _) (fun k h => by cases h))
  clear hown0 hgrow0
  go_wp2
  go_loopw [4] (fun i wr => ∃ k : Nat, k ≤ n ∧ i = .int .i64 k ∧ wr.ownsRow w.heap.size 34 2 (.slice (some ⟨w.heap.size, 0, none⟩) n n) n (flat (ls.take k ++ List.replicate (n - k) e0)) ∧ Below w.heap.size w wr)
    (fun i _ => n - (intOf i).toNat)
  case atStart => exact ⟨0, Nat.zero_le _, rfl, by simpa using hown1.out, hb0.out⟩
  case round =>
    obtain ⟨k, hk, rfl, hown, hnx⟩ := hrel
    by_cases hlt : k < n
    · rcases hr with hr | ⟨b, off, rfl, hbl, hc⟩
      · exact absurd HN.out (by rw [hr]; simp; omega)
      · obtain ⟨c0, c1⟩ := hc k (by rw [HN.out]; exact hlt)
        have d0 := (hnx.cell (p := ⟨b, off + k * 2, none⟩) hbl).trans c0
        have d1 := (hnx.cell (p := ⟨b, off + k * 2 + 1, none⟩) hbl).trans c1
        have HO := hid hown
        have HX := hid hnx
        have HST := hid (step_set ls n k HN.out hlt)
        have HSL := hid (step_len ls n k HN.out hk)
        clear hc c0 c1 hown hnx hown1 hb0
        generalize hp : ls.getD k e0 = p at *
        obtain ⟨s, t⟩ := p
        clear hp
        go_wp2_with fail
        refine (f13 s t _).mono ?_
        rintro e w2 ⟨rfl, hb2⟩
        have HO2 := hid (own_below HO.out hb2)
        have HX2 := hid (HX.out.trans (hb2.mono HX.out.size))
        have f0 := HO2.out.frozenAt (k * 2)
        have f1 := HO2.out.frozenAt (k * 2 + 1)
        have e0' := HO2.out.cellAt (k * 2) (by omega)
        have e1' := HO2.out.cellAt (k * 2 + 1) (by omega)
        obtain ⟨y0, y1⟩ := flat_get _ k (by rw [HSL.out]; exact hlt)
        rw [y0] at e0'
        rw [y1] at e1'
        have HS2 := hid (((HO2.out.stored (k * 2) (.string s)).1.stored (k * 2 + 1) (.string t)).1)
        clear hb2 y0 y1
        go_wp2
        go_roundw
        case rel =>
          refine ⟨k + 1, by omega, by go_num, ?_, (HX2.out.setCell (Nat.le_refl _) _).setCell (Nat.le_refl _) _⟩
          have := HS2.out
          rw [flat_set _ k s t (by rw [HSL.out]; exact hlt), HST.out] at this
          exact this
        case measure => simp [intOf]; omega
    · go_wp2
      go_ret
      have : k = n := by omega
      subst this
      refine ⟨rfl, ?_, hnx⟩
      have e := HN.out
      simpa [← e] using hown

theorem f17 (s t : ByteArray) (w : World) : Calls Tryd.prog 17 #[.agg #[.string s, .string t], .agg #[.string s, .string t]] w fun e w' => e = .returned (.bool true) ∧ Below w.heap.size w w' := by
  have hb := hid (((Below.refl w.heap.size w).alloc (Nat.le_refl _) (.cells #[.string s, .string t] 34)).alloc (by simp) (.cells #[.string s, .string t] 34))
  go_enter Tryd.func17, Tryd.ntmps17
  go_wp2
  go_ret
  exact ⟨rfl, hb.out⟩
end Go.Proofs.YtpeffjkagaegjaaDoor.Lab
