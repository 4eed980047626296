/- Slices of bytes: what toByteS, eqByteS, markByteS and heldByteS come to. -/
import Derived.Test.YteblbcbfaomdmaaDoorRows
import Derived.WalkKit
import Derived.ProofKit
import Derived.Handy
import Derived.BigQuiet
import Derived.Deep.QuietTactic
namespace Go.Proofs.YteblbcbfaomdmaaDoor.Byt
open Go.RowKit

theorem info5 : (Tryd.prog.info? 5).map (fun i => (i.zero, i.size, i.bytes)) = some (some (.int .u8 0), 1, 1) := by kernel_rfl

/-- The slice that begins at 'a' holds the bytes 'zs' in the world 'w'. -/
def Has (w : World) (a : Option Addr) (zs : List Int) : Prop :=
  zs = [] ∨ ∃ b off, a = some ⟨b, off, none⟩ ∧ b < w.heap.size ∧ ∀ i, i < zs.length → w.cell? ⟨b, off + i, none⟩ = some (.int .u8 (zs.getD i 0))

theorem Has.below {w w' : World} {a : Option Addr} {zs : List Int} (h : Has w a zs) (hb : Below w.heap.size w w') : Has w' a zs := by
  rcases h with h | ⟨b, off, h1, h2, h3⟩
  · exact .inl h
  · exact .inr ⟨b, off, h1, Nat.lt_of_lt_of_le h2 hb.size, fun i hi => (hb.cell (by exact h2)).trans (h3 i hi)⟩

theorem Has.own {w : World} {base g n c : Nat} {zs : List Int} (h : w.ownsRow base 5 1 (.slice (some ⟨g, 0, none⟩) n c) n (zs.map (Value.int .u8))) : Has w (some ⟨g, 0, none⟩) zs := by
  have hl := h.lt g rfl
  have hlen : zs.length = n := by have := h.1; simpa using this
  refine .inr ⟨g, 0, rfl, hl.2, fun i hi => ?_⟩
  have := h.cellAt i (by omega)
  rw [Nat.zero_add, this, List.getElem?_map, List.getElem?_eq_getElem hi]
  simp [hi]

/-- A slice of bytes that came in, as the row's frame tells it. -/
theorem has_of_row {w : World} {a : Option Addr} {len cap : Nat} {zs : List Int}
    (h : (a = none ∧ len = 0 ∧ cap = 0 ∧ zs = []) ∨
      ∃ x, a = some x ∧ len ≤ cap ∧ cap ≤ maxLen ∧ zs.length = cap ∧ (∀ i, i < zs.length → w.cell? (x.add i) = some (.int .u8 (zs.getD i 0))) ∧ ∀ n ∈ zs, (Lit.int .u8 n).wf = true) :
    (zs.take len).length = len ∧ Has w a (zs.take len) := by
  rcases h with ⟨rfl, rfl, rfl, rfl⟩ | ⟨x, rfl, hl, hm, hz, hc, hw⟩
  · exact ⟨rfl, .inl rfl⟩
  · have e : (zs.take len).length = len := by rw [List.length_take]; omega
    refine ⟨e, ?_⟩
    by_cases h0 : len = 0
    · subst h0; exact .inl rfl
    · obtain ⟨b, off, spot⟩ := x
      have h1 := hc 0 (by omega)
      have hs : spot = none := by simpa [Addr.add] using World.cell?_spot h1
      subst hs
      have hlt := World.block_lt_of_cell? w _ h1
      refine .inr ⟨b, off, rfl, hlt, fun i hi => ?_⟩
      have h2 := hc i (by omega)
      rw [e] at hi
      have h3 : (zs.take len).getD i 0 = zs.getD i 0 := by simp [hi]
      rw [h3, ← h2]
      by_cases hi0 : i = 0
      · subst hi0; simp [Addr.add]
      · simp [Addr.add, hi0]

theorem bytes_of_row {w : World} {a : Option Addr} {len cap : Nat} {zs : List Int}
    (h : (a = none ∧ len = 0 ∧ cap = 0 ∧ zs = []) ∨
      ∃ x, a = some x ∧ len ≤ cap ∧ cap ≤ maxLen ∧ zs.length = cap ∧ (∀ i, i < zs.length → w.cell? (x.add i) = some (.int .u8 (zs.getD i 0))) ∧ ∀ n ∈ zs, (Lit.int .u8 n).wf = true) :
    ∀ j, 0 ≤ (zs.take len).getD j 0 ∧ (zs.take len).getD j 0 ≤ 255 := by
  intro j
  rcases h with ⟨rfl, rfl, rfl, rfl⟩ | ⟨x, rfl, hl, hm, hz, hc, hw⟩
  · simp
  · by_cases hj : j < (zs.take len).length
    · have hm := List.getElem_mem hj
      have := bounds_u8 (hw _ (List.mem_of_mem_take hm))
      simpa [List.getD_eq_getElem?_getD, List.getElem?_eq_getElem hj] using this
    · simp [List.getD_eq_getElem?_getD, List.getElem?_eq_none (Nat.le_of_not_lt hj)]

theorem set_step (zs : List Int) (n k : Nat) (hn : zs.length = n) (hk : k < n) :
    ((zs.take k).map (Value.int .u8) ++ List.replicate (n - k) (Value.int .u8 0)).set k (Value.int .u8 (zs.getD k 0)) = (zs.take (k + 1)).map (Value.int .u8) ++ List.replicate (n - (k + 1)) (Value.int .u8 0) := by
  have hkz : k < zs.length := by omega
  have e1 : n - k = (n - (k + 1)) + 1 := by omega
  rw [List.set_append_right _ _ (by simp; omega), List.take_succ_eq_append_getElem hkz, e1, List.replicate_succ, List.map_append, List.append_assoc]
  simp [hkz, List.length_take, Nat.min_eq_left (Nat.le_of_lt hkz)]

theorem set_old (zs : List Int) (n k : Nat) (hn : zs.length = n) (hk : k < n) :
    ((zs.take k).map (Value.int .u8) ++ List.replicate (n - k) (Value.int .u8 0))[k]? = some (Value.int .u8 0) := by
  have hkz : k < zs.length := by omega
  rw [List.getElem?_append_right (by simp; omega), List.getElem?_replicate, if_pos (by simp; omega)]

set_option maxHeartbeats 400000 in
theorem f57 (a : Option Addr) (n c : Nat) (zs : List Int) (w : World) (hn : zs.length = n) (hb : n ≤ 140737488351232) (hr : Has w a zs) :
    Calls Tryd.prog 57 #[.slice a n c] w fun e w' => e = .returned (.slice (some ⟨w.heap.size, 0, none⟩) n n) ∧
      w'.ownsRow w.heap.size 5 1 (.slice (some ⟨w.heap.size, 0, none⟩) n n) n (zs.map (Value.int .u8)) ∧ Below w.heap.size w w' := by
  obtain ⟨i0, hi, hz0, hz1, hz2⟩ := info_parts info5
  have HN : Hid (zs.length = n) := hn
  clear hn
  go_enter Tryd.func57, Tryd.ntmps57
  go_wp2_with (at_make; refine wpList_make_full _ rfl _ _ 22 rfl w.heap.size 5 i0 (.int .u8 0) 1 Tryd.underlying22 hi hz0 hz1 _ _ _ _ n rfl rfl rfl rfl ?b2 ?b3 (Nat.le_refl _) ?_)
  case b2 => rw [hz2]; omega
  case b3 => unfold maxLen; omega
  intro w0 hown0 hgrow0
  go_wp2
  go_loopw [4] (fun i wr => ∃ k : Nat, k ≤ n ∧ i = .int .i64 k ∧ wr.ownsRow w.heap.size 5 1 (.slice (some ⟨w.heap.size, 0, none⟩) n n) n ((zs.take k).map (Value.int .u8) ++ List.replicate (n - k) (Value.int .u8 0)) ∧ Below w.heap.size w wr)
    (fun i _ => n - (intOf i).toNat)
  case atStart => exact ⟨0, Nat.zero_le _, rfl, by simpa [toList_madeCells_one, Value.cells] using hown0, (Below.refl _ _).grown hgrow0 (Nat.le_refl _) (fun k h => by cases h)⟩
  case round =>
    obtain ⟨k, hk, rfl, hown, hnx⟩ := hrel
    by_cases hlt : k < n
    · rcases hr with hr | ⟨b, off, rfl, hbl, hc⟩
      · exact absurd HN.out (by rw [hr]; simp; omega)
      · have hcx : wr.cell? ⟨b, off + k, none⟩ = some (.int .u8 (zs.getD k 0)) := (hnx.cell (by exact hbl)).trans (hc k (by rw [HN.out]; exact hlt))
        have hfz := hown.frozenAt k
        have hce := (hown.cellAt k (by omega)).trans (set_old zs n k HN.out hlt)
        have HS := hown.stored k (.int .u8 (zs.getD k 0))
        rw [set_step zs n k HN.out hlt] at HS
        have HS' : Hid _ := HS
        have HO : Hid _ := hown
        clear HS hown
        go_wp2
        go_roundw
        case rel => exact ⟨k + 1, by omega, by go_num, HS'.out.1, hnx.setCell (Nat.le_refl _) _⟩
        case measure => simp [intOf]; omega
    · go_wp2
      go_ret
      have : k = n := by omega
      subst this
      refine ⟨rfl, ?_, hnx⟩
      have e := HN.out
      simpa [← e] using hown

/-- Two slices of the same bytes are alike. -/
theorem f49 (a a' : Option Addr) (n n' c c' : Nat) (zs : List Int) (w : World) (hn : zs.length = n) (hn' : n' = n) (hb : n ≤ 140737488351232) (hr : Has w a zs) (hr' : Has w a' zs) :
    Calls Tryd.prog 49 #[.slice a n c, .slice a' n' c'] w fun e w' => e = .returned (.bool true) ∧ ∃ q, w' = w.drewN q := by
  subst hn'
  have HN : Hid (zs.length = n') := hn
  clear hn
  have hne : ((n' : Int) != (n' : Int)) = false := by simp
  go_enter Tryd.func49, Tryd.ntmps49
  go_wp2
  go_loopw [5] (fun i wr => ∃ k : Nat, k ≤ n' ∧ i = .int .i64 k ∧ ∃ q, wr = w.drewN q) (fun i _ => n' - (intOf i).toNat)
  case atStart => exact ⟨0, Nat.zero_le _, rfl, 0, rfl⟩
  case round =>
    obtain ⟨k, hk, rfl, q, rfl⟩ := hrel
    by_cases hlt : k < n'
    · rcases hr with hr | ⟨b, off, rfl, hbl, hc⟩
      · exact absurd HN.out (by rw [hr]; simp; omega)
      · rcases hr' with hr' | ⟨b', off', rfl, hbl', hc'⟩
        · exact absurd HN.out (by rw [hr']; simp; omega)
        · have h1 : w.cell? ⟨b, off + k, none⟩ = some (.int .u8 (zs.getD k 0)) := hc k (by rw [HN.out]; exact hlt)
          have h2 : w.cell? ⟨b', off' + k, none⟩ = some (.int .u8 (zs.getD k 0)) := hc' k (by rw [HN.out]; exact hlt)
          have hd : (zs.getD k 0 != zs.getD k 0) = false := by simp
          clear hc hc'
          go_wp2
          go_quiet (fail)
          go_wp2
          go_roundw
          case rel => exact ⟨k + 1, by omega, by go_num, _, rfl⟩
          case measure => simp [intOf]; omega
    · go_wp2
      go_ret
      exact ⟨rfl, q, rfl⟩

/-- What markByteS leaves of n bytes: k, k + 1, .. as bytes. -/
def mark (k : Int) (i : Nat) : Int := (k + (i : Int)) % 256
def marks (k : Int) (n : Nat) : List Int := (List.range n).map (mark k)
theorem marks_len (k : Int) (n : Nat) : (marks k n).length = n := by simp [marks]
theorem marks_get (k : Int) (n i : Nat) (h : i < n) : (marks k n).getD i 0 = mark k i := by simp [marks, h]

theorem mark_step (k : Int) (xs : List Int) (n i : Nat) (hn : xs.length = n) (hi : i < n) :
    ((marks k i).map (Value.int .u8) ++ (xs.drop i).map (Value.int .u8)).set i (Value.int .u8 (mark k i)) = (marks k (i + 1)).map (Value.int .u8) ++ (xs.drop (i + 1)).map (Value.int .u8) := by
  have hx : i < xs.length := by omega
  have e : (marks k (i + 1)).map (Value.int .u8) = (marks k i).map (Value.int .u8) ++ [Value.int .u8 (mark k i)] := by simp [marks, List.range_succ]
  rw [List.set_append_right _ _ (by simp [marks_len]), List.drop_eq_getElem_cons hx, e, List.map_cons, List.append_assoc, List.length_map, marks_len, Nat.sub_self, List.set_cons_zero]
  rfl

theorem mark_old (k : Int) (xs : List Int) (n i : Nat) (hn : xs.length = n) (hi : i < n) :
    ∃ u, ((marks k i).map (Value.int .u8) ++ (xs.drop i).map (Value.int .u8))[i]? = some u :=
  ⟨_, List.getElem?_eq_getElem (by simp [marks_len]; omega)⟩

theorem grownBy_refl (w : World) (r : Option Nat) : w.grownBy w r := ⟨rfl, rfl, rfl, Nat.le_refl _, fun _ _ _ => rfl⟩
theorem grownBy_trans {a b c : World} {r : Option Nat} (h : a.grownBy b r) (k : b.grownBy c r) : a.grownBy c r :=
  ⟨k.os.trans h.os, k.tape.trans h.tape, k.output.trans h.output, Nat.le_trans h.size k.size, fun i hi hne => (k.block i (Nat.lt_of_lt_of_le hi h.size) hne).trans (h.block i hi hne)⟩

set_option maxHeartbeats 400000 in
theorem f51 (g n c base : Nat) (k : Int) (xs : List Int) (w : World) (hk : 0 ≤ k) (hk' : k ≤ 1000) (hb : n ≤ 140737488351232) (hown : w.ownsRow base 5 1 (.slice (some ⟨g, 0, none⟩) n c) n (xs.map (Value.int .u8))) :
    Calls Tryd.prog 51 #[.slice (some ⟨g, 0, none⟩) n c, .int .i64 k] w fun e w' => e = .returned (.int .i64 (k + n)) ∧
      w'.ownsRow base 5 1 (.slice (some ⟨g, 0, none⟩) n c) n ((marks k n).map (Value.int .u8)) ∧ w.grownBy w' (some g) := by
  have HN : Hid (xs.length = n) := by have h := hown.1; rw [List.length_map, Nat.mul_one] at h; exact h
  go_enter Tryd.func51, Tryd.ntmps51
  go_wp2
  go_loopw [1, 5] (fun kk i wr => ∃ j : Nat, j ≤ n ∧ i = .int .i64 j ∧ kk = .int .i64 (k + j) ∧ wr.ownsRow base 5 1 (.slice (some ⟨g, 0, none⟩) n c) n ((marks k j).map (Value.int .u8) ++ (xs.drop j).map (Value.int .u8)) ∧ w.grownBy wr (some g))
    (fun _ i _ => n - (intOf i).toNat)
  case atStart => exact ⟨0, Nat.zero_le _, rfl, by go_num, by simpa [marks] using hown, grownBy_refl _ _⟩
  case round =>
    obtain ⟨j, hj, rfl, rfl, hownj, hg⟩ := hrel
    clear hown
    by_cases hlt : j < n
    · obtain ⟨u, hu⟩ := mark_old k xs n j HN.out hlt
      have hce := (hownj.cellAt j (by omega)).trans hu
      have hfz := hownj.frozenAt j
      have HS : Hid _ := hownj.stored j (.int .u8 (mark k j))
      have hw8 : IntKind.u8.wrap (k + (j : Int)) = mark k j := by rw [IntKind.wrap_u8]; rfl
      clear hownj hu
      go_wp2
      go_roundw
      case rel =>
        have hst := HS.out
        rw [mark_step k xs n j HN.out hlt] at hst
        exact ⟨j + 1, by omega, by go_num, by go_num, hst.1, grownBy_trans hg hst.2⟩
      case measure => simp [intOf]; omega
    · go_wp2
      go_ret
      have : j = n := by omega
      subst this
      refine ⟨rfl, ?_, hg⟩
      have e := HN.out
      simpa [← e] using hownj

theorem f52 (g n c : Nat) (k : Int) (w : World) (hk : 0 ≤ k) (hk' : k ≤ 1000) (hb : n ≤ 140737488351232) (hr : Has w (some ⟨g, 0, none⟩) (marks k n)) :
    Calls Tryd.prog 52 #[.slice (some ⟨g, 0, none⟩) n c, .int .i64 k] w fun e w' => e = .returned (.int .i64 (k + n)) ∧ ∃ q, w' = w.drewN q := by
  have HC : Hid (∀ i, i < n → w.cell? ⟨g, i, none⟩ = some (.int .u8 (mark k i))) := by
    intro i hi
    rcases hr with h | ⟨b, off, h1, h2, h3⟩
    · have := congrArg List.length h; simp [marks_len] at this; omega
    · simp only [Option.some.injEq, Addr.mk.injEq, and_true] at h1
      obtain ⟨rfl, rfl⟩ := h1
      have := h3 i (by rw [marks_len]; exact hi)
      rw [marks_get k n i hi, Nat.zero_add] at this
      exact this
  clear hr
  go_enter Tryd.func52, Tryd.ntmps52
  go_wp2
  go_loopw [1, 5] (fun kk i wr => ∃ j : Nat, j ≤ n ∧ i = .int .i64 j ∧ kk = .int .i64 (k + j) ∧ ∃ q, wr = w.drewN q) (fun _ i _ => n - (intOf i).toNat)
  case atStart => exact ⟨0, Nat.zero_le _, rfl, by go_num, 0, rfl⟩
  case round =>
    obtain ⟨j, hj, rfl, rfl, q, rfl⟩ := hrel
    by_cases hlt : j < n
    · have hc := HC.out j hlt
      have hw8 : IntKind.u8.wrap (k + (j : Int)) = mark k j := by rw [IntKind.wrap_u8]; rfl
      have hd : (mark k j != mark k j) = false := by simp
      go_wp2
      go_roundw
      case rel => exact ⟨j + 1, by omega, by go_num, by go_num, _, rfl⟩
      case measure => simp [intOf]; omega
    · go_wp2
      go_ret
      have : j = n := by omega
      subst this
      exact ⟨rfl, q, rfl⟩
end Go.Proofs.YteblbcbfaomdmaaDoor.Byt
