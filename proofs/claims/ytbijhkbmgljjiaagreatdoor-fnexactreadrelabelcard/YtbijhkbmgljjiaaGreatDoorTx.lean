/- Lists of texts: szStringS, toStringS, eqStringS. -/
import Derived.Test.YtbijhkbmgljjiaaGreatDoorStr
import Derived.OwnWalk
import Derived.Below
namespace Go.Proofs.YtbijhkbmgljjiaaGreatDoor.Fil
open Go.RowKit

theorem below_drewN {B : Nat} {a w : World} (h : Below B a w) (q : Nat) : Below B a (w.drewN q) := ⟨h.os, h.tape, h.output, h.size, h.block⟩
theorem own_below {w w' : World} {base e size n : Nat} {v : Value} {xs : List Value} (h : w.ownsRow base e size v n xs) (hb : Below w.heap.size w w') : w'.ownsRow base e size v n xs :=
  h.kept (row := none) ⟨hb.os, hb.tape, hb.output, hb.size, fun k hk _ => hb.block k hk⟩ (by cases hv : v.ownBlock <;> simp)
/-- The slice that begins at 'a' holds the texts 'ss' in the world 'w'. -/
def HasT (w : World) (a : Option Addr) (ss : List ByteArray) : Prop :=
  ss = [] ∨ ∃ b off, a = some ⟨b, off, none⟩ ∧ b < w.heap.size ∧ ∀ i, i < ss.length → w.cell? ⟨b, off + i, none⟩ = some (.string (ss.getD i ByteArray.empty))
theorem HasT.below {w w' : World} {a : Option Addr} {ss : List ByteArray} (h : HasT w a ss) (hb : Below w.heap.size w w') : HasT w' a ss := by
  rcases h with h | ⟨b, off, h1, h2, h3⟩
  · exact .inl h
  · exact .inr ⟨b, off, h1, Nat.lt_of_lt_of_le h2 hb.size, fun i hi => (hb.cell (by exact h2)).trans (h3 i hi)⟩
theorem HasT.own {w : World} {base g n c : Nat} {ss : List ByteArray} (h : w.ownsRow base 9 1 (.slice (some ⟨g, 0, none⟩) n c) n (ss.map Value.string)) : HasT w (some ⟨g, 0, none⟩) ss := by
  have hl := h.1
  rw [List.length_map, Nat.mul_one] at hl
  refine .inr ⟨g, 0, rfl, (h.lt g rfl).2, fun i hi => ?_⟩
  rw [Nat.zero_add, h.cellAt i (by omega)]
  simp [hi]
def FitT (ss : List ByteArray) : Prop := ∀ i, (ss.getD i ByteArray.empty).size ≤ maxLen
theorem info9 : (Tryz.prog.info? 9).map (fun i => (i.zero, i.size, i.bytes)) = some (some (.string ByteArray.empty), 1, 16) := by kernel_rfl
theorem stepT_set (ss : List ByteArray) (n k : Nat) (hn : ss.length = n) (hk : k < n) : (ss.take k ++ List.replicate (n - k) ByteArray.empty).set k (ss.getD k ByteArray.empty) = ss.take (k + 1) ++ List.replicate (n - (k + 1)) ByteArray.empty := by
  have hl : (ss.take k).length = k := by simp; omega
  rw [List.set_append_right _ _ (by omega), hl, Nat.sub_self, show n - k = (n - (k + 1)) + 1 from by omega, List.replicate_succ, List.set_cons_zero, List.take_succ_eq_append_getElem (by omega), List.append_assoc]
  congr 2
  simp [hn, hk]

set_option maxHeartbeats 1000000 in
theorem f21 (a a' : Option Addr) (n c c' : Nat) (ss : List ByteArray) (w : World) (hn : ss.length = n) (hb : n ≤ 1048576) (hr : HasT w a ss) (hr' : HasT w a' ss) :
    Calls Tryz.prog 21 #[.slice a n c, .slice a' n c'] w fun e w' => e = .returned (.bool true) ∧ Below w.heap.size w w' := by
  have HN := hid hn
  clear hn
  go_enter Tryz.func21, Tryz.ntmps21
  go_wp2
  go_loopw [5] (fun i wr => ∃ k : Nat, k ≤ n ∧ i = .int .i64 k ∧ Below w.heap.size w wr) (fun i _ => n - (intOf i).toNat)
  case atStart => exact ⟨0, Nat.zero_le _, rfl, Below.refl _ _⟩
  case round =>
    obtain ⟨k, hk, rfl, hnx⟩ := hrel
    have HX := hid hnx
    by_cases hlt : k < n
    · rcases hr with hr | ⟨b, off, rfl, hbl, hc⟩
      · exact absurd HN.out (by rw [hr]; simp; omega)
      rcases hr' with hr | ⟨b', off', rfl, hbl', hc'⟩
      · exact absurd HN.out (by rw [hr]; simp; omega)
      have d0 := (hnx.cell (p := ⟨b, off + k, none⟩) hbl).trans (hc k (by rw [HN.out]; exact hlt))
      have d0' := (hnx.cell (p := ⟨b', off' + k, none⟩) hbl').trans (hc' k (by rw [HN.out]; exact hlt))
      have i1 : (k : Int) < (n : Int) := by omega
      clear hc hc' hnx
      generalize ss.getD k ByteArray.empty = s at *
      go_wp2
      go_quiet (fail)
      go_wp2
      go_roundw
      case rel => exact ⟨k + 1, by omega, by go_num, below_drewN HX.out _⟩
      case measure => simp [intOf]; omega
    · go_wp2
      go_ret
      exact ⟨rfl, HX.out⟩

end Go.Proofs.YtbijhkbmgljjiaaGreatDoor.Fil
