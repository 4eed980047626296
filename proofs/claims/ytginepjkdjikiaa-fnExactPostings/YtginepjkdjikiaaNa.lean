/- Lists of numbers that rise: cmp.Compare, isRising. -/
import Derived.Test.YtginepjkdjikiaaIno
import Derived.Deep.RegionHeld3
namespace Go.Proofs.Ytginepjkdjikiaa.Ino
open Go.RowKit

theorem ret_bool {a b : Bool} (h : a = b) : Ending.returned (.bool a) = .returned (.bool b) := by rw [h]
theorem ret_int {k : IntKind} {a b : Int} (h : a = b) : Ending.returned (.int k a) = .returned (.int k b) := by rw [h]
theorem below_undrew {B : Nat} {a w : World} (h : Below B a.drew w) : Below B a w := ⟨h.os, h.tape, h.output, h.size, h.block⟩

/-- The numbers rise. -/
def riseI (l : List Int) : Bool := decide (∀ i, i < l.length → 0 < i → l.getD (i - 1) 0 < l.getD i 0)
/-- A list that can be put together. -/
def num (l : List Int) : Bool := decide (l.length ≤ 1000) && riseI l
def cmpI (x y : Int) : Int := if x < y then -1 else if y < x then 1 else 0

theorem f84 (x : Int) (w : World) : Calls Try.prog 84 #[.int .i64 x] w fun e w' => e = .returned (.bool false) ∧ w' = w := by
  have h : (x != x) = false := by simp
  go_enter Try.func84, Try.ntmps84
  go_wp2
  go_ret
  exact ⟨ret_bool (by simp), rfl⟩

theorem f70 (x y : Int) (w : World) : Calls Try.prog 70 #[.int .i64 x, .int .i64 y] w fun e w' => e = .returned (.int .i64 (cmpI x y)) ∧ w' = w := by
  rcases Int.lt_trichotomy x y with h | h | h
  · have e1 := hid (show cmpI x y = -1 by unfold cmpI; rw [if_pos h])
    go_enter Try.func70, Try.ntmps70
    go_wp2_with (go_at_call 84; refine (f84 _ _).mono ?_; rintro e w2 ⟨rfl, rfl⟩)
    go_ret
    exact ⟨ret_int e1.out.symm, rfl⟩
  · subst h
    have h1 : ¬ x < x := by omega
    have e1 := hid (show cmpI x x = 0 by unfold cmpI; rw [if_neg h1, if_neg h1])
    go_enter Try.func70, Try.ntmps70
    go_wp2_with (go_at_call 84; refine (f84 _ _).mono ?_; rintro e w2 ⟨rfl, rfl⟩)
    go_ret
    exact ⟨ret_int e1.out.symm, rfl⟩
  · have h1 : ¬ x < y := by omega
    have e1 := hid (show cmpI x y = 1 by unfold cmpI; rw [if_neg h1, if_pos h])
    go_enter Try.func70, Try.ntmps70
    go_wp2_with (go_at_call 84; refine (f84 _ _).mono ?_; rintro e w2 ⟨rfl, rfl⟩)
    go_ret
    exact ⟨ret_int e1.out.symm, rfl⟩

theorem cmpI_neg {x y : Int} : cmpI x y < 0 ↔ x < y := by unfold cmpI; split <;> (try split) <;> omega

end Go.Proofs.Ytginepjkdjikiaa.Ino
