/- Lists of numbers that rise: cmp.Compare, isRising. -/
import Derived.Test.YthcogkoleiejgaaGreatDoorRIno
import Derived.Deep.RegionHeld3
namespace Go.Proofs.YthcogkoleiejgaaGreatDoor.Ino
open Go.RowKit

theorem ret_bool {a b : Bool} (h : a = b) : Ending.returned (.bool a) = .returned (.bool b) := by rw [h]
theorem ret_int {k : IntKind} {a b : Int} (h : a = b) : Ending.returned (.int k a) = .returned (.int k b) := by rw [h]
theorem below_undrew {B : Nat} {a w : World} (h : Below B a.drew w) : Below B a w := ⟨h.os, h.tape, h.output, h.size, h.block⟩

/-- The numbers rise. -/
def riseI (l : List Int) : Bool := decide (∀ i, i < l.length → 0 < i → l.getD (i - 1) 0 < l.getD i 0)
/-- A list that can be put together. -/
def num (l : List Int) : Bool := decide (l.length ≤ 1000) && riseI l
def cmpI (x y : Int) : Int := if x < y then -1 else if y < x then 1 else 0

theorem f108 (x : Int) (w : World) : Calls Tryz.prog 108 #[.int .i64 x] w fun e w' => e = .returned (.bool false) ∧ w' = w := by
  have h : (x != x) = false := by simp
  go_enter Tryz.func108, Tryz.ntmps108
  go_wp2
  go_ret
  exact ⟨ret_bool (by simp), rfl⟩

theorem f71 (x y : Int) (w : World) : Calls Tryz.prog 71 #[.int .i64 x, .int .i64 y] w fun e w' => e = .returned (.int .i64 (cmpI x y)) ∧ w' = w := by
  rcases Int.lt_trichotomy x y with h | h | h
  · have e1 := hid (show cmpI x y = -1 by unfold cmpI; rw [if_pos h])
    go_enter Tryz.func71, Tryz.ntmps71
    go_wp2_with (go_at_call 108; refine (f108 _ _).mono ?_; rintro e w2 ⟨rfl, rfl⟩)
    go_ret
    exact ⟨ret_int e1.out.symm, rfl⟩
  · subst h
    have h1 : ¬ x < x := by omega
    have e1 := hid (show cmpI x x = 0 by unfold cmpI; rw [if_neg h1, if_neg h1])
    go_enter Tryz.func71, Tryz.ntmps71
    go_wp2_with (go_at_call 108; refine (f108 _ _).mono ?_; rintro e w2 ⟨rfl, rfl⟩)
    go_ret
    exact ⟨ret_int e1.out.symm, rfl⟩
  · have h1 : ¬ x < y := by omega
    have e1 := hid (show cmpI x y = 1 by unfold cmpI; rw [if_neg h1, if_pos h])
    go_enter Tryz.func71, Tryz.ntmps71
    go_wp2_with (go_at_call 108; refine (f108 _ _).mono ?_; rintro e w2 ⟨rfl, rfl⟩)
    go_ret
    exact ⟨ret_int e1.out.symm, rfl⟩

theorem cmpI_neg {x y : Int} : cmpI x y < 0 ↔ x < y := by unfold cmpI; split <;> (try split) <;> omega

set_option maxHeartbeats 1000000 in
theorem f70 (a : Option Addr) (n c : Nat) (ls : List Int) (w : World) (hn : ls.length = n) (hb : n ≤ 1048576) (hr : Has w a ls) :
    Calls Tryz.prog 70 #[.slice a n c, .func (.func 71) #[] #[]] w fun e w' => e = .returned (.bool (riseI ls)) ∧ Below w.heap.size w w' := by
  have HN := hid hn
  clear hn
  go_enter Tryz.func70, Tryz.ntmps70
  go_wp2
  go_loopw [5] (fun i wr => ∃ k : Nat, (k ≤ n ∨ k = 0) ∧ i = .int .i64 ((k : Int) + 1) ∧ Hid (∀ i, i ≤ k → 0 < i → ls.getD (i - 1) 0 < ls.getD i 0) ∧ Below w.heap.size w wr) (fun i _ => n + 1 - (intOf i).toNat)
  case atStart => exact ⟨0, .inr rfl, by go_num, fun i hi h => by omega, Below.refl _ _⟩
  case round =>
    obtain ⟨k, hk, rfl, hu, hnx⟩ := hrel
    have HX := hid hnx
    by_cases hlt : k + 1 < n
    · rcases hr with hr | ⟨b, off, rfl, hbl, hc⟩
      · exact absurd HN.out (by rw [hr]; simp; omega)
      have d0 := (hnx.cell (p := ⟨b, off + k, none⟩) hbl).trans (hc k (by rw [HN.out]; omega))
      have d2 := (hnx.cell (p := ⟨b, off + (k + 1), none⟩) hbl).trans (hc (k + 1) (by rw [HN.out]; exact hlt))
      have i1 : (k : Int) < (n : Int) := by omega
      have i2 : (k : Int) + 1 < (n : Int) := by omega
      have hw1 : IntKind.i64.wrap (k : Int) = (k : Int) := by rw [IntKind.wrap_i64]; omega
      have HNo : Hid (¬ ls.getD k 0 < ls.getD (k + 1) 0 → riseI ls = false) := fun h => decide_eq_false fun g => h (g (k + 1) (by rw [HN.out]; exact hlt) (by omega))
      have HUs : Hid (ls.getD k 0 < ls.getD (k + 1) 0 → ∀ i, i ≤ k + 1 → 0 < i → ls.getD (i - 1) 0 < ls.getD i 0) := by
        intro h i hi h0
        by_cases e : i = k + 1
        · subst e; exact h
        · exact hu.out i (by omega) h0
      clear hc hnx
      generalize ls.getD k 0 = p at *
      generalize ls.getD (k + 1) 0 = q at *
      by_cases h3 : 0 ≤ cmpI p q
      · have h4 := hid (show ¬ p < q from fun h => by have := cmpI_neg.2 h; omega)
        go_wp2_with fail
        go_region_with (go_at_call 71; refine (f71 p q _).mono ?_; rintro e w2 ⟨rfl, rfl⟩)
        all_goals
          go_wp2
          go_ret
          exact ⟨ret_bool (HNo.out h4.out).symm, below_drewN HX.out _⟩
      · have h4 := hid (show p < q from cmpI_neg.1 (by omega))
        go_wp2_with fail
        go_region_with (go_at_call 71; refine (f71 p q _).mono ?_; rintro e w2 ⟨rfl, rfl⟩)
        all_goals
          go_wp2
          go_roundw
          case rel => exact ⟨k + 1, .inl (by omega), by go_num, HUs.out h4.out, below_drewN HX.out _⟩
          case measure => simp [intOf]; omega
    · go_wp2
      go_ret
      exact ⟨ret_bool (by symm; refine decide_eq_true fun i hi h0 => hu.out i (by have := HN.out; omega) h0), HX.out⟩
end Go.Proofs.YthcogkoleiejgaaGreatDoor.Ino
