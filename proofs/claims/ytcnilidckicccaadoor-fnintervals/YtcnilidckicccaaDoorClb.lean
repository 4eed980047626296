/- Dates: what is asked of years, times and zones; how many days years and months have. -/
import Derived.Test.YtcnilidckicccaaDoorCla
namespace Go.Proofs.YtcnilidckicccaaDoor.Cal
open Go.RowKit

set_option maxHeartbeats 1000000 in
theorem f60 (y : Int) (w : World) (h0 : 0 ≤ y) (_ : y ≤ 1000000) :
    Calls Tryd.prog 60 #[.int .i64 y] w fun e w' => e = .returned (.bool (decide (Lp y))) ∧ w' = w := by
  have r4 : Int.tmod y 4 = y % 4 := Int.tmod_eq_emod_of_nonneg h0
  have r1 : Int.tmod y 100 = y % 100 := Int.tmod_eq_emod_of_nonneg h0
  have r0 : Int.tmod y 400 = y % 400 := Int.tmod_eq_emod_of_nonneg h0
  by_cases a : y % 4 = 0
  · have ga : (y % 4 == 0) = true := by simpa using a
    by_cases b : y % 100 = 0
    · have gb : (y % 100 != 0) = false := by simpa using b
      by_cases c : y % 400 = 0
      · have gc : (y % 400 == 0) = true := by simpa using c
        rw [decide_eq_true (show Lp y from ⟨a, .inr c⟩)]
        clear a b c
        go_enter Tryd.func60, Tryd.ntmps60
        go_wp2
        go_ret
        exact ⟨rfl, rfl⟩
      · have gc : (y % 400 == 0) = false := by simpa using c
        rw [decide_eq_false (show ¬ Lp y by unfold Lp; omega)]
        clear a b c
        go_enter Tryd.func60, Tryd.ntmps60
        go_wp2
        go_ret
        exact ⟨rfl, rfl⟩
    · have gb : (y % 100 != 0) = true := by simpa using b
      rw [decide_eq_true (show Lp y from ⟨a, .inl b⟩)]
      clear a b
      go_enter Tryd.func60, Tryd.ntmps60
      go_wp2
      go_ret
      exact ⟨rfl, rfl⟩
  · have ga : (y % 4 == 0) = false := by simpa using a
    rw [decide_eq_false (show ¬ Lp y by unfold Lp; omega)]
    clear a
    go_enter Tryd.func60, Tryd.ntmps60
    go_wp2
    go_ret
    exact ⟨rfl, rfl⟩

set_option maxHeartbeats 1000000 in
theorem f45 (y : Int) (w : World) (h0 : 0 ≤ y) (_ : y ≤ 1000000) :
    Calls Tryd.prog 45 #[.int .i64 y] w fun e w' => e = .returned (.bool (decide (Lp y))) ∧ w' = w := by
  have r4 : Int.tmod y 4 = y % 4 := Int.tmod_eq_emod_of_nonneg h0
  have r1 : Int.tmod y 100 = y % 100 := Int.tmod_eq_emod_of_nonneg h0
  have r0 : Int.tmod y 400 = y % 400 := Int.tmod_eq_emod_of_nonneg h0
  by_cases a : y % 4 = 0
  · have ga : (y % 4 == 0) = true := by simpa using a
    by_cases b : y % 100 = 0
    · have gb : (y % 100 != 0) = false := by simpa using b
      by_cases c : y % 400 = 0
      · have gc : (y % 400 == 0) = true := by simpa using c
        rw [decide_eq_true (show Lp y from ⟨a, .inr c⟩)]
        clear a b c
        go_enter Tryd.func45, Tryd.ntmps45
        go_wp2
        go_ret
        exact ⟨rfl, rfl⟩
      · have gc : (y % 400 == 0) = false := by simpa using c
        rw [decide_eq_false (show ¬ Lp y by unfold Lp; omega)]
        clear a b c
        go_enter Tryd.func45, Tryd.ntmps45
        go_wp2
        go_ret
        exact ⟨rfl, rfl⟩
    · have gb : (y % 100 != 0) = true := by simpa using b
      rw [decide_eq_true (show Lp y from ⟨a, .inl b⟩)]
      clear a b
      go_enter Tryd.func45, Tryd.ntmps45
      go_wp2
      go_ret
      exact ⟨rfl, rfl⟩
  · have ga : (y % 4 == 0) = false := by simpa using a
    rw [decide_eq_false (show ¬ Lp y by unfold Lp; omega)]
    clear a
    go_enter Tryd.func45, Tryd.ntmps45
    go_wp2
    go_ret
    exact ⟨rfl, rfl⟩

theorem f52 (t : Int) (w : World) :
    Calls Tryd.prog 52 #[.int .i64 t] w fun e w' => e = .returned (.bool (decide (0 ≤ t ∧ t ≤ 1000000000000))) ∧ w' = w := by
  by_cases a : t ≥ 0
  · by_cases b : t ≤ 1000000000000
    · rw [decide_eq_true (show 0 ≤ t ∧ t ≤ 1000000000000 from ⟨a, b⟩)]
      go_enter Tryd.func52, Tryd.ntmps52
      go_wp2
      go_ret
      exact ⟨rfl, rfl⟩
    · rw [decide_eq_false (show ¬ (0 ≤ t ∧ t ≤ 1000000000000) by omega)]
      go_enter Tryd.func52, Tryd.ntmps52
      go_wp2
      go_ret
      exact ⟨rfl, rfl⟩
  · rw [decide_eq_false (show ¬ (0 ≤ t ∧ t ≤ 1000000000000) by omega)]
    go_enter Tryd.func52, Tryd.ntmps52
    go_wp2
    go_ret
    exact ⟨rfl, rfl⟩

theorem f21 (t : Int) (w : World) :
    Calls Tryd.prog 21 #[.int .i64 t] w fun e w' => e = .returned (.bool (decide (0 ≤ t ∧ t ≤ 1000000000000))) ∧ w' = w := by
  by_cases a : t ≥ 0
  · by_cases b : t ≤ 1000000000000
    · rw [decide_eq_true (show 0 ≤ t ∧ t ≤ 1000000000000 from ⟨a, b⟩)]
      go_enter Tryd.func21, Tryd.ntmps21
      go_wp2
      go_ret
      exact ⟨rfl, rfl⟩
    · rw [decide_eq_false (show ¬ (0 ≤ t ∧ t ≤ 1000000000000) by omega)]
      go_enter Tryd.func21, Tryd.ntmps21
      go_wp2
      go_ret
      exact ⟨rfl, rfl⟩
  · rw [decide_eq_false (show ¬ (0 ≤ t ∧ t ≤ 1000000000000) by omega)]
    go_enter Tryd.func21, Tryd.ntmps21
    go_wp2
    go_ret
    exact ⟨rfl, rfl⟩

theorem f32 (t : Int) (w : World) :
    Calls Tryd.prog 32 #[.int .i64 t] w fun e w' => e = .returned (.bool (decide (-1440 ≤ t ∧ t ≤ 1440))) ∧ w' = w := by
  by_cases a : t ≥ -1440
  · by_cases b : t ≤ 1440
    · rw [decide_eq_true (show -1440 ≤ t ∧ t ≤ 1440 from ⟨a, b⟩)]
      go_enter Tryd.func32, Tryd.ntmps32
      go_wp2
      go_ret
      exact ⟨rfl, rfl⟩
    · rw [decide_eq_false (show ¬ (-1440 ≤ t ∧ t ≤ 1440) by omega)]
      go_enter Tryd.func32, Tryd.ntmps32
      go_wp2
      go_ret
      exact ⟨rfl, rfl⟩
  · rw [decide_eq_false (show ¬ (-1440 ≤ t ∧ t ≤ 1440) by omega)]
    go_enter Tryd.func32, Tryd.ntmps32
    go_wp2
    go_ret
    exact ⟨rfl, rfl⟩

theorem f26 (y : Int) (w : World) (h0 : 0 ≤ y) (h1 : y ≤ 1000000) :
    Calls Tryd.prog 26 #[.int .i64 y] w fun e w' => e = .returned (.int .i64 (yl y)) ∧ w' = w := by
  have HL := hid (f45 y w h0 h1)
  by_cases a : Lp y
  · rw [show yl y = 366 from if_pos a]
    rw [decide_eq_true a] at HL
    clear a
    go_enter Tryd.func26, Tryd.ntmps26
    go_wp2_with fail
    refine HL.out.mono ?_
    rintro e w1 ⟨rfl, hw⟩; subst w1
    go_wp2
    go_ret
    exact ⟨rfl, rfl⟩
  · rw [show yl y = 365 from if_neg a]
    rw [decide_eq_false a] at HL
    clear a
    go_enter Tryd.func26, Tryd.ntmps26
    go_wp2_with fail
    refine HL.out.mono ?_
    rintro e w1 ⟨rfl, hw⟩; subst w1
    go_wp2
    go_ret
    exact ⟨rfl, rfl⟩

/-- How many days the months have in a year with 365, from 0 on. -/
def mt : List Int := [31, 28, 31, 30, 31, 30, 31, 31, 30, 31, 30, 31]
/-- The variable monthDays. -/
structure Mon (w : World) : Prop where
  lt : 1 < w.heap.size
  c : ∀ k : Nat, k < 12 → w.cell? ⟨1, k, none⟩ = some (.int .i64 (mt.getD k 0))
theorem Mon.below {w w' : World} (h : Mon w) (hb : Below w.heap.size w w') : Mon w' :=
  ⟨Nat.lt_of_lt_of_le h.lt hb.size, fun k hk => (hb.cell (by exact h.lt)).trans (h.c k hk)⟩
theorem mt_ml {y : Int} {k : Nat} (hk : k < 12) (h : ¬ (k = 1 ∧ Lp y)) : mt.getD k 0 = ml y (k + 1) := by
  unfold mt ml
  rcases (show k = 0 ∨ k = 1 ∨ k = 2 ∨ k = 3 ∨ k = 4 ∨ k = 5 ∨ k = 6 ∨ k = 7 ∨ k = 8 ∨ k = 9 ∨ k = 10 ∨ k = 11 by omega) with rfl | rfl | rfl | rfl | rfl | rfl | rfl | rfl | rfl | rfl | rfl | rfl <;> simp
  intro hl
  exact absurd ⟨rfl, hl⟩ h

set_option maxHeartbeats 1000000 in
theorem f56 (y m : Int) (w : World) (h0 : 0 ≤ y) (h1 : y ≤ 1000000) (hm0 : 1 ≤ m) (hm1 : m ≤ 12) (hM : Mon w) :
    Calls Tryd.prog 56 #[.int .i64 y, .int .i64 m] w fun e w' => e = .returned (.int .i64 (ml y m)) ∧ w' = w := by
  have HL := hid (f60 y w h0 h1)
  obtain ⟨k, rfl⟩ : ∃ k : Nat, m = k + 1 := ⟨(m - 1).toNat, by omega⟩
  have hk : k < 12 := by omega
  by_cases a : k = 1
  · subst a
    have hc := hM.c 1 (by omega)
    rw [show mt.getD 1 0 = 28 from rfl] at hc
    have hlt := hM.lt
    by_cases b : Lp y
    · rw [show ml y ((1 : Nat) + 1) = 29 by unfold ml; rw [if_pos (by omega), if_pos b]]
      rw [decide_eq_true b] at HL
      clear b hM
      go_enter Tryd.func56, Tryd.ntmps56
      go_wp2_with fail
      refine HL.out.mono ?_
      rintro e w1 ⟨rfl, hw⟩; subst w1
      go_wp2
      go_ret
      exact ⟨rfl, rfl⟩
    · rw [show ml y ((1 : Nat) + 1) = 28 by unfold ml; rw [if_pos (by omega), if_neg b]]
      rw [decide_eq_false b] at HL
      clear b hM
      go_enter Tryd.func56, Tryd.ntmps56
      go_wp2_with fail
      refine HL.out.mono ?_
      rintro e w1 ⟨rfl, hw⟩; subst w1
      go_wp2
      go_ret
      exact ⟨rfl, rfl⟩
  · have hc := hM.c k hk
    rw [mt_ml (y := y) hk (fun h => a h.1)] at hc
    have hlt := hM.lt
    obtain ⟨z, hz⟩ : ∃ z, z = ml y (k + 1) := ⟨_, rfl⟩
    rw [← hz] at hc ⊢
    clear hz hM HL
    have g : ((k : Int) + 1 == 2) = false := by simp; omega
    have i0 : (0 : Int) ≤ k := by omega
    have i1 : (k : Int) < 12 := by omega
    clear a
    go_enter Tryd.func56, Tryd.ntmps56
    go_wp2
    go_ret
    exact ⟨rfl, rfl⟩
set_option maxHeartbeats 1000000 in
theorem f27 (y m : Int) (w : World) (h0 : 0 ≤ y) (h1 : y ≤ 1000000) (hm0 : 1 ≤ m) (hm1 : m ≤ 12) :
    Calls Tryd.prog 27 #[.int .i64 y, .int .i64 m] w fun e w' => e = .returned (.int .i64 (ml y m)) ∧ Below w.heap.size w w' := by
  have HL := hid (f45 y w h0 h1)
  by_cases a : m = 2 ∧ Lp y
  · obtain ⟨rfl, b⟩ := a
    rw [show ml y 2 = 29 by unfold ml; rw [if_pos (by omega), if_pos b]]
    rw [decide_eq_true b] at HL
    clear b
    go_enter Tryd.func27, Tryd.ntmps27
    go_wp2_with fail
    refine HL.out.mono ?_
    rintro e w1 ⟨rfl, hw⟩; subst w1
    go_wp2
    go_ret
    exact ⟨rfl, Below.refl _ _⟩
  · by_cases c : m = 2
    · have b : ¬ Lp y := fun h => a ⟨c, h⟩
      subst c
      rw [show ml y 2 = 28 by unfold ml; rw [if_pos (by omega), if_neg b]]
      rw [decide_eq_false b] at HL
      clear b a
      go_enter Tryd.func27, Tryd.ntmps27
      go_wp2_with fail
      refine HL.out.mono ?_
      rintro e w1 ⟨rfl, hw⟩; subst w1
      go_wp2
      go_ret
      exact ⟨rfl, (Below.refl _ _).alloc (Nat.le_refl _) _⟩
    · clear a HL
      rcases (show m = 1 ∨ m = 3 ∨ m = 4 ∨ m = 5 ∨ m = 6 ∨ m = 7 ∨ m = 8 ∨ m = 9 ∨ m = 10 ∨ m = 11 ∨ m = 12 by omega) with rfl | rfl | rfl | rfl | rfl | rfl | rfl | rfl | rfl | rfl | rfl
      · rw [show ml y 1 = 31 by simp [ml]]
        clear c hm0 hm1
        go_enter Tryd.func27, Tryd.ntmps27
        go_wp2
        go_ret
        exact ⟨rfl, (Below.refl _ _).alloc (Nat.le_refl _) _⟩
      · rw [show ml y 3 = 31 by simp [ml]]
        clear c hm0 hm1
        go_enter Tryd.func27, Tryd.ntmps27
        go_wp2
        go_ret
        exact ⟨rfl, (Below.refl _ _).alloc (Nat.le_refl _) _⟩
      · rw [show ml y 4 = 30 by simp [ml]]
        clear c hm0 hm1
        go_enter Tryd.func27, Tryd.ntmps27
        go_wp2
        go_ret
        exact ⟨rfl, (Below.refl _ _).alloc (Nat.le_refl _) _⟩
      · rw [show ml y 5 = 31 by simp [ml]]
        clear c hm0 hm1
        go_enter Tryd.func27, Tryd.ntmps27
        go_wp2
        go_ret
        exact ⟨rfl, (Below.refl _ _).alloc (Nat.le_refl _) _⟩
      · rw [show ml y 6 = 30 by simp [ml]]
        clear c hm0 hm1
        go_enter Tryd.func27, Tryd.ntmps27
        go_wp2
        go_ret
        exact ⟨rfl, (Below.refl _ _).alloc (Nat.le_refl _) _⟩
      · rw [show ml y 7 = 31 by simp [ml]]
        clear c hm0 hm1
        go_enter Tryd.func27, Tryd.ntmps27
        go_wp2
        go_ret
        exact ⟨rfl, (Below.refl _ _).alloc (Nat.le_refl _) _⟩
      · rw [show ml y 8 = 31 by simp [ml]]
        clear c hm0 hm1
        go_enter Tryd.func27, Tryd.ntmps27
        go_wp2
        go_ret
        exact ⟨rfl, (Below.refl _ _).alloc (Nat.le_refl _) _⟩
      · rw [show ml y 9 = 30 by simp [ml]]
        clear c hm0 hm1
        go_enter Tryd.func27, Tryd.ntmps27
        go_wp2
        go_ret
        exact ⟨rfl, (Below.refl _ _).alloc (Nat.le_refl _) _⟩
      · rw [show ml y 10 = 31 by simp [ml]]
        clear c hm0 hm1
        go_enter Tryd.func27, Tryd.ntmps27
        go_wp2
        go_ret
        exact ⟨rfl, (Below.refl _ _).alloc (Nat.le_refl _) _⟩
      · rw [show ml y 11 = 30 by simp [ml]]
        clear c hm0 hm1
        go_enter Tryd.func27, Tryd.ntmps27
        go_wp2
        go_ret
        exact ⟨rfl, (Below.refl _ _).alloc (Nat.le_refl _) _⟩
      · rw [show ml y 12 = 31 by simp [ml]]
        clear c hm0 hm1
        go_enter Tryd.func27, Tryd.ntmps27
        go_wp2
        go_ret
        exact ⟨rfl, (Below.refl _ _).alloc (Nat.le_refl _) _⟩
end Go.Proofs.YtcnilidckicccaaDoor.Cal
