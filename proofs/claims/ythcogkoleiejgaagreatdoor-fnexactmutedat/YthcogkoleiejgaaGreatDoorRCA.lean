/- Dates, plainly: years, months, and how many days lie ahead of them. -/
import Derived.Test.YthcogkoleiejgaaGreatDoorRows
import Derived.WalkKit
import Derived.ProofKit
import Derived.WalkSmall
import Derived.Below
import Derived.Handy
import Derived.Deep.CutRange
import Derived.Lib.LaidTab
import Derived.Deep.Fields
import Derived.ChangeArms
namespace Go.Proofs.YthcogkoleiejgaaGreatDoor.Cal
open Go.RowKit

theorem hid {p : Prop} (h : p) : Hid p := h
def Lp (y : Int) : Prop := y % 4 = 0 ∧ (¬ y % 100 = 0 ∨ y % 400 = 0)
instance (y : Int) : Decidable (Lp y) := by unfold Lp; infer_instance
/-- How many days a year has. -/
def yl (y : Int) : Int := if Lp y then 366 else 365
/-- How many days a month has. -/
def ml (y m : Int) : Int := if m = 2 then (if Lp y then 29 else 28) else if m = 4 ∨ m = 6 ∨ m = 9 ∨ m = 11 then 30 else 31
/-- The number of the first day of a year. -/
def F (y : Int) : Int := (y - 1) * 365 + (y - 1) / 4 - (y - 1) / 100 + (y - 1) / 400 - 719162
/-- How many days the months of the year ahead of a month have. -/
def cu (y m : Int) : Int := if m ≤ 1 then 0 else if m = 2 then 31 else (if Lp y then 1 else 0) + (if m = 3 then 59 else if m = 4 then 90 else if m = 5 then 120 else if m = 6 then 151 else if m = 7 then 181 else if m = 8 then 212 else if m = 9 then 243 else if m = 10 then 273 else if m = 11 then 304 else if m = 12 then 334 else 365)
theorem yl_pos (y : Int) : 365 ≤ yl y ∧ yl y ≤ 366 := by unfold yl; split <;> omega
theorem ml_pos (y m : Int) : 28 ≤ ml y m ∧ ml y m ≤ 31 := by
  unfold ml
  split
  · split <;> omega
  · split <;> omega
theorem F_next (y : Int) : F (y + 1) = F y + yl y := by
  unfold F yl
  by_cases h : Lp y
  · rw [if_pos h]; unfold Lp at h; omega
  · rw [if_neg h]; unfold Lp at h; omega
theorem F_first : F 1970 = 0 := by decide
theorem F_mono {y z : Int} (h : y ≤ z) : F y ≤ F z := by unfold F; omega
theorem F_low {y : Int} (h : 1970 ≤ y) : 365 * (y - 1970) ≤ F y := by unfold F; omega
theorem F_high {y : Int} (h : 1 ≤ y) : F y ≤ 366 * y := by unfold F; omega
theorem cu_first (y : Int) : cu y 1 = 0 := by unfold cu; rw [if_pos (by omega)]
theorem cu_next {y m : Int} (h0 : 1 ≤ m) (h1 : m ≤ 12) : cu y (m + 1) = cu y m + ml y m := by
  unfold cu ml
  rcases (show m = 1 ∨ m = 2 ∨ m = 3 ∨ m = 4 ∨ m = 5 ∨ m = 6 ∨ m = 7 ∨ m = 8 ∨ m = 9 ∨ m = 10 ∨ m = 11 ∨ m = 12 by omega) with rfl | rfl | rfl | rfl | rfl | rfl | rfl | rfl | rfl | rfl | rfl | rfl <;> by_cases h : Lp y <;> simp [h]
theorem cu_last (y : Int) : cu y 13 = yl y := by
  unfold cu yl
  by_cases h : Lp y <;> simp [h]
theorem cu_mono {y m n : Int} (h0 : 1 ≤ m) (h : m ≤ n) (h1 : n ≤ 13) : cu y m ≤ cu y n := by
  obtain ⟨k, rfl⟩ : ∃ k : Nat, n = m + k := ⟨(n - m).toNat, by omega⟩
  induction k with
  | zero => simp
  | succ k ih =>
    have := ih (by omega) (by omega)
    have e : m + ((k + 1 : Nat) : Int) = (m + k) + 1 := by omega
    rw [e, cu_next (by omega) (by omega)]
    have := (ml_pos y (m + k)).1
    omega
theorem cu_pos {y m : Int} (h0 : 1 ≤ m) (h1 : m ≤ 13) : 0 ≤ cu y m ∧ cu y m ≤ 366 := by
  have a := cu_mono (y := y) (Int.le_refl 1) h0 h1
  have b := cu_mono (y := y) h0 h1 (Int.le_refl 13)
  rw [cu_first] at a
  rw [cu_last] at b
  have := (yl_pos y).2
  omega
/-- The day D is in the year y. -/
def Yr (D y : Int) : Prop := 1970 ≤ y ∧ F y ≤ D ∧ D < F (y + 1)
/-- The day D is the day d of the month m of the year y. -/
structure Dt (D y m d : Int) : Prop where
  y0 : 1970 ≤ y
  m0 : 1 ≤ m
  m1 : m ≤ 12
  d0 : 1 ≤ d
  d1 : d ≤ ml y m
  sum : F y + cu y m + d - 1 = D
theorem Dt.yr {D y m d : Int} (h : Dt D y m d) : Yr D y := by
  have a := cu_pos (y := y) h.m0 (by have := h.m1; omega)
  have b := cu_mono (y := y) (m := m + 1) (n := 13) (by have := h.m0; omega) (by have := h.m1; omega) (Int.le_refl _)
  rw [cu_next h.m0 h.m1, cu_last] at b
  have c := F_next y
  have d0 := h.d0
  have d1 := h.d1
  have s := h.sum
  exact ⟨h.y0, by omega, by omega⟩
theorem Yr.one {D y z : Int} (h : Yr D y) (g : Yr D z) : y = z := by
  obtain ⟨_, h1, h2⟩ := h
  obtain ⟨_, g1, g2⟩ := g
  rcases Int.lt_trichotomy y z with hlt | he | hlt
  · have := F_mono (y := y + 1) (z := z) (by omega); omega
  · exact he
  · have := F_mono (y := z + 1) (z := y) (by omega); omega
theorem Dt.one {D y m d z n e : Int} (h : Dt D y m d) (g : Dt D z n e) : y = z ∧ m = n ∧ d = e := by
  obtain rfl := h.yr.one g.yr
  have hm : m = n := by
    have a := h.sum
    have b := g.sum
    have h0 := h.d0
    have h1 := h.d1
    have g0 := g.d0
    have g1 := g.d1
    rcases Int.lt_trichotomy m n with hlt | he | hlt
    · have := cu_mono (y := y) (m := m + 1) (n := n) (by have := h.m0; omega) (by omega) (by have := g.m1; omega)
      rw [cu_next h.m0 h.m1] at this
      omega
    · exact he
    · have := cu_mono (y := y) (m := n + 1) (n := m) (by have := g.m0; omega) (by omega) (by have := h.m1; omega)
      rw [cu_next g.m0 g.m1] at this
      omega
  subst hm
  have a := h.sum
  have b := g.sum
  exact ⟨rfl, rfl, by omega⟩
theorem Dt.day0 {D y m d : Int} (h : Dt D y m d) : 0 ≤ D := by
  have := F_mono h.y0
  rw [F_first] at this
  have a := h.yr
  have := a.2.1
  omega
theorem yr_low {D y : Int} (h : Yr D y) : 365 * (y - 1970) ≤ D := by
  have := F_low h.1
  have := h.2.1
  omega
/-- The month is looked for: so many days are left. -/
def Mo (D y m l : Int) : Prop := 1 ≤ m ∧ m ≤ 12 ∧ 0 ≤ l ∧ F y + cu y m + l = D
theorem Mo.first {D y : Int} (h : Yr D y) : Mo D y 1 (D - F y) := by
  obtain ⟨_, h1, _⟩ := h
  exact ⟨by omega, by omega, by omega, by rw [cu_first]; omega⟩
theorem Mo.next {D y m l : Int} (h : Mo D y m l) (hy : Yr D y) (hl : ml y m ≤ l) : Mo D y (m + 1) (l - ml y m) := by
  obtain ⟨a, b, c, d⟩ := h
  obtain ⟨_, h1, h2⟩ := hy
  have e := cu_next (y := y) a b
  rw [F_next] at h2
  have hm : m ≠ 12 := by
    rintro rfl
    have := cu_last y
    rw [show (12 : Int) + 1 = 13 from rfl] at e
    omega
  exact ⟨by omega, by omega, by omega, by omega⟩
theorem Mo.last {D y m l : Int} (h : Mo D y m l) (hy : Yr D y) (hl : l < ml y m) : Dt D y m (l + 1) := by
  obtain ⟨a, b, c, d⟩ := h
  exact ⟨hy.1, a, b, by omega, by omega, by omega⟩
end Go.Proofs.YthcogkoleiejgaaGreatDoor.Cal
/- Dates: what is asked of years, times and zones; how many days years and months have. -/
namespace Go.Proofs.YthcogkoleiejgaaGreatDoor.Cal
open Go.RowKit

set_option maxHeartbeats 1000000 in
theorem f150 (y : Int) (w : World) (h0 : 0 ≤ y) (_ : y ≤ 1000000) :
    Calls Tryz.prog 150 #[.int .i64 y] w fun e w' => e = .returned (.bool (decide (Lp y))) ∧ w' = w := by
  have r4 : Int.tmod y 4 = y % 4 := Int.tmod_eq_emod_of_nonneg h0
  have r1 : Int.tmod y 100 = y % 100 := Int.tmod_eq_emod_of_nonneg h0
  have r0 : Int.tmod y 400 = y % 400 := Int.tmod_eq_emod_of_nonneg h0
  by_cases a : y % 4 = 0
  · have ga : (y % 4 == 0) = true := by simpa using a
    by_cases b : y % 100 = 0
    · have gb : (y % 100 != 0) = false := by simpa using b
      by_cases c : y % 400 = 0
      · have gc : (y % 400 == 0) = true := by simpa using c
        rw [decide_eq_true (show Lp y from ⟨a, .inr c⟩)]
        clear a b c
        go_enter Tryz.func150, Tryz.ntmps150
        go_wp2
        go_ret
        exact ⟨rfl, rfl⟩
      · have gc : (y % 400 == 0) = false := by simpa using c
        rw [decide_eq_false (show ¬ Lp y by unfold Lp; omega)]
        clear a b c
        go_enter Tryz.func150, Tryz.ntmps150
        go_wp2
        go_ret
        exact ⟨rfl, rfl⟩
    · have gb : (y % 100 != 0) = true := by simpa using b
      rw [decide_eq_true (show Lp y from ⟨a, .inl b⟩)]
      clear a b
      go_enter Tryz.func150, Tryz.ntmps150
      go_wp2
      go_ret
      exact ⟨rfl, rfl⟩
  · have ga : (y % 4 == 0) = false := by simpa using a
    rw [decide_eq_false (show ¬ Lp y by unfold Lp; omega)]
    clear a
    go_enter Tryz.func150, Tryz.ntmps150
    go_wp2
    go_ret
    exact ⟨rfl, rfl⟩

set_option maxHeartbeats 1000000 in
theorem f148 (y : Int) (w : World) (h0 : 0 ≤ y) (_ : y ≤ 1000000) :
    Calls Tryz.prog 148 #[.int .i64 y] w fun e w' => e = .returned (.bool (decide (Lp y))) ∧ w' = w := by
  have r4 : Int.tmod y 4 = y % 4 := Int.tmod_eq_emod_of_nonneg h0
  have r1 : Int.tmod y 100 = y % 100 := Int.tmod_eq_emod_of_nonneg h0
  have r0 : Int.tmod y 400 = y % 400 := Int.tmod_eq_emod_of_nonneg h0
  by_cases a : y % 4 = 0
  · have ga : (y % 4 == 0) = true := by simpa using a
    by_cases b : y % 100 = 0
    · have gb : (y % 100 != 0) = false := by simpa using b
      by_cases c : y % 400 = 0
      · have gc : (y % 400 == 0) = true := by simpa using c
        rw [decide_eq_true (show Lp y from ⟨a, .inr c⟩)]
        clear a b c
        go_enter Tryz.func148, Tryz.ntmps148
        go_wp2
        go_ret
        exact ⟨rfl, rfl⟩
      · have gc : (y % 400 == 0) = false := by simpa using c
        rw [decide_eq_false (show ¬ Lp y by unfold Lp; omega)]
        clear a b c
        go_enter Tryz.func148, Tryz.ntmps148
        go_wp2
        go_ret
        exact ⟨rfl, rfl⟩
    · have gb : (y % 100 != 0) = true := by simpa using b
      rw [decide_eq_true (show Lp y from ⟨a, .inl b⟩)]
      clear a b
      go_enter Tryz.func148, Tryz.ntmps148
      go_wp2
      go_ret
      exact ⟨rfl, rfl⟩
  · have ga : (y % 4 == 0) = false := by simpa using a
    rw [decide_eq_false (show ¬ Lp y by unfold Lp; omega)]
    clear a
    go_enter Tryz.func148, Tryz.ntmps148
    go_wp2
    go_ret
    exact ⟨rfl, rfl⟩

theorem f43 (t : Int) (w : World) :
    Calls Tryz.prog 43 #[.int .i64 t] w fun e w' => e = .returned (.bool (decide (0 ≤ t ∧ t ≤ 1000000000000))) ∧ w' = w := by
  by_cases a : t ≥ 0
  · by_cases b : t ≤ 1000000000000
    · rw [decide_eq_true (show 0 ≤ t ∧ t ≤ 1000000000000 from ⟨a, b⟩)]
      go_enter Tryz.func43, Tryz.ntmps43
      go_wp2
      go_ret
      exact ⟨rfl, rfl⟩
    · rw [decide_eq_false (show ¬ (0 ≤ t ∧ t ≤ 1000000000000) by omega)]
      go_enter Tryz.func43, Tryz.ntmps43
      go_wp2
      go_ret
      exact ⟨rfl, rfl⟩
  · rw [decide_eq_false (show ¬ (0 ≤ t ∧ t ≤ 1000000000000) by omega)]
    go_enter Tryz.func43, Tryz.ntmps43
    go_wp2
    go_ret
    exact ⟨rfl, rfl⟩

theorem f40 (t : Int) (w : World) :
    Calls Tryz.prog 40 #[.int .i64 t] w fun e w' => e = .returned (.bool (decide (0 ≤ t ∧ t ≤ 1000000000000))) ∧ w' = w := by
  by_cases a : t ≥ 0
  · by_cases b : t ≤ 1000000000000
    · rw [decide_eq_true (show 0 ≤ t ∧ t ≤ 1000000000000 from ⟨a, b⟩)]
      go_enter Tryz.func40, Tryz.ntmps40
      go_wp2
      go_ret
      exact ⟨rfl, rfl⟩
    · rw [decide_eq_false (show ¬ (0 ≤ t ∧ t ≤ 1000000000000) by omega)]
      go_enter Tryz.func40, Tryz.ntmps40
      go_wp2
      go_ret
      exact ⟨rfl, rfl⟩
  · rw [decide_eq_false (show ¬ (0 ≤ t ∧ t ≤ 1000000000000) by omega)]
    go_enter Tryz.func40, Tryz.ntmps40
    go_wp2
    go_ret
    exact ⟨rfl, rfl⟩

theorem f105 (t : Int) (w : World) :
    Calls Tryz.prog 105 #[.int .i64 t] w fun e w' => e = .returned (.bool (decide (-1440 ≤ t ∧ t ≤ 1440))) ∧ w' = w := by
  by_cases a : t ≥ -1440
  · by_cases b : t ≤ 1440
    · rw [decide_eq_true (show -1440 ≤ t ∧ t ≤ 1440 from ⟨a, b⟩)]
      go_enter Tryz.func105, Tryz.ntmps105
      go_wp2
      go_ret
      exact ⟨rfl, rfl⟩
    · rw [decide_eq_false (show ¬ (-1440 ≤ t ∧ t ≤ 1440) by omega)]
      go_enter Tryz.func105, Tryz.ntmps105
      go_wp2
      go_ret
      exact ⟨rfl, rfl⟩
  · rw [decide_eq_false (show ¬ (-1440 ≤ t ∧ t ≤ 1440) by omega)]
    go_enter Tryz.func105, Tryz.ntmps105
    go_wp2
    go_ret
    exact ⟨rfl, rfl⟩

theorem f137 (y : Int) (w : World) (h0 : 0 ≤ y) (h1 : y ≤ 1000000) :
    Calls Tryz.prog 137 #[.int .i64 y] w fun e w' => e = .returned (.int .i64 (yl y)) ∧ w' = w := by
  have HL := hid (f148 y w h0 h1)
  by_cases a : Lp y
  · rw [show yl y = 366 from if_pos a]
    rw [decide_eq_true a] at HL
    clear a
    go_enter Tryz.func137, Tryz.ntmps137
    go_wp2_with fail
    refine HL.out.mono ?_
    rintro e w1 ⟨rfl, hw⟩; subst w1
    go_wp2
    go_ret
    exact ⟨rfl, rfl⟩
  · rw [show yl y = 365 from if_neg a]
    rw [decide_eq_false a] at HL
    clear a
    go_enter Tryz.func137, Tryz.ntmps137
    go_wp2_with fail
    refine HL.out.mono ?_
    rintro e w1 ⟨rfl, hw⟩; subst w1
    go_wp2
    go_ret
    exact ⟨rfl, rfl⟩

/-- How many days the months have in a year with 365, from 0 on. -/
def mt : List Int := [31, 28, 31, 30, 31, 30, 31, 31, 30, 31, 30, 31]
/-- The variable monthDays. -/
structure Mon (w : World) : Prop where
  lt : 2 < w.heap.size
  c : ∀ k : Nat, k < 12 → w.cell? ⟨2, k, none⟩ = some (.int .i64 (mt.getD k 0))
theorem Mon.below {w w' : World} (h : Mon w) (hb : Below w.heap.size w w') : Mon w' :=
  ⟨Nat.lt_of_lt_of_le h.lt hb.size, fun k hk => (hb.cell (by exact h.lt)).trans (h.c k hk)⟩
theorem mt_ml {y : Int} {k : Nat} (hk : k < 12) (h : ¬ (k = 1 ∧ Lp y)) : mt.getD k 0 = ml y (k + 1) := by
  unfold mt ml
  rcases (show k = 0 ∨ k = 1 ∨ k = 2 ∨ k = 3 ∨ k = 4 ∨ k = 5 ∨ k = 6 ∨ k = 7 ∨ k = 8 ∨ k = 9 ∨ k = 10 ∨ k = 11 by omega) with rfl | rfl | rfl | rfl | rfl | rfl | rfl | rfl | rfl | rfl | rfl | rfl <;> simp
  intro hl
  exact absurd ⟨rfl, hl⟩ h

set_option maxHeartbeats 1000000 in
theorem f142 (y m : Int) (w : World) (h0 : 0 ≤ y) (h1 : y ≤ 1000000) (hm0 : 1 ≤ m) (hm1 : m ≤ 12) (hM : Mon w) :
    Calls Tryz.prog 142 #[.int .i64 y, .int .i64 m] w fun e w' => e = .returned (.int .i64 (ml y m)) ∧ w' = w := by
  have HL := hid (f150 y w h0 h1)
  obtain ⟨k, rfl⟩ : ∃ k : Nat, m = k + 1 := ⟨(m - 1).toNat, by omega⟩
  have hk : k < 12 := by omega
  by_cases a : k = 1
  · subst a
    have hc := hM.c 1 (by omega)
    rw [show mt.getD 1 0 = 28 from rfl] at hc
    have hlt := hM.lt
    by_cases b : Lp y
    · rw [show ml y ((1 : Nat) + 1) = 29 by unfold ml; rw [if_pos (by omega), if_pos b]]
      rw [decide_eq_true b] at HL
      clear b hM
      go_enter Tryz.func142, Tryz.ntmps142
      go_wp2_with fail
      refine HL.out.mono ?_
      rintro e w1 ⟨rfl, hw⟩; subst w1
      go_wp2
      go_ret
      exact ⟨rfl, rfl⟩
    · rw [show ml y ((1 : Nat) + 1) = 28 by unfold ml; rw [if_pos (by omega), if_neg b]]
      rw [decide_eq_false b] at HL
      clear b hM
      go_enter Tryz.func142, Tryz.ntmps142
      go_wp2_with fail
      refine HL.out.mono ?_
      rintro e w1 ⟨rfl, hw⟩; subst w1
      go_wp2
      go_ret
      exact ⟨rfl, rfl⟩
  · have hc := hM.c k hk
    rw [mt_ml (y := y) hk (fun h => a h.1)] at hc
    have hlt := hM.lt
    obtain ⟨z, hz⟩ : ∃ z, z = ml y (k + 1) := ⟨_, rfl⟩
    rw [← hz] at hc ⊢
    clear hz hM HL
    have g : ((k : Int) + 1 == 2) = false := by simp; omega
    have i0 : (0 : Int) ≤ k := by omega
    have i1 : (k : Int) < 12 := by omega
    clear a
    go_enter Tryz.func142, Tryz.ntmps142
    go_wp2
    go_ret
    exact ⟨rfl, rfl⟩
set_option maxHeartbeats 1000000 in
theorem f138 (y m : Int) (w : World) (h0 : 0 ≤ y) (h1 : y ≤ 1000000) (hm0 : 1 ≤ m) (hm1 : m ≤ 12) :
    Calls Tryz.prog 138 #[.int .i64 y, .int .i64 m] w fun e w' => e = .returned (.int .i64 (ml y m)) ∧ Below w.heap.size w w' := by
  have HL := hid (f148 y w h0 h1)
  by_cases a : m = 2 ∧ Lp y
  · obtain ⟨rfl, b⟩ := a
    rw [show ml y 2 = 29 by unfold ml; rw [if_pos (by omega), if_pos b]]
    rw [decide_eq_true b] at HL
    clear b
    go_enter Tryz.func138, Tryz.ntmps138
    go_wp2_with fail
    refine HL.out.mono ?_
    rintro e w1 ⟨rfl, hw⟩; subst w1
    go_wp2
    go_ret
    exact ⟨rfl, Below.refl _ _⟩
  · by_cases c : m = 2
    · have b : ¬ Lp y := fun h => a ⟨c, h⟩
      subst c
      rw [show ml y 2 = 28 by unfold ml; rw [if_pos (by omega), if_neg b]]
      rw [decide_eq_false b] at HL
      clear b a
      go_enter Tryz.func138, Tryz.ntmps138
      go_wp2_with fail
      refine HL.out.mono ?_
      rintro e w1 ⟨rfl, hw⟩; subst w1
      go_wp2
      go_ret
      exact ⟨rfl, (Below.refl _ _).alloc (Nat.le_refl _) _⟩
    · clear a HL
      rcases (show m = 1 ∨ m = 3 ∨ m = 4 ∨ m = 5 ∨ m = 6 ∨ m = 7 ∨ m = 8 ∨ m = 9 ∨ m = 10 ∨ m = 11 ∨ m = 12 by omega) with rfl | rfl | rfl | rfl | rfl | rfl | rfl | rfl | rfl | rfl | rfl
      · rw [show ml y 1 = 31 by simp [ml]]
        clear c hm0 hm1
        go_enter Tryz.func138, Tryz.ntmps138
        go_wp2
        go_ret
        exact ⟨rfl, (Below.refl _ _).alloc (Nat.le_refl _) _⟩
      · rw [show ml y 3 = 31 by simp [ml]]
        clear c hm0 hm1
        go_enter Tryz.func138, Tryz.ntmps138
        go_wp2
        go_ret
        exact ⟨rfl, (Below.refl _ _).alloc (Nat.le_refl _) _⟩
      · rw [show ml y 4 = 30 by simp [ml]]
        clear c hm0 hm1
        go_enter Tryz.func138, Tryz.ntmps138
        go_wp2
        go_ret
        exact ⟨rfl, (Below.refl _ _).alloc (Nat.le_refl _) _⟩
      · rw [show ml y 5 = 31 by simp [ml]]
        clear c hm0 hm1
        go_enter Tryz.func138, Tryz.ntmps138
        go_wp2
        go_ret
        exact ⟨rfl, (Below.refl _ _).alloc (Nat.le_refl _) _⟩
      · rw [show ml y 6 = 30 by simp [ml]]
        clear c hm0 hm1
        go_enter Tryz.func138, Tryz.ntmps138
        go_wp2
        go_ret
        exact ⟨rfl, (Below.refl _ _).alloc (Nat.le_refl _) _⟩
      · rw [show ml y 7 = 31 by simp [ml]]
        clear c hm0 hm1
        go_enter Tryz.func138, Tryz.ntmps138
        go_wp2
        go_ret
        exact ⟨rfl, (Below.refl _ _).alloc (Nat.le_refl _) _⟩
      · rw [show ml y 8 = 31 by simp [ml]]
        clear c hm0 hm1
        go_enter Tryz.func138, Tryz.ntmps138
        go_wp2
        go_ret
        exact ⟨rfl, (Below.refl _ _).alloc (Nat.le_refl _) _⟩
      · rw [show ml y 9 = 30 by simp [ml]]
        clear c hm0 hm1
        go_enter Tryz.func138, Tryz.ntmps138
        go_wp2
        go_ret
        exact ⟨rfl, (Below.refl _ _).alloc (Nat.le_refl _) _⟩
      · rw [show ml y 10 = 31 by simp [ml]]
        clear c hm0 hm1
        go_enter Tryz.func138, Tryz.ntmps138
        go_wp2
        go_ret
        exact ⟨rfl, (Below.refl _ _).alloc (Nat.le_refl _) _⟩
      · rw [show ml y 11 = 30 by simp [ml]]
        clear c hm0 hm1
        go_enter Tryz.func138, Tryz.ntmps138
        go_wp2
        go_ret
        exact ⟨rfl, (Below.refl _ _).alloc (Nat.le_refl _) _⟩
      · rw [show ml y 12 = 31 by simp [ml]]
        clear c hm0 hm1
        go_enter Tryz.func138, Tryz.ntmps138
        go_wp2
        go_ret
        exact ⟨rfl, (Below.refl _ _).alloc (Nat.le_refl _) _⟩
end Go.Proofs.YthcogkoleiejgaaGreatDoor.Cal
/- The program's dates: the year of a day, the date of a day. -/
namespace Go.Proofs.YthcogkoleiejgaaGreatDoor.Cal
open Go.RowKit

set_option maxHeartbeats 1000000 in
theorem f151 (y : Int) (w : World) (h0 : 1 ≤ y) (h1 : y ≤ 1000000) :
    Calls Tryz.prog 151 #[.int .i64 y] w fun e w' => e = .returned (.int .i64 (F y + 719162)) ∧ w' = w := by
  have r1 : Int.tdiv (y - 1) 4 = (y - 1) / 4 := Int.tdiv_eq_ediv_of_nonneg (by omega)
  have r2 : Int.tdiv (y - 1) 100 = (y - 1) / 100 := Int.tdiv_eq_ediv_of_nonneg (by omega)
  have r3 : Int.tdiv (y - 1) 400 = (y - 1) / 400 := Int.tdiv_eq_ediv_of_nonneg (by omega)
  have HF : Hid (F y + 719162 = (y - 1) * 365 + (y - 1) / 4 - (y - 1) / 100 + (y - 1) / 400) := by unfold Hid F; omega
  have b1 : 0 ≤ (y - 1) / 4 := by omega
  have b2 : (y - 1) / 4 ≤ 1000000 := by omega
  have b3 : 0 ≤ (y - 1) / 100 := by omega
  have b4 : (y - 1) / 100 ≤ 1000000 := by omega
  have b5 : 0 ≤ (y - 1) / 400 := by omega
  have b6 : (y - 1) / 400 ≤ 1000000 := by omega
  go_enter Tryz.func151, Tryz.ntmps151
  go_wp2
  go_ret
  exact ⟨by rw [HF.out]; rfl, rfl⟩
theorem F_bounds {y : Int} (h0 : 1 ≤ y) (h1 : y ≤ 1000000) : -719162 ≤ F y ∧ F y ≤ 366000000 := by unfold F; omega

set_option maxHeartbeats 1000000 in
theorem f143 (y : Int) (w : World) (h0 : 1 ≤ y) (h1 : y ≤ 1000000) :
    Calls Tryz.prog 143 #[.int .i64 y] w fun e w' => e = .returned (.int .i64 (F y)) ∧ w' = w := by
  have H1 := hid (f151 y w h0 h1)
  have H2 := hid (f151 1970 w (by omega) (by omega))
  rw [F_first] at H2
  obtain ⟨b1, b2⟩ := F_bounds h0 h1
  generalize F y = z at *
  go_enter Tryz.func143, Tryz.ntmps143
  go_wp2_with fail
  refine H1.out.mono ?_
  rintro e w1 ⟨rfl, hw⟩; subst w1
  go_wp2_with fail
  refine H2.out.mono ?_
  rintro e w1 ⟨rfl, hw⟩; subst w1
  go_wp2
  go_ret
  exact ⟨by go_num, rfl⟩

set_option maxHeartbeats 1000000 in
theorem f149 (D : Int) (w : World) (h0 : 0 ≤ D) (h1 : D ≤ 20000000) :
    Calls Tryz.prog 149 #[.int .i64 D] w fun e w' => ∃ y, e = .returned (.int .i64 y) ∧ Hid (Yr D y) ∧ w' = w := by
  have r1 : Int.tdiv (D * 400) 146097 = D * 400 / 146097 := Int.tdiv_eq_ediv_of_nonneg (by omega)
  have b1 : 0 ≤ D * 400 / 146097 := by omega
  have b2 : D * 400 / 146097 ≤ 100000 := by omega
  go_enter Tryz.func149, Tryz.ntmps149
  go_wp2
  go_loopw [3] (fun s wr => ∃ y : Int, 1970 ≤ y ∧ y ≤ 200000 ∧ s = .int .i64 y ∧ Hid (wr = w)) (fun s _ => (intOf s).toNat)
  case atStart => exact ⟨1970 + D * 400 / 146097, by omega, by omega, rfl, rfl⟩
  case round =>
    obtain ⟨y, hy0, hy1, rfl, HW⟩ := hrel
    obtain rfl := HW.out.symm
    obtain ⟨f0, f1⟩ := F_bounds (y := y) (by omega) (by omega)
    have H1 := hid (f143 y w (by omega) (by omega))
    by_cases hlt : F y > D
    · have hy : 1970 < y := by
        rcases Int.lt_or_eq_of_le hy0 with h | h
        · exact h
        · rw [← h, F_first] at hlt; omega
      generalize F y = z at *
      go_wp2_with fail
      refine H1.out.mono ?_
      rintro e w1 ⟨rfl, hw⟩; subst w1
      go_wp2
      go_roundw
      case rel => exact ⟨y - 1, by omega, by omega, rfl, trivial⟩
      case measure => simp [intOf]; omega
    · have HY : Hid (F y ≤ D) := by unfold Hid; omega
      generalize F y = z at H1 hlt f0 f1
      go_wp2_with fail
      refine H1.out.mono ?_
      rintro e w1 ⟨rfl, hw⟩; subst w1
      go_wp2
      clear hlt f0 f1 H1
      go_loopw [3] (fun s wx => ∃ x : Int, 1970 ≤ x ∧ s = .int .i64 x ∧ Hid (F x ≤ D) ∧ Hid (wx = w)) (fun s _ => (200000 - intOf s).toNat)
      case atStart => exact ⟨y, hy0, rfl, HY, rfl⟩
      case round =>
        obtain ⟨x, hx0, rfl, HX, HW⟩ := hrel
        obtain rfl := HW.out.symm
        have hx1 : x ≤ 100000 := by have := F_low hx0; have := HX.out; omega
        obtain ⟨f0, f1⟩ := F_bounds (y := x + 1) (by omega) (by omega)
        have H1 := hid (f143 (x + 1) w (by omega) (by omega))
        by_cases hle : F (x + 1) ≤ D
        · have HN := hid hle
          generalize F (x + 1) = z at H1 f0 f1 hle
          go_wp2_with fail
          refine H1.out.mono ?_
          rintro e w1 ⟨rfl, hw⟩; subst w1
          go_wp2
          go_roundw
          case rel => exact ⟨x + 1, by omega, by go_num, HN, trivial⟩
          case measure => simp [intOf]; omega
        · have HR : Hid (Yr D x) := ⟨hx0, HX.out, by omega⟩
          generalize F (x + 1) = z at H1 f0 f1 hle
          go_wp2_with fail
          refine H1.out.mono ?_
          rintro e w1 ⟨rfl, hw⟩; subst w1
          go_wp2
          go_ret
          exact ⟨x, rfl, HR, rfl⟩

abbrev dv (y m d l k n : Int) : Value := .agg #[.int .i64 y, .int .i64 m, .int .i64 d, .int .i64 l, .int .i64 k, .int .i64 n]
abbrev dz : Value := dv 0 0 0 0 0 0
abbrev dc (y m d l k n : Int) : Obj := .cells #[.int .i64 y, .int .i64 m, .int .i64 d, .int .i64 l, .int .i64 k, .int .i64 n] 158

theorem lt_block {w : World} {b : Nat} {o : Obj} (h : w.heap[b]? = some o) : b < w.heap.size := (Array.getElem?_eq_some_iff.1 h).1
theorem box_below {w w' : World} {b : Nat} {o : Obj} (h : w.heap[b]? = some o) (hb : Below w.heap.size w w') : w'.heap[b]? = some o := (hb.block b (lt_block h)).trans h
theorem set_cell {w : World} {b o : Nat} {t : TypeId} {cs : Array Value} {q : Nat × Nat} {x : Value} (h : w.heap[b]? = some (.cells cs t q)) : (w.setCell ⟨b, o, none⟩ x).heap[b]? = some (.cells (cs.setIfInBounds o x) t q) := by
  have hlt : b < w.heap.size := (Array.getElem?_eq_some_iff.1 h).1
  have h' : w.heap[b] = .cells cs t q := by simpa [Array.getElem?_eq_getElem hlt] using h
  show (w.heap.modify b _)[b]? = _
  rw [Array.getElem?_eq_getElem (by simpa using hlt), Array.getElem_modify_self, h']
  rfl
theorem cell_at {w : World} {b : Nat} {t : TypeId} {cs : Array Value} {q : Nat × Nat} (h : w.heap[b]? = some (.cells cs t q)) (o : Nat) : w.cell? ⟨b, o, none⟩ = cs[o]? := by
  unfold World.cell?; simp only [h]; rfl
theorem froz_at {w : World} {b : Nat} {t : TypeId} {cs : Array Value} (h : w.heap[b]? = some (.cells cs t (0, 0))) (o : Nat) : w.frozen? ⟨b, o, none⟩ = false := by simp [World.frozen?, h]
/-- What a struct of six cells holds, and that it may be written. -/
structure Six (w : World) (b : Nat) (y m d l k n : Int) : Prop where
  x : w.heap[b]? = some (dc y m d l k n)
theorem Six.cells {w : World} {b : Nat} {y m d l k n : Int} (h : Six w b y m d l k n) : w.cell? ⟨b, 0, none⟩ = some (.int .i64 y) ∧ w.cell? ⟨b, 1, none⟩ = some (.int .i64 m) ∧ w.cell? ⟨b, 2, none⟩ = some (.int .i64 d) ∧ w.cell? ⟨b, 3, none⟩ = some (.int .i64 l) ∧ w.cell? ⟨b, 4, none⟩ = some (.int .i64 k) ∧ w.cell? ⟨b, 5, none⟩ = some (.int .i64 n) :=
  ⟨cell_at h.x 0, cell_at h.x 1, cell_at h.x 2, cell_at h.x 3, cell_at h.x 4, cell_at h.x 5⟩
theorem Six.froz {w : World} {b : Nat} {y m d l k n : Int} (h : Six w b y m d l k n) : w.frozen? ⟨b, 0, none⟩ = false ∧ w.frozen? ⟨b, 1, none⟩ = false ∧ w.frozen? ⟨b, 2, none⟩ = false ∧ w.frozen? ⟨b, 3, none⟩ = false ∧ w.frozen? ⟨b, 4, none⟩ = false ∧ w.frozen? ⟨b, 5, none⟩ = false :=
  ⟨froz_at h.x 0, froz_at h.x 1, froz_at h.x 2, froz_at h.x 3, froz_at h.x 4, froz_at h.x 5⟩
theorem Six.below {w w' : World} {b : Nat} {y m d l k n : Int} (h : Six w b y m d l k n) (hb : Below w.heap.size w w') : Six w' b y m d l k n := ⟨box_below h.x hb⟩
theorem Six.new (w : World) (y m d l k n : Int) : Six (w.alloc (dc y m d l k n)) w.heap.size y m d l k n := ⟨heap_alloc_new w _⟩
theorem Six.all {w : World} {b : Nat} {y m d l k n y' m' d' l' k' n' : Int} (h : Six w b y m d l k n) : Six ((((((w.setCell ⟨b, 0, none⟩ (.int .i64 y')).setCell ⟨b, 1, none⟩ (.int .i64 m')).setCell ⟨b, 2, none⟩ (.int .i64 d')).setCell ⟨b, 3, none⟩ (.int .i64 l')).setCell ⟨b, 4, none⟩ (.int .i64 k')).setCell ⟨b, 5, none⟩ (.int .i64 n')) b y' m' d' l' k' n' := by
  have := set_cell (o := 5) (x := .int .i64 n') (set_cell (o := 4) (x := .int .i64 k') (set_cell (o := 3) (x := .int .i64 l') (set_cell (o := 2) (x := .int .i64 d') (set_cell (o := 1) (x := .int .i64 m') (set_cell (o := 0) (x := .int .i64 y') h.x)))))
  exact ⟨this⟩
theorem Six.s0 {w : World} {b : Nat} {y m d l k n : Int} (h : Six w b y m d l k n) (x : Int) : Six (w.setCell ⟨b, 0, none⟩ (.int .i64 x)) b x m d l k n := ⟨set_cell h.x⟩
theorem Six.s1 {w : World} {b : Nat} {y m d l k n : Int} (h : Six w b y m d l k n) (x : Int) : Six (w.setCell ⟨b, 1, none⟩ (.int .i64 x)) b y x d l k n := ⟨set_cell h.x⟩
theorem Six.s2 {w : World} {b : Nat} {y m d l k n : Int} (h : Six w b y m d l k n) (x : Int) : Six (w.setCell ⟨b, 2, none⟩ (.int .i64 x)) b y m x l k n := ⟨set_cell h.x⟩
theorem Six.s3 {w : World} {b : Nat} {y m d l k n : Int} (h : Six w b y m d l k n) (x : Int) : Six (w.setCell ⟨b, 3, none⟩ (.int .i64 x)) b y m d x k n := ⟨set_cell h.x⟩
theorem below_all {w0 w : World} {b : Nat} {x0 x1 x2 x3 x4 x5 : Value} (h : Below w0.heap.size w0 w) (hb : w0.heap.size ≤ b) : Below w0.heap.size w0 ((((((w.setCell ⟨b, 0, none⟩ x0).setCell ⟨b, 1, none⟩ x1).setCell ⟨b, 2, none⟩ x2).setCell ⟨b, 3, none⟩ x3).setCell ⟨b, 4, none⟩ x4).setCell ⟨b, 5, none⟩ x5) :=
  (((((h.setCell hb _).setCell hb _).setCell hb _).setCell hb _).setCell hb _).setCell hb _

set_option maxHeartbeats 2000000 in
theorem f139 (D : Int) (w : World) (h0 : 0 ≤ D) (h1 : D ≤ 20000000) (hM : Mon w) :
    Calls Tryz.prog 139 #[.int .i64 D] w fun e w' => ∃ y m d, e = .returned (dv y m d (ml y m) ((4 + D) % 7) 0) ∧ Hid (Dt D y m d) ∧ Hid (Below w.heap.size w w') := by
  have HM : Hid (Mon (w.alloc (dc 0 0 0 0 0 0))) := hM.below ((Below.refl _ _).alloc (Nat.le_refl _) _)
  have HB : Hid (Below w.heap.size w (w.alloc (dc 0 0 0 0 0 0))) := (Below.refl _ _).alloc (Nat.le_refl _) _
  have r1 : Int.tmod (4 + D) 7 = (4 + D) % 7 := Int.tmod_eq_emod_of_nonneg (by omega)
  have b1 : 0 ≤ (4 + D) % 7 := by omega
  have b2 : (4 + D) % 7 ≤ 6 := by omega
  clear hM
  go_enter Tryz.func139, Tryz.ntmps139
  go_wp2_with fail
  refine (f149 D _ h0 h1).mono ?_
  rintro e w1 ⟨y, rfl, HY, hw⟩; subst w1
  have hy0 := HY.out.1
  have hy1 : y ≤ 100000 := by have := yr_low HY.out; omega
  have HF := hid (f143 y (w.alloc (dc 0 0 0 0 0 0)) (by omega) (by omega))
  have HS := hid (Mo.first HY.out)
  obtain ⟨f0, f1⟩ := F_bounds (y := y) (by omega) (by omega)
  generalize F y = z at HF HS f0 f1
  go_wp2_with fail
  refine HF.out.mono ?_
  rintro e w1 ⟨rfl, hw⟩; subst w1
  go_wp2
  go_loopw [4, 5] (fun s4 s5 wr => ∃ l m : Int, s4 = .int .i64 l ∧ s5 = .int .i64 m ∧ Hid (Mo D y m l) ∧ Hid (wr = w.alloc (dc 0 0 0 0 0 0))) (fun _ s _ => (20 - intOf s).toNat)
  case atStart => exact ⟨D - z, 1, rfl, rfl, HS, rfl⟩
  case round =>
    obtain ⟨l, m, rfl, rfl, HO, HW⟩ := hrel
    have hw := HW.out
    subst hw
    have hm0 := HO.out.1
    have hm1 := HO.out.2.1
    have hl0 := HO.out.2.2.1
    have hl1 : l ≤ 20000000 := by
      have a := HO.out.2.2.2
      have b := (cu_pos (y := y) (m := m) hm0 (by omega)).1
      have c := F_mono hy0
      rw [F_first] at c
      omega
    have HL := hid (f142 y m (w.alloc (dc 0 0 0 0 0 0)) (by omega) (by omega) hm0 hm1 HM.out)
    obtain ⟨p0, p1⟩ := ml_pos y m
    by_cases hge : l ≥ ml y m
    · have HN := hid (HO.out.next HY.out hge)
      generalize ml y m = x at *
      go_wp2_with fail
      refine HL.out.mono ?_
      rintro e w1 ⟨rfl, hw⟩; subst w1
      go_wp2_with fail
      refine HL.out.mono ?_
      rintro e w1 ⟨rfl, hw⟩; subst w1
      go_wp2
      go_roundw
      case rel => exact ⟨l - x, m + 1, rfl, by go_num, HN, trivial⟩
      case measure => simp [intOf]; omega
    · have HN := hid (HO.out.last HY.out (by omega))
      obtain ⟨x, hx⟩ : ∃ x, x = ml y m := ⟨_, rfl⟩
      rw [← hx] at HL p0 p1 hge
      have HX := hid hx
      clear hx
      go_wp2_with fail
      refine HL.out.mono ?_
      rintro e w1 ⟨rfl, hw⟩; subst w1
      go_wp2_with fail
      refine HL.out.mono ?_
      rintro e w1 ⟨rfl, hw⟩; subst w1
      go_wp2
      go_returns
      exact ⟨y, m, l + 1, by rw [HX.out], HN, (Below.refl _ _).alloc (Nat.le_refl _) _⟩
end Go.Proofs.YthcogkoleiejgaaGreatDoor.Cal
/- The program's DateOf and DayNumber. -/
namespace Go.Proofs.YthcogkoleiejgaaGreatDoor.Cal
open Go.RowKit

/-- The time has a date in the zone. -/
def Has (t z : Int) : Prop := 0 ≤ t ∧ t ≤ 1000000000000 ∧ -1440 ≤ z ∧ z ≤ 1440 ∧ 0 ≤ t + z * 60
instance (t z : Int) : Decidable (Has t z) := by unfold Has; infer_instance
/-- What is said of a time in a zone: its date, or nothing. -/
def DtR (t z : Int) (v : Value) (b : Bool) : Prop := (¬ Has t z ∧ v = dz ∧ b = false) ∨ (Has t z ∧ b = true ∧ ∃ y m d, v = dv y m d (ml y m) ((4 + (t + z * 60) / 86400) % 7) ((t + z * 60) % 86400 / 60) ∧ Dt ((t + z * 60) / 86400) y m d)

set_option maxHeartbeats 2000000 in
theorem dateIn_no (t z : Int) (w : World) (h : ¬ Has t z) :
    Calls Tryz.prog 118 #[.int .i64 t, .int .i64 z] w fun e w' => e = .returned (.tuple #[dz, .bool false]) ∧ Hid (Below w.heap.size w w') := by
  have H1 := fun x => hid (f43 t x)
  have H2 := fun x => hid (f105 z x)
  have HB : ∀ a b c d e f, Hid (Below w.heap.size w (w.alloc (dc a b c d e f))) := fun _ _ _ _ _ _ => (Below.refl _ _).alloc (Nat.le_refl _) _
  by_cases a : 0 ≤ t ∧ t ≤ 1000000000000
  · simp only [decide_eq_true a] at H1
    by_cases b : -1440 ≤ z ∧ z ≤ 1440
    · simp only [decide_eq_true b] at H2
      have c : t + z * 60 < 0 := by unfold Has at h; omega
      clear h
      obtain ⟨a0, a1⟩ := a
      obtain ⟨b0, b1⟩ := b
      go_enter Tryz.func118, Tryz.ntmps118
      go_wp2_with fail
      refine (H1 _).out.mono ?_
      rintro e w1 ⟨rfl, hw⟩; subst w1
      go_wp2_with fail
      refine (H2 _).out.mono ?_
      rintro e w1 ⟨rfl, hw⟩; subst w1
      go_wp2
      go_returns
      exact ⟨rfl, HB _ _ _ _ _ _⟩
    · simp only [decide_eq_false b] at H2
      clear h b a
      go_enter Tryz.func118, Tryz.ntmps118
      go_wp2_with fail
      refine (H1 _).out.mono ?_
      rintro e w1 ⟨rfl, hw⟩; subst w1
      go_wp2_with fail
      refine (H2 _).out.mono ?_
      rintro e w1 ⟨rfl, hw⟩; subst w1
      go_wp2
      go_returns
      exact ⟨rfl, HB _ _ _ _ _ _⟩
  · simp only [decide_eq_false a] at H1
    clear h a
    go_enter Tryz.func118, Tryz.ntmps118
    go_wp2_with fail
    refine (H1 _).out.mono ?_
    rintro e w1 ⟨rfl, hw⟩; subst w1
    go_wp2
    go_returns
    exact ⟨rfl, HB _ _ _ _ _ _⟩

set_option maxHeartbeats 4000000 in
theorem dateIn_yes (t z : Int) (w : World) (h : Has t z) (hM : Mon w) :
    Calls Tryz.prog 118 #[.int .i64 t, .int .i64 z] w fun e w' => ∃ v, e = .returned (.tuple #[v, .bool true]) ∧ Hid (DtR t z v true) ∧ Hid (Below w.heap.size w w') := by
  have H1 := fun x => hid (f43 t x)
  have H2 := fun x => hid (f105 z x)
  have HH := hid h
  obtain ⟨a0, a1, b0, b1, c⟩ := h
  simp only [decide_eq_true (show 0 ≤ t ∧ t ≤ 1000000000000 from ⟨a0, a1⟩)] at H1
  simp only [decide_eq_true (show -1440 ≤ z ∧ z ≤ 1440 from ⟨b0, b1⟩)] at H2
  have c' : ¬ t + z * 60 < 0 := by omega
  have r1 : Int.tdiv (t + z * 60) 86400 = (t + z * 60) / 86400 := Int.tdiv_eq_ediv_of_nonneg c
  have r2 : Int.tmod (t + z * 60) 86400 = (t + z * 60) % 86400 := Int.tmod_eq_emod_of_nonneg c
  have r3 : Int.tdiv ((t + z * 60) % 86400) 60 = (t + z * 60) % 86400 / 60 := Int.tdiv_eq_ediv_of_nonneg (by omega)
  have d0 : 0 ≤ (t + z * 60) / 86400 := by omega
  have d1 : (t + z * 60) / 86400 ≤ 20000000 := by omega
  have e0 : 0 ≤ (t + z * 60) % 86400 / 60 := by omega
  have e1 : (t + z * 60) % 86400 / 60 ≤ 1440 := by omega
  have f0 : 0 ≤ (t + z * 60) % 86400 := by omega
  have f1 : (t + z * 60) % 86400 ≤ 86400 := by omega
  have HM : Hid (Mon (w.alloc (dc 0 0 0 0 0 0))) := hM.below ((Below.refl _ _).alloc (Nat.le_refl _) _)
  have HB : Hid (Below w.heap.size w (w.alloc (dc 0 0 0 0 0 0))) := (Below.refl _ _).alloc (Nat.le_refl _) _
  have HX : Hid ((w.alloc (dc 0 0 0 0 0 0)).heap[w.heap.size]? = some (dc 0 0 0 0 0 0)) := heap_alloc_new w _
  have HK := hid (f139 ((t + z * 60) / 86400) (w.alloc (dc 0 0 0 0 0 0)) d0 d1 HM.out)
  clear hM
  go_enter Tryz.func118, Tryz.ntmps118
  go_wp2_with fail
  refine (H1 _).out.mono ?_
  rintro e w1 ⟨rfl, hw⟩; subst w1
  go_wp2_with fail
  refine (H2 _).out.mono ?_
  rintro e w1 ⟨rfl, hw⟩; subst w1
  go_wp2_with fail
  refine HK.out.mono ?_
  rintro e w1 ⟨y, m, d, rfl, HD, HB1⟩
  have HB2 := hid (HB.out.trans (HB1.out.mono HB.out.size))
  have hX1 : w1.heap[w.heap.size]? = some (dc 0 0 0 0 0 0) := (HB1.out.block _ (by simp)).trans HX.out
  have hlt : w.heap.size < w1.heap.size := by have := HB1.out.size; simp at this; omega
  have HR : Hid (DtR t z (dv y m d (ml y m) ((4 + (t + z * 60) / 86400) % 7) ((t + z * 60) % 86400 / 60)) true) := .inr ⟨HH.out, rfl, y, m, d, rfl, HD.out⟩
  generalize (4 + (t + z * 60) / 86400) % 7 = K at *
  generalize ml y m = L at *
  clear HB1 HX HK HM HB H1 H2
  generalize (t + z * 60) % 86400 / 60 = MI at *
  have HN : Hid (Six (w1.alloc (dc y m d L K MI)) w1.heap.size y m d L K MI) := Six.new _ _ _ _ _ _ _
  have HO : Hid (Six (w1.alloc (dc y m d L K MI)) w.heap.size 0 0 0 0 0 0) := ⟨box_below hX1 ((Below.refl _ _).alloc (Nat.le_refl _) _)⟩
  have HB3 := hid (HB2.out.alloc HB2.out.size (dc y m d L K MI))
  have HE := hid (rfl : w1.alloc (dc y m d L K MI) = w1.alloc (dc y m d L K MI))
  obtain ⟨W, hW⟩ : ∃ W, W = w1.alloc (dc y m d L K MI) := ⟨_, rfl⟩
  rw [← hW] at HN HO HB3
  have HW := hid hW
  clear hW HE hX1 HB2
  go_upto_region 6 with fail
  rw [← HW.out]
  clear HW
  generalize w1.heap.size = X at *
  obtain ⟨x0, x1, x2, x3, x4, x5⟩ := HN.out.cells
  obtain ⟨o0, o1, o2, o3, o4, o5⟩ := HO.out.cells
  obtain ⟨p0, p1, p2, p3, p4, p5⟩ := HO.out.froz
  go_wp2
  have HA := HO.out.all (y' := y) (m' := m) (d' := d) (l' := L) (k' := K) (n' := MI)
  obtain ⟨q0, q1, q2, q3, q4, q5⟩ := HA.cells
  refine bodyPost_ret (v := .tuple #[dv y m d L K MI, .bool true]) ?_ rfl ⟨_, rfl, HR, below_all HB3.out (Nat.le_refl _)⟩
  rw [results_cell_tmp rfl]
  go_simp
end Go.Proofs.YthcogkoleiejgaaGreatDoor.Cal
/- The program's DateOf and DayNumber. -/
namespace Go.Proofs.YthcogkoleiejgaaGreatDoor.Cal
open Go.RowKit

/-- The variable rangeLimits. -/
def rl : List Int := [0, 1439, 0, 6, -31, 31, 1, 12, 1970, 40000]
structure Rgl (w : World) : Prop where
  lt : 0 < w.heap.size
  c : ∀ k : Nat, k < 10 → w.cell? ⟨0, k, none⟩ = some (.int .i64 (rl.getD k 0))
theorem Rgl.below {w w' : World} (h : Rgl w) (hb : Below w.heap.size w w') : Rgl w' :=
  ⟨Nat.lt_of_lt_of_le h.lt hb.size, fun k hk => (hb.cell (by exact h.lt)).trans (h.c k hk)⟩

set_option maxHeartbeats 1000000 in
theorem f140 (a b n : Int) (w : World) :
    Calls Tryz.prog 140 #[.agg #[.int .i64 a, .int .i64 b], .int .i64 n] w fun e w' => e = .returned (.bool (decide (a ≤ n ∧ n ≤ b))) ∧ Hid (Below w.heap.size w w') := by
  have HB := fun o => hid ((Below.refl w.heap.size w).alloc (Nat.le_refl _) o)
  by_cases h1 : n ≥ a
  · by_cases h2 : n ≤ b
    · rw [decide_eq_true (show a ≤ n ∧ n ≤ b from ⟨h1, h2⟩)]
      go_enter Tryz.func140, Tryz.ntmps140
      go_wp2
      go_ret
      exact ⟨rfl, HB _⟩
    · rw [decide_eq_false (show ¬ (a ≤ n ∧ n ≤ b) by omega)]
      go_enter Tryz.func140, Tryz.ntmps140
      go_wp2
      go_ret
      exact ⟨rfl, HB _⟩
  · rw [decide_eq_false (show ¬ (a ≤ n ∧ n ≤ b) by omega)]
    go_enter Tryz.func140, Tryz.ntmps140
    go_wp2
    go_ret
    exact ⟨rfl, HB _⟩

/-- There is such a date. -/
def Is (y m d : Int) : Prop := 1970 ≤ y ∧ y ≤ 40000 ∧ 1 ≤ m ∧ m ≤ 12 ∧ 1 ≤ d ∧ d ≤ ml y m
instance (y m d : Int) : Decidable (Is y m d) := by unfold Is; infer_instance
/-- The number of a date, or -1. -/
def dn (y m d : Int) : Int := if Is y m d then F y + cu y m + d - 1 else -1
theorem Dt.num {D y m d : Int} (h : Dt D y m d) (hy : y ≤ 40000) : dn y m d = D := by
  unfold dn
  rw [if_pos ⟨h.y0, hy, h.m0, h.m1, h.d0, h.d1⟩]
  exact h.sum

set_option maxHeartbeats 4000000 in
theorem num_no (y m d : Int) (w : World) (h : ¬ Is y m d) (hM : Mon w) (hR : Rgl w) :
    Calls Tryz.prog 121 #[.int .i64 y, .int .i64 m, .int .i64 d] w fun e w' => e = .returned (.int .i64 (-1)) ∧ Hid (Below w.heap.size w w') := by
  have H1 := fun x => hid (f140 1970 40000 y x)
  have H2 := fun x => hid (f140 1 12 m x)
  have HM := hid hM
  have HR := hid hR
  have g := hR.lt
  have c8 := hR.c 8 (by omega)
  have c9 := hR.c 9 (by omega)
  rw [show rl.getD 8 0 = 1970 from rfl] at c8
  rw [show rl.getD 9 0 = 40000 from rfl] at c9
  clear hM hR
  by_cases a : 1970 ≤ y ∧ y ≤ 40000
  · simp only [decide_eq_true a] at H1
    by_cases b : 1 ≤ m ∧ m ≤ 12
    · simp only [decide_eq_true b] at H2
      by_cases c : d < 1
      · clear h a b
        go_enter Tryz.func121, Tryz.ntmps121
        go_wp2_with fail
        refine (H1 _).out.mono ?_
        rintro e w1 ⟨rfl, HB⟩
        have HR1 := hid (HR.out.below HB.out)
        have g1 := HR1.out.lt
        have c6 := HR1.out.c 6 (by omega)
        have c7 := HR1.out.c 7 (by omega)
        rw [show rl.getD 6 0 = 1 from rfl] at c6
        rw [show rl.getD 7 0 = 12 from rfl] at c7
        go_wp2_with fail
        refine (H2 _).out.mono ?_
        rintro e w2 ⟨rfl, HB1⟩
        have HB2 := hid (HB.out.trans (HB1.out.mono HB.out.size))
        go_wp2
        go_ret
        exact ⟨rfl, HB2⟩
      · have k : d > ml y m := by unfold Is at h; omega
        clear h
        go_enter Tryz.func121, Tryz.ntmps121
        go_wp2_with fail
        refine (H1 _).out.mono ?_
        rintro e w1 ⟨rfl, HB⟩
        have HR1 := hid (HR.out.below HB.out)
        have g1 := HR1.out.lt
        have c6 := HR1.out.c 6 (by omega)
        have c7 := HR1.out.c 7 (by omega)
        rw [show rl.getD 6 0 = 1 from rfl] at c6
        rw [show rl.getD 7 0 = 12 from rfl] at c7
        go_wp2_with fail
        refine (H2 _).out.mono ?_
        rintro e w2 ⟨rfl, HB1⟩
        have HB2 := hid (HB.out.trans (HB1.out.mono HB.out.size))
        have HL := hid (f142 y m w2 (by omega) (by omega) b.1 b.2 (HM.out.below HB2.out))
        obtain ⟨a0, a1⟩ := a
        obtain ⟨b0, b1⟩ := b
        generalize ml y m = x at *
        go_wp2_with fail
        refine HL.out.mono ?_
        rintro e w3 ⟨rfl, hw⟩; subst w3
        go_wp2
        go_ret
        exact ⟨rfl, HB2⟩
    · simp only [decide_eq_false b] at H2
      clear h a b
      go_enter Tryz.func121, Tryz.ntmps121
      go_wp2_with fail
      refine (H1 _).out.mono ?_
      rintro e w1 ⟨rfl, HB⟩
      have HR1 := hid (HR.out.below HB.out)
      have g1 := HR1.out.lt
      have c6 := HR1.out.c 6 (by omega)
      have c7 := HR1.out.c 7 (by omega)
      rw [show rl.getD 6 0 = 1 from rfl] at c6
      rw [show rl.getD 7 0 = 12 from rfl] at c7
      go_wp2_with fail
      refine (H2 _).out.mono ?_
      rintro e w2 ⟨rfl, HB1⟩
      have HB2 := hid (HB.out.trans (HB1.out.mono HB.out.size))
      go_wp2
      go_ret
      exact ⟨rfl, HB2⟩
  · simp only [decide_eq_false a] at H1
    clear h a
    go_enter Tryz.func121, Tryz.ntmps121
    go_wp2_with fail
    refine (H1 _).out.mono ?_
    rintro e w1 ⟨rfl, HB⟩
    go_wp2
    go_ret
    exact ⟨rfl, HB⟩

set_option maxHeartbeats 4000000 in
theorem num_yes (y m d : Int) (w : World) (h : Is y m d) (hM : Mon w) (hR : Rgl w) :
    Calls Tryz.prog 121 #[.int .i64 y, .int .i64 m, .int .i64 d] w fun e w' => e = .returned (.int .i64 (F y + cu y m + d - 1)) ∧ Hid (Below w.heap.size w w') := by
  have H1 := fun x => hid (f140 1970 40000 y x)
  have H2 := fun x => hid (f140 1 12 m x)
  have HM := hid hM
  have HR := hid hR
  have g := hR.lt
  have c8 := hR.c 8 (by omega)
  have c9 := hR.c 9 (by omega)
  rw [show rl.getD 8 0 = 1970 from rfl] at c8
  rw [show rl.getD 9 0 = 40000 from rfl] at c9
  clear hM hR
  obtain ⟨a0, a1, b0, b1, d0, d1⟩ := h
  simp only [decide_eq_true (show 1970 ≤ y ∧ y ≤ 40000 from ⟨a0, a1⟩)] at H1
  simp only [decide_eq_true (show 1 ≤ m ∧ m ≤ 12 from ⟨b0, b1⟩)] at H2
  have d2 : ¬ d < 1 := by omega
  have d3 : ¬ d > ml y m := by omega
  have HY := hid d1
  have d4 : d ≤ 31 := by have := (ml_pos y m).2; omega
  have HF := fun x => hid (f143 y x (by omega) (by omega))
  have f0 := (F_mono a0); rw [F_first] at f0
  have f1 := F_high (y := y) (by omega)
  generalize F y = f at *
  go_enter Tryz.func121, Tryz.ntmps121
  go_wp2_with fail
  refine (H1 _).out.mono ?_
  rintro e w1 ⟨rfl, HB⟩
  have HR1 := hid (HR.out.below HB.out)
  have g1 := HR1.out.lt
  have c6 := HR1.out.c 6 (by omega)
  have c7 := HR1.out.c 7 (by omega)
  rw [show rl.getD 6 0 = 1 from rfl] at c6
  rw [show rl.getD 7 0 = 12 from rfl] at c7
  go_wp2_with fail
  refine (H2 _).out.mono ?_
  rintro e w2 ⟨rfl, HB1⟩
  have HB2 := hid (HB.out.trans (HB1.out.mono HB.out.size))
  have HM2 := hid (HM.out.below HB2.out)
  have HL := hid (f142 y m w2 (by omega) (by omega) b0 b1 HM2.out)
  generalize ml y m = x at HL d1 d3 HY
  clear c6 c7 c8 c9 g1 HR1 HR HM H1 H2 HB HB1 g
  go_wp2_with fail
  refine HL.out.mono ?_
  rintro e w3 ⟨rfl, hw⟩; subst w3
  go_wp2_with fail
  refine (HF _).out.mono ?_
  rintro e w3 ⟨rfl, hw⟩; subst w3
  clear HL HF HY d1 d3
  go_wp2
  go_loopw [7, 8] (fun s7 s8 wr => ∃ k : Int, 1 ≤ k ∧ k ≤ m ∧ s8 = .int .i64 k ∧ s7 = .int .i64 (f + cu y k + d - 1) ∧ Hid (wr = w2)) (fun _ s _ => (20 - intOf s).toNat)
  case atStart => exact ⟨1, by omega, by omega, rfl, by rw [cu_first]; go_num, rfl⟩
  case round =>
    obtain ⟨k, hk0, hk1, rfl, rfl, HW⟩ := hrel
    obtain rfl := HW.out.symm
    obtain ⟨u0, u1⟩ := cu_pos (y := y) (m := k) hk0 (by omega)
    by_cases hlt : k < m
    · have HL := hid (f142 y k w2 (by omega) (by omega) hk0 (by omega) HM2.out)
      obtain ⟨p0, p1⟩ := ml_pos y k
      have HN := hid (cu_next (y := y) (m := k) hk0 (by omega))
      generalize ml y k = x at *
      generalize cu y k = u at *
      go_wp2_with fail
      refine HL.out.mono ?_
      rintro e w3 ⟨rfl, hw⟩; subst w3
      go_wp2
      go_roundw
      case rel => exact ⟨k + 1, by omega, by omega, by go_num, by rw [HN.out]; congr 1; omega, trivial⟩
      case measure => simp [intOf]; omega
    · obtain rfl : k = m := by omega
      go_wp2
      go_ret
      exact ⟨rfl, HB2⟩
theorem f121 (y m d : Int) (w : World) (hM : Mon w) (hR : Rgl w) :
    Calls Tryz.prog 121 #[.int .i64 y, .int .i64 m, .int .i64 d] w fun e w' => e = .returned (.int .i64 (dn y m d)) ∧ Hid (Below w.heap.size w w') := by
  by_cases h : Is y m d
  · rw [show dn y m d = F y + cu y m + d - 1 from if_pos h]
    exact num_yes y m d w h hM hR
  · rw [show dn y m d = -1 from if_neg h]
    exact num_no y m d w h hM hR
end Go.Proofs.YthcogkoleiejgaaGreatDoor.Cal
/- The variables monthDays and rangeLimits: what their cells hold where they read as their texts lay them. -/
namespace Go.Proofs.YthcogkoleiejgaaGreatDoor.Cal
open Go.ChangeShapes Go.WideShapes Go.ChangeAt Go.RowKit Go.Deep Go.Lib

/-- What a list gives, its tail gives. -/
theorem laid_tail {P : Program} {W : World} {x : String × DataW Unit} {rest : List (String × DataW Unit)} (h : laidMet P (x :: rest) W) : laidMet P rest W := by
  obtain ⟨n, d⟩ := x
  obtain ⟨ps, ⟨g, t, cs, fuel, p, q, _, _, _, _, hq, rfl⟩, hnd, hall⟩ := h
  exact ⟨q, hq, (List.nodup_append.1 hnd).2.1, fun b off hm => hall b off (List.mem_append_right _ hm)⟩
theorem gM : Tryz.prog.globalNamed "loop.example/g00039/impl.monthDays" = some 2 := by kernel_rfl
theorem gMType : (Tryz.prog.globals[2]?).map (·.type) = some 186 := by kernel_rfl
theorem cellsM : Tryz.prog.cellsOf 186 = 12 := by kernel_rfl
theorem cellsI : Tryz.prog.cellsOf 3 = 1 := by kernel_rfl
theorem monData : (Rows.laid_loop_example_g00039_impl_monthDays : DataW Unit) = Lib.tabData .i64 mt := by rfl
theorem mon_of {W : World} {rest : List (String × DataW Unit)} (h : laidMet Tryz.prog (("loop.example/g00039/impl.monthDays", Rows.laid_loop_example_g00039_impl_monthDays) :: rest) W) : Mon W := by
  rw [monData] at h
  have h4 := Lib.tabIs_of_head gM gMType Tryz.underlying186 Tryz.underlying3 cellsI cellsM h
  exact ⟨World.block_lt_of_cell? W ⟨2, 0, none⟩ (Lib.TabIs.cell h4 gM 0 (by decide)), fun k hk => by
    have := Lib.TabIs.cell h4 gM k (by simpa [mt] using hk)
    rw [this]⟩
theorem gR : Tryz.prog.globalNamed "loop.example/g00039/impl.rangeLimits" = some 0 := by kernel_rfl
theorem gRType : (Tryz.prog.globals[0]?).map (·.type) = some 185 := by kernel_rfl
theorem list2 {α : Type} {l : List α} (h : l.length = 2) : ∃ c0 c1, l = [c0, c1] := by
  match l, h with
  | [c0, c1], _ => exact ⟨c0, c1, rfl⟩
theorem oneR : ∀ fs, Tryz.prog.underlying 109 = some (.struct fs) → oneCellFields Tryz.prog fs = true := by
  intro fs h
  obtain rfl := TypeDesc.struct.inj (Option.some.inj (Tryz.underlying109.symm.trans h))
  kernel_rfl
theorem cellsR : Tryz.prog.cellsOf 109 = 2 := by kernel_rfl
def rgD {H : Type} (a b : Int) : DataW H := .agg [.lit (.int .i64 a), .lit (.int .i64 b)]
theorem int_cell {H : Type} {enc : TypeId × Value → H} {W : World} {base : Nat} {sp : Nat → Bool} {held : Bool} {m : Nat} {c : Value} {n : Int} {p : List MemPlace} (h : DataW.trod enc Tryz.prog W base sp held m 3 [c] = some (.lit (.int .i64 n), p)) : c = .int .i64 n := by
  obtain ⟨n', e, hx, _⟩ := DataW.trod_int Tryz.underlying3 h
  simp only [List.cons.injEq, and_true] at e
  simp at hx
  rw [e, hx.1]
theorem range_cells {H : Type} {enc : TypeId × Value → H} {W : World} {base : Nat} {sp : Nat → Bool} {held : Bool} {m : Nat} {l : List Value} {a b : Int} {p : List MemPlace}
    (h : DataW.trod enc Tryz.prog W base sp held m 109 l = some (rgD a b, p)) : l = [.int .i64 a, .int .i64 b] := by
  obtain ⟨xs, m, _, hx, hl, hlen, hg⟩ := DataW.trod_struct Tryz.underlying109 h
  obtain ⟨c0, c1, rfl⟩ := list2 (hl.trans cellsR)
  have hone := oneR _ Tryz.underlying109
  match xs, hlen with
  | [y0, y1], _ =>
    simp only [rgD, Prod.mk.injEq, DataW.agg.injEq, List.map_cons, List.map_nil, List.cons.injEq, and_true] at hx
    obtain ⟨⟨e0, e1⟩, _⟩ := hx
    have g0 := hg 0 _ rfl
    have g1 := hg 1 _ rfl
    obtain ⟨o0, k0⟩ := hone_of hone 0 _ rfl
    obtain ⟨o1, k1⟩ := hone_of hone 1 _ rfl
    obtain ⟨y0a, y0b⟩ := y0
    obtain ⟨y1a, y1b⟩ := y1
    simp only at e0 e1
    subst e0 e1
    rw [int_cell (c := c0) (by rw [o0, k0] at g0; exact g0), int_cell (c := c1) (by rw [o1, k1] at g1; exact g1)]
def rlV : List Value := rl.map fun z => .int .i64 z
theorem lim_cells {H : Type} {enc : TypeId × Value → H} {W : World} {base : Nat} {sp : Nat → Bool} {held : Bool} {n : Nat} {cs : List Value} {p : List MemPlace}
    (h : DataW.trod enc Tryz.prog W base sp held n 185 cs = some (Rows.laid_loop_example_g00039_impl_rangeLimits, p)) (i : Nat) (hi : i < 10) : cs[i]? = rlV[i]? := by
  obtain ⟨xs, m, _, hx, hl, hlen, hg⟩ := DataW.trod_array Tryz.underlying185 h
  have key : ∀ k, k < 5 → (cs.drop (k * 2)).take 2 = (rlV.drop (k * 2)).take 2 := by
    match xs, hlen with
    | [y0, y1, y2, y3, y4], _ =>
      simp only [Rows.laid_loop_example_g00039_impl_rangeLimits, Prod.mk.injEq, DataW.agg.injEq, List.map_cons, List.map_nil, List.cons.injEq, and_true] at hx
      obtain ⟨⟨e0, e1, e2, e3, e4⟩, _⟩ := hx
      intro k hk
      have g := hg k hk
      rw [cellsR] at g
      rcases (show k = 0 ∨ k = 1 ∨ k = 2 ∨ k = 3 ∨ k = 4 by omega) with rfl | rfl | rfl | rfl | rfl
      · exact range_cells (a := 0) (b := 1439) (p := y0.2) (g.trans (by show some y0 = _; rw [show y0 = (y0.1, y0.2) from rfl, ← e0]; rfl))
      · exact range_cells (a := 0) (b := 6) (p := y1.2) (g.trans (by show some y1 = _; rw [show y1 = (y1.1, y1.2) from rfl, ← e1]; rfl))
      · exact range_cells (a := -31) (b := 31) (p := y2.2) (g.trans (by show some y2 = _; rw [show y2 = (y2.1, y2.2) from rfl, ← e2]; rfl))
      · exact range_cells (a := 1) (b := 12) (p := y3.2) (g.trans (by show some y3 = _; rw [show y3 = (y3.1, y3.2) from rfl, ← e3]; rfl))
      · exact range_cells (a := 1970) (b := 40000) (p := y4.2) (g.trans (by show some y4 = _; rw [show y4 = (y4.1, y4.2) from rfl, ← e4]; rfl))
  have hk := key (i / 2) (by omega)
  have := congrArg (fun l => l[i % 2]?) hk
  simp only [List.getElem?_take, List.getElem?_drop] at this
  rw [if_pos (by omega), if_pos (by omega), show i / 2 * 2 + i % 2 = i from by omega] at this
  exact this
theorem rgl_of {W : World} {rest : List (String × DataW Unit)} (h : laidMet Tryz.prog (("loop.example/g00039/impl.rangeLimits", Rows.laid_loop_example_g00039_impl_rangeLimits) :: rest) W) : Rgl W := by
  obtain ⟨ps, ⟨g', t', cs, fuel, p, q, hg', ht', hvar, hd, _, _⟩, _⟩ := h
  obtain rfl := Option.some.inj (gR.symm.trans hg')
  obtain rfl := Option.some.inj (gRType.symm.trans ht')
  have key : ∀ i, i < 10 → W.cell? ⟨0, i, none⟩ = rlV[i]? := by
    intro i hi
    have h1 := World.var?_cell gR hvar i
    rw [h1, ← lim_cells hd i hi]
    simp
  refine ⟨World.block_lt_of_cell? W ⟨0, 0, none⟩ (u := .int .i64 0) (key 0 (by omega)), fun k hk => ?_⟩
  rw [key k hk]
  rcases (show k = 0 ∨ k = 1 ∨ k = 2 ∨ k = 3 ∨ k = 4 ∨ k = 5 ∨ k = 6 ∨ k = 7 ∨ k = 8 ∨ k = 9 by omega) with rfl | rfl | rfl | rfl | rfl | rfl | rfl | rfl | rfl | rfl <;> rfl
end Go.Proofs.YthcogkoleiejgaaGreatDoor.Cal
