/- Dates, plainly: years, months, and how many days lie ahead of them. -/
import Derived.Test.YtcnilidckicccaaDoorRows
import Derived.WalkKit
import Derived.ProofKit
import Derived.WalkSmall
import Derived.Below
import Derived.Handy
import Derived.Deep.CutRange
namespace Go.Proofs.YtcnilidckicccaaDoor.Cal
open Go.RowKit

theorem hid {p : Prop} (h : p) : Hid p := h
def Lp (y : Int) : Prop := y % 4 = 0 ∧ (¬ y % 100 = 0 ∨ y % 400 = 0)
instance (y : Int) : Decidable (Lp y) := by unfold Lp; infer_instance
/-- How many days a year has. -/
def yl (y : Int) : Int := if Lp y then 366 else 365
/-- How many days a month has. -/
def ml (y m : Int) : Int := if m = 2 then (if Lp y then 29 else 28) else if m = 4 ∨ m = 6 ∨ m = 9 ∨ m = 11 then 30 else 31
/-- The number of the first day of a year. -/
def F (y : Int) : Int := (y - 1) * 365 + (y - 1) / 4 - (y - 1) / 100 + (y - 1) / 400 - 719162
/-- How many days the months of the year ahead of a month have. -/
def cu (y m : Int) : Int := if m ≤ 1 then 0 else if m = 2 then 31 else (if Lp y then 1 else 0) + (if m = 3 then 59 else if m = 4 then 90 else if m = 5 then 120 else if m = 6 then 151 else if m = 7 then 181 else if m = 8 then 212 else if m = 9 then 243 else if m = 10 then 273 else if m = 11 then 304 else if m = 12 then 334 else 365)
theorem yl_pos (y : Int) : 365 ≤ yl y ∧ yl y ≤ 366 := by unfold yl; split <;> omega
theorem ml_pos (y m : Int) : 28 ≤ ml y m ∧ ml y m ≤ 31 := by
  unfold ml
  split
  · split <;> omega
  · split <;> omega
theorem F_next (y : Int) : F (y + 1) = F y + yl y := by
  unfold F yl
  by_cases h : Lp y
  · rw [if_pos h]; unfold Lp at h; omega
  · rw [if_neg h]; unfold Lp at h; omega
theorem F_first : F 1970 = 0 := by decide
theorem F_mono {y z : Int} (h : y ≤ z) : F y ≤ F z := by unfold F; omega
theorem F_low {y : Int} (h : 1970 ≤ y) : 365 * (y - 1970) ≤ F y := by unfold F; omega
theorem F_high {y : Int} (h : 1 ≤ y) : F y ≤ 366 * y := by unfold F; omega
theorem cu_first (y : Int) : cu y 1 = 0 := by unfold cu; rw [if_pos (by omega)]
theorem cu_next {y m : Int} (h0 : 1 ≤ m) (h1 : m ≤ 12) : cu y (m + 1) = cu y m + ml y m := by
  unfold cu ml
  rcases (show m = 1 ∨ m = 2 ∨ m = 3 ∨ m = 4 ∨ m = 5 ∨ m = 6 ∨ m = 7 ∨ m = 8 ∨ m = 9 ∨ m = 10 ∨ m = 11 ∨ m = 12 by omega) with rfl | rfl | rfl | rfl | rfl | rfl | rfl | rfl | rfl | rfl | rfl | rfl <;> by_cases h : Lp y <;> simp [h]
theorem cu_last (y : Int) : cu y 13 = yl y := by
  unfold cu yl
  by_cases h : Lp y <;> simp [h]
theorem cu_mono {y m n : Int} (h0 : 1 ≤ m) (h : m ≤ n) (h1 : n ≤ 13) : cu y m ≤ cu y n := by
  obtain ⟨k, rfl⟩ : ∃ k : Nat, n = m + k := ⟨(n - m).toNat, by omega⟩
  induction k with
  | zero => simp
  | succ k ih =>
    have := ih (by omega) (by omega)
    have e : m + ((k + 1 : Nat) : Int) = (m + k) + 1 := by omega
    rw [e, cu_next (by omega) (by omega)]
    have := (ml_pos y (m + k)).1
    omega
theorem cu_pos {y m : Int} (h0 : 1 ≤ m) (h1 : m ≤ 13) : 0 ≤ cu y m ∧ cu y m ≤ 366 := by
  have a := cu_mono (y := y) (Int.le_refl 1) h0 h1
  have b := cu_mono (y := y) h0 h1 (Int.le_refl 13)
  rw [cu_first] at a
  rw [cu_last] at b
  have := (yl_pos y).2
  omega
/-- The day D is in the year y. -/
def Yr (D y : Int) : Prop := 1970 ≤ y ∧ F y ≤ D ∧ D < F (y + 1)
/-- The day D is the day d of the month m of the year y. -/
structure Dt (D y m d : Int) : Prop where
  y0 : 1970 ≤ y
  m0 : 1 ≤ m
  m1 : m ≤ 12
  d0 : 1 ≤ d
  d1 : d ≤ ml y m
  sum : F y + cu y m + d - 1 = D
theorem Dt.yr {D y m d : Int} (h : Dt D y m d) : Yr D y := by
  have a := cu_pos (y := y) h.m0 (by have := h.m1; omega)
  have b := cu_mono (y := y) (m := m + 1) (n := 13) (by have := h.m0; omega) (by have := h.m1; omega) (Int.le_refl _)
  rw [cu_next h.m0 h.m1, cu_last] at b
  have c := F_next y
  have d0 := h.d0
  have d1 := h.d1
  have s := h.sum
  exact ⟨h.y0, by omega, by omega⟩
theorem Yr.one {D y z : Int} (h : Yr D y) (g : Yr D z) : y = z := by
  obtain ⟨_, h1, h2⟩ := h
  obtain ⟨_, g1, g2⟩ := g
  rcases Int.lt_trichotomy y z with hlt | he | hlt
  · have := F_mono (y := y + 1) (z := z) (by omega); omega
  · exact he
  · have := F_mono (y := z + 1) (z := y) (by omega); omega
theorem Dt.one {D y m d z n e : Int} (h : Dt D y m d) (g : Dt D z n e) : y = z ∧ m = n ∧ d = e := by
  obtain rfl := h.yr.one g.yr
  have hm : m = n := by
    have a := h.sum
    have b := g.sum
    have h0 := h.d0
    have h1 := h.d1
    have g0 := g.d0
    have g1 := g.d1
    rcases Int.lt_trichotomy m n with hlt | he | hlt
    · have := cu_mono (y := y) (m := m + 1) (n := n) (by have := h.m0; omega) (by omega) (by have := g.m1; omega)
      rw [cu_next h.m0 h.m1] at this
      omega
    · exact he
    · have := cu_mono (y := y) (m := n + 1) (n := m) (by have := g.m0; omega) (by omega) (by have := h.m1; omega)
      rw [cu_next g.m0 g.m1] at this
      omega
  subst hm
  have a := h.sum
  have b := g.sum
  exact ⟨rfl, rfl, by omega⟩
theorem Dt.day0 {D y m d : Int} (h : Dt D y m d) : 0 ≤ D := by
  have := F_mono h.y0
  rw [F_first] at this
  have a := h.yr
  have := a.2.1
  omega
theorem yr_low {D y : Int} (h : Yr D y) : 365 * (y - 1970) ≤ D := by
  have := F_low h.1
  have := h.2.1
  omega
/-- The month is looked for: so many days are left. -/
def Mo (D y m l : Int) : Prop := 1 ≤ m ∧ m ≤ 12 ∧ 0 ≤ l ∧ F y + cu y m + l = D
theorem Mo.first {D y : Int} (h : Yr D y) : Mo D y 1 (D - F y) := by
  obtain ⟨_, h1, _⟩ := h
  exact ⟨by omega, by omega, by omega, by rw [cu_first]; omega⟩
theorem Mo.next {D y m l : Int} (h : Mo D y m l) (hy : Yr D y) (hl : ml y m ≤ l) : Mo D y (m + 1) (l - ml y m) := by
  obtain ⟨a, b, c, d⟩ := h
  obtain ⟨_, h1, h2⟩ := hy
  have e := cu_next (y := y) a b
  rw [F_next] at h2
  have hm : m ≠ 12 := by
    rintro rfl
    have := cu_last y
    rw [show (12 : Int) + 1 = 13 from rfl] at e
    omega
  exact ⟨by omega, by omega, by omega, by omega⟩
theorem Mo.last {D y m l : Int} (h : Mo D y m l) (hy : Yr D y) (hl : l < ml y m) : Dt D y m (l + 1) := by
  obtain ⟨a, b, c, d⟩ := h
  exact ⟨hy.1, a, b, by omega, by omega, by omega⟩
end Go.Proofs.YtcnilidckicccaaDoor.Cal
