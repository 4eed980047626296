/- Good intervals: lists of ranges, free days; both GoodIntervals. -/
import Derived.Test.YthcogkoleiejgaaGreatDoorRIvd
import Derived.Test.YthcogkoleiejgaaGreatDoorRFrn
namespace Go.Proofs.YthcogkoleiejgaaGreatDoor.Rng
open Go.RowKit
open Go.Proofs.YthcogkoleiejgaaGreatDoor.Cal (Rgl rl)
open Go.Proofs.YthcogkoleiejgaaGreatDoor.Ino (riseI num)

def gks (k : Nat) (lo hi : Int) (l : List Sm) : Prop := l.length ≤ 10 ∧ ∀ i, i < l.length → gk k lo hi (l.getD i e0).1 (l.getD i e0).2
instance (k : Nat) (lo hi : Int) (l : List Sm) : Decidable (gks k lo hi l) := by unfold gks; infer_instance
/-- What the model asks of a range. -/
def sk (lo hi : Int) (p : Sm) : Prop := lo ≤ p.1 ∧ p.2 ≤ hi ∧ p.1 ≤ p.2
instance (lo hi : Int) (p : Sm) : Decidable (sk lo hi p) := by unfold sk; infer_instance
def sks (lo hi : Int) (l : List Sm) : Prop := l.length ≤ 10 ∧ ∀ i, i < l.length → sk lo hi (l.getD i e0)
instance (lo hi : Int) (l : List Sm) : Decidable (sks lo hi l) := by unfold sks; infer_instance
/-- What the model asks of days. -/
def dk (p : Sm) : Prop := p.1 ≠ 0 ∧ p.2 ≠ 0 ∧ (p.1 < 0 ↔ p.2 < 0)
instance (p : Sm) : Decidable (dk p) := by unfold dk; infer_instance
def dks (l : List Sm) : Prop := ∀ i, i < l.length → dk (l.getD i e0)
instance (l : List Sm) : Decidable (dks l) := by unfold dks; infer_instance
theorem gks_sks {k : Nat} (hk : k ≠ 2) (lo hi : Int) (l : List Sm) : gks k lo hi l ↔ sks lo hi l := by
  unfold gks sks gk sk
  constructor
  · rintro ⟨h1, h2⟩
    exact ⟨h1, fun i hi' => by have := h2 i hi'; omega⟩
  · rintro ⟨h1, h2⟩
    exact ⟨h1, fun i hi' => by have := h2 i hi'; omega⟩
theorem gks_days (lo hi : Int) (l : List Sm) : gks 2 lo hi l ↔ dks l ∧ sks lo hi l := by
  unfold gks sks gk sk dks dk
  constructor
  · rintro ⟨h1, h2⟩
    exact ⟨fun i hi' => by have := h2 i hi'; omega, h1, fun i hi' => by have := h2 i hi'; omega⟩
  · rintro ⟨h0, h1, h2⟩
    exact ⟨h1, fun i hi' => by have := h2 i hi'; have := h0 i hi'; omega⟩
/-- Days that are free. -/
def fr (l : List Int) : Prop := Ino.frb 10 20000000 l
instance (l : List Int) : Decidable (fr l) := by unfold fr; infer_instance
/-- The interval is good. -/
structure GoodI (i : Iv) : Prop where
  z0 : -1440 ≤ i.z
  z1 : i.z ≤ 1440
  g1 : gks 0 0 1439 i.l1
  g2 : gks 1 0 6 i.l2
  g3 : gks 2 (-31) 31 i.l3
  g4 : gks 3 1 12 i.l4
  g5 : gks 4 1970 40000 i.l5
  g6 : fr i.l6
theorem GoodI.same {i j : Iv} (h : Same i j) : GoodI j ↔ GoodI i := by
  obtain ⟨z, l1, l2, l3, l4, l5, l6, a1, c1, a2, c2, a3, c3, a4, c4, a5, c5, a6, c6⟩ := i
  obtain ⟨z', l1', l2', l3', l4', l5', l6', a1', c1', a2', c2', a3', c3', a4', c4', a5', c5', a6', c6'⟩ := j
  obtain ⟨rfl, rfl, rfl, rfl, rfl, rfl, rfl⟩ := h
  exact ⟨fun ⟨a, b, c, d, e, f, g, h⟩ => ⟨a, b, c, d, e, f, g, h⟩, fun ⟨a, b, c, d, e, f, g, h⟩ => ⟨a, b, c, d, e, f, g, h⟩⟩

set_option maxHeartbeats 2000000 in
theorem f107 (a : Option Addr) (c : Nat) (l : List Sm) (k : Nat) (lo hi : Int) (w : World) (hl : l.length ≤ 1048576) (hr : HasS w a l) (hk : k < 5) (h0 : rl.getD (k * 2) 0 = lo) (h1 : rl.getD (k * 2 + 1) 0 = hi) (hR : Rgl w) :
    Calls Tryz.prog 107 #[.slice a l.length c, .int .i64 k] w fun e w' => e = .returned (.bool (decide (gks k lo hi l))) ∧ Below w.heap.size w w' := by
  have HR := hid hR
  have HH := hid hr
  generalize hn : l.length = n at *
  have HN := hid hn
  clear hn hR hr
  by_cases g : n > 10
  · rw [decide_eq_false (show ¬ gks k lo hi l by unfold gks; have := HN.out; omega)]
    go_enter Tryz.func107, Tryz.ntmps107
    go_wp2
    go_ret
    exact ⟨rfl, Below.refl _ _⟩
  go_enter Tryz.func107, Tryz.ntmps107
  go_wp2
  go_loopw [12] (fun s wr => ∃ j : Nat, j ≤ n ∧ s = .int .i64 j ∧ Hid (∀ i, i < j → gk k lo hi (l.getD i e0).1 (l.getD i e0).2) ∧ Hid (Below w.heap.size w wr)) (fun s _ => n - (intOf s).toNat)
  case atStart => exact ⟨0, Nat.zero_le _, rfl, fun i hi => absurd hi (by omega), Below.refl _ _⟩
  case round =>
    obtain ⟨j, hj, rfl, HA, HB⟩ := hrel
    by_cases hlt : j < n
    · rcases HH.out.below HB.out with hr | ⟨b, off, rfl, hbl, hc⟩
      · exact absurd HN.out (by rw [hr]; simp; omega)
      obtain ⟨c0, c1⟩ := hc j (by rw [HN.out]; exact hlt)
      have i1 : (j : Int) < (n : Int) := by omega
      have HNo : Hid (¬ gk k lo hi (l.getD j e0).1 (l.getD j e0).2 → decide (gks k lo hi l) = false) := fun h => decide_eq_false fun q => h (q.2 j (by rw [HN.out]; exact hlt))
      have HNx : Hid (gk k lo hi (l.getD j e0).1 (l.getD j e0).2 → ∀ i, i < j + 1 → gk k lo hi (l.getD i e0).1 (l.getD i e0).2) := by
        intro h i hi
        by_cases e : i = j
        · subst e; exact h
        · exact HA.out i (by omega)
      clear hc
      generalize l.getD j e0 = p at *
      obtain ⟨s, t⟩ := p
      have hb1 := HB.out.alloc HB.out.size (.cells #[.int .i64 s, .int .i64 t] 109)
      have HB1 := hid hb1
      have HC := hid (f134 s t k lo hi (wr.alloc (.cells #[.int .i64 s, .int .i64 t] 109)) hk h0 h1 (HR.out.below hb1))
      clear hb1
      by_cases hg : gk k lo hi s t
      · rw [decide_eq_true hg] at HC
        have HX := hid (HNx.out hg)
        clear hg
        go_wp2_with fail
        refine HC.out.mono ?_
        rintro e w1 ⟨rfl, hb⟩
        have HB2 := hid (HB1.out.trans (hb.mono HB1.out.size))
        clear hb
        go_wp2
        go_roundw
        case rel => exact ⟨j + 1, by omega, by go_num, HX, HB2⟩
        case measure => simp [intOf]; omega
      · rw [decide_eq_false hg] at HC
        have HX := hid (HNo.out hg)
        clear hg
        go_wp2_with fail
        refine HC.out.mono ?_
        rintro e w1 ⟨rfl, hb⟩
        have HB2 := hid (HB1.out.trans (hb.mono HB1.out.size))
        clear hb
        go_wp2
        go_ret
        exact ⟨by rw [HX.out]; rfl, HB2.out⟩
    · have HX : Hid (decide (gks k lo hi l) = true) := decide_eq_true ⟨by have := HN.out; omega, fun i hi => HA.out i (by have := HN.out; omega)⟩
      go_wp2
      go_ret
      exact ⟨by rw [HX.out]; rfl, HB.out⟩

set_option maxHeartbeats 2000000 in
theorem f58 (a : Option Addr) (c : Nat) (l : List Sm) (lo hi : Int) (w : World) (hl : l.length ≤ 1048576) (hr : HasS w a l) :
    Calls Tryz.prog 58 #[.slice a l.length c, .int .i64 lo, .int .i64 hi] w fun e w' => e = .returned (.bool (decide (sks lo hi l))) ∧ Below w.heap.size w w' := by
  have HH := hid hr
  generalize hn : l.length = n at *
  have HN := hid hn
  clear hn hr
  go_enter Tryz.func58, Tryz.ntmps58
  go_wp2
  go_loopw [11] (fun s wr => ∃ j : Nat, j ≤ n ∧ s = .int .i64 j ∧ Hid (∀ i, i < j → sk lo hi (l.getD i e0)) ∧ Hid (Below w.heap.size w wr)) (fun s _ => n - (intOf s).toNat)
  case atStart => exact ⟨0, Nat.zero_le _, rfl, fun i hi => absurd hi (by omega), Below.refl _ _⟩
  case round =>
    obtain ⟨j, hj, rfl, HA, HB⟩ := hrel
    by_cases hlt : j < n
    · rcases HH.out.below HB.out with hr | ⟨b, off, rfl, hbl, hc⟩
      · exact absurd HN.out (by rw [hr]; simp; omega)
      obtain ⟨c0, c1⟩ := hc j (by rw [HN.out]; exact hlt)
      have i1 : (j : Int) < (n : Int) := by omega
      have HNo : Hid (¬ sk lo hi (l.getD j e0) → decide (sks lo hi l) = false) := fun h => decide_eq_false fun q => h (q.2 j (by rw [HN.out]; exact hlt))
      have HNx : Hid (sk lo hi (l.getD j e0) → ∀ i, i < j + 1 → sk lo hi (l.getD i e0)) := by
        intro h i hi
        by_cases e : i = j
        · subst e; exact h
        · exact HA.out i (by omega)
      clear hc
      generalize l.getD j e0 = p at *
      obtain ⟨s, t⟩ := p
      have HB1 := hid (HB.out.alloc HB.out.size (.cells #[.int .i64 s, .int .i64 t] 109))
      by_cases q1 : s < lo
      · have HX := hid (HNo.out (show ¬ sk lo hi (s, t) by unfold sk; simp only; omega))
        go_wp2
        go_ret
        exact ⟨by rw [HX.out]; rfl, HB1.out⟩
      by_cases q2 : t > hi
      · have HX := hid (HNo.out (show ¬ sk lo hi (s, t) by unfold sk; simp only; omega))
        go_wp2
        go_ret
        exact ⟨by rw [HX.out]; rfl, HB1.out⟩
      by_cases q3 : s > t
      · have HX := hid (HNo.out (show ¬ sk lo hi (s, t) by unfold sk; simp only; omega))
        go_wp2
        go_ret
        exact ⟨by rw [HX.out]; rfl, HB1.out⟩
      have HX := hid (HNx.out (show sk lo hi (s, t) by unfold sk; simp only; omega))
      go_wp2
      go_roundw
      case rel => exact ⟨j + 1, by omega, by go_num, HX, HB1⟩
      case measure => simp [intOf]; omega
    · by_cases g : n ≤ 10
      · have HX : Hid (decide (sks lo hi l) = true) := decide_eq_true ⟨by have := HN.out; omega, fun i hi => HA.out i (by have := HN.out; omega)⟩
        have g2 : (n : Int) ≤ 10 := by omega
        go_wp2
        go_ret
        exact ⟨by rw [HX.out]; simp, HB.out⟩
      · have HX : Hid (decide (sks lo hi l) = false) := decide_eq_false fun q => g (by have := HN.out; have := q.1; omega)
        have g2 : ¬ (n : Int) ≤ 10 := by omega
        go_wp2
        go_ret
        exact ⟨by rw [HX.out]; simp, HB.out⟩

theorem f34 (a : Option Addr) (c : Nat) (l : List Int) (w : World) (hl : l.length ≤ 1048576) (hr : Ino.Has w a l) :
    Calls Tryz.prog 34 #[.slice a l.length c, .int .i64 10, .int .i64 20000000] w fun e w' => e = .returned (.bool (decide (fr l))) ∧ Below w.heap.size w w' := Ino.f34 a c l 10 20000000 w hl hr
end Go.Proofs.YthcogkoleiejgaaGreatDoor.Rng
