/- Good intervals: lists of ranges, free days; both GoodIntervals. -/
import Derived.Test.YtopggkdnkjefaaaDoorIvd
namespace Go.Proofs.YtopggkdnkjefaaaDoor.Rng
open Go.RowKit
open Go.Proofs.YtopggkdnkjefaaaDoor.Cal (Rgl rl)
open Go.Proofs.YtopggkdnkjefaaaDoor.Ino (riseI num)

def gks (k : Nat) (lo hi : Int) (l : List Sm) : Prop := l.length ≤ 10 ∧ ∀ i, i < l.length → gk k lo hi (l.getD i e0).1 (l.getD i e0).2
instance (k : Nat) (lo hi : Int) (l : List Sm) : Decidable (gks k lo hi l) := by unfold gks; infer_instance
/-- What the model asks of a range. -/
def sk (lo hi : Int) (p : Sm) : Prop := lo ≤ p.1 ∧ p.2 ≤ hi ∧ p.1 ≤ p.2
instance (lo hi : Int) (p : Sm) : Decidable (sk lo hi p) := by unfold sk; infer_instance
def sks (lo hi : Int) (l : List Sm) : Prop := l.length ≤ 10 ∧ ∀ i, i < l.length → sk lo hi (l.getD i e0)
instance (lo hi : Int) (l : List Sm) : Decidable (sks lo hi l) := by unfold sks; infer_instance
/-- What the model asks of days. -/
def dk (p : Sm) : Prop := p.1 ≠ 0 ∧ p.2 ≠ 0 ∧ (p.1 < 0 ↔ p.2 < 0)
instance (p : Sm) : Decidable (dk p) := by unfold dk; infer_instance
def dks (l : List Sm) : Prop := ∀ i, i < l.length → dk (l.getD i e0)
instance (l : List Sm) : Decidable (dks l) := by unfold dks; infer_instance
theorem gks_sks {k : Nat} (hk : k ≠ 2) (lo hi : Int) (l : List Sm) : gks k lo hi l ↔ sks lo hi l := by
  unfold gks sks gk sk
  constructor
  · rintro ⟨h1, h2⟩
    exact ⟨h1, fun i hi' => by have := h2 i hi'; omega⟩
  · rintro ⟨h1, h2⟩
    exact ⟨h1, fun i hi' => by have := h2 i hi'; omega⟩
theorem gks_days (lo hi : Int) (l : List Sm) : gks 2 lo hi l ↔ dks l ∧ sks lo hi l := by
  unfold gks sks gk sk dks dk
  constructor
  · rintro ⟨h1, h2⟩
    exact ⟨fun i hi' => by have := h2 i hi'; omega, h1, fun i hi' => by have := h2 i hi'; omega⟩
  · rintro ⟨h0, h1, h2⟩
    exact ⟨h1, fun i hi' => by have := h2 i hi'; have := h0 i hi'; omega⟩
/-- Days that are free. -/
def fr (l : List Int) : Prop := l.length ≤ 10 ∧ riseI l = true ∧ ∀ i, i < l.length → 0 ≤ l.getD i 0 ∧ l.getD i 0 ≤ 20000000
instance (l : List Int) : Decidable (fr l) := by unfold fr; infer_instance
theorem rise_le {l : List Int} (h : riseI l = true) : ∀ (j i : Nat), i ≤ j → j < l.length → l.getD i 0 ≤ l.getD j 0 := by
  have h' := of_decide_eq_true h
  intro j
  induction j with
  | zero => intro i hi _; rw [show i = 0 by omega]; exact Int.le_refl _
  | succ j ih =>
    intro i hi hj
    by_cases e : i = j + 1
    · rw [e]; exact Int.le_refl _
    · have a := ih i (by omega) (by omega)
      have b := h' (j + 1) hj (by omega)
      rw [Nat.add_sub_cancel] at b
      omega
theorem fr_ends {l : List Int} (h1 : l.length ≤ 10) (h2 : riseI l = true) : fr l ↔ (l.length = 0 ∨ 0 ≤ l.getD 0 0 ∧ l.getD (l.length - 1) 0 ≤ 20000000) := by
  constructor
  · rintro ⟨_, _, h⟩
    by_cases e : l.length = 0
    · exact .inl e
    · exact .inr ⟨(h 0 (by omega)).1, (h _ (by omega)).2⟩
  · intro h
    refine ⟨h1, h2, fun i hi => ?_⟩
    rcases h with h | ⟨a, b⟩
    · omega
    · have c := rise_le h2 i 0 (by omega) hi
      have d := rise_le h2 (l.length - 1) i (by omega) (by omega)
      omega
/-- The interval is good. -/
structure GoodI (i : Iv) : Prop where
  z0 : -1440 ≤ i.z
  z1 : i.z ≤ 1440
  g1 : gks 0 0 1439 i.l1
  g2 : gks 1 0 6 i.l2
  g3 : gks 2 (-31) 31 i.l3
  g4 : gks 3 1 12 i.l4
  g5 : gks 4 1970 40000 i.l5
  g6 : fr i.l6
theorem GoodI.same {i j : Iv} (h : Same i j) : GoodI j ↔ GoodI i := by
  obtain ⟨z, l1, l2, l3, l4, l5, l6, a1, c1, a2, c2, a3, c3, a4, c4, a5, c5, a6, c6⟩ := i
  obtain ⟨z', l1', l2', l3', l4', l5', l6', a1', c1', a2', c2', a3', c3', a4', c4', a5', c5', a6', c6'⟩ := j
  obtain ⟨rfl, rfl, rfl, rfl, rfl, rfl, rfl⟩ := h
  exact ⟨fun ⟨a, b, c, d, e, f, g, h⟩ => ⟨a, b, c, d, e, f, g, h⟩, fun ⟨a, b, c, d, e, f, g, h⟩ => ⟨a, b, c, d, e, f, g, h⟩⟩

set_option maxHeartbeats 2000000 in
theorem f34 (a : Option Addr) (c : Nat) (l : List Sm) (k : Nat) (lo hi : Int) (w : World) (hl : l.length ≤ 1048576) (hr : HasS w a l) (hk : k < 5) (h0 : rl.getD (k * 2) 0 = lo) (h1 : rl.getD (k * 2 + 1) 0 = hi) (hR : Rgl w) :
    Calls Tryd.prog 34 #[.slice a l.length c, .int .i64 k] w fun e w' => e = .returned (.bool (decide (gks k lo hi l))) ∧ Below w.heap.size w w' := by
  have HR := hid hR
  have HH := hid hr
  generalize hn : l.length = n at *
  have HN := hid hn
  clear hn hR hr
  by_cases g : n > 10
  · rw [decide_eq_false (show ¬ gks k lo hi l by unfold gks; have := HN.out; omega)]
    go_enter Tryd.func34, Tryd.ntmps34
    go_wp2
    go_ret
    exact ⟨rfl, Below.refl _ _⟩
  go_enter Tryd.func34, Tryd.ntmps34
  go_wp2
  go_loopw [12] (fun s wr => ∃ j : Nat, j ≤ n ∧ s = .int .i64 j ∧ Hid (∀ i, i < j → gk k lo hi (l.getD i e0).1 (l.getD i e0).2) ∧ Hid (Below w.heap.size w wr)) (fun s _ => n - (intOf s).toNat)
  case atStart => exact ⟨0, Nat.zero_le _, rfl, fun i hi => absurd hi (by omega), Below.refl _ _⟩
  case round =>
    obtain ⟨j, hj, rfl, HA, HB⟩ := hrel
    by_cases hlt : j < n
    · rcases HH.out.below HB.out with hr | ⟨b, off, rfl, hbl, hc⟩
      · exact absurd HN.out (by rw [hr]; simp; omega)
      obtain ⟨c0, c1⟩ := hc j (by rw [HN.out]; exact hlt)
      have i1 : (j : Int) < (n : Int) := by omega
      have HNo : Hid (¬ gk k lo hi (l.getD j e0).1 (l.getD j e0).2 → decide (gks k lo hi l) = false) := fun h => decide_eq_false fun q => h (q.2 j (by rw [HN.out]; exact hlt))
      have HNx : Hid (gk k lo hi (l.getD j e0).1 (l.getD j e0).2 → ∀ i, i < j + 1 → gk k lo hi (l.getD i e0).1 (l.getD i e0).2) := by
        intro h i hi
        by_cases e : i = j
        · subst e; exact h
        · exact HA.out i (by omega)
      clear hc
      generalize l.getD j e0 = p at *
      obtain ⟨s, t⟩ := p
      have hb1 := HB.out.alloc HB.out.size (.cells #[.int .i64 s, .int .i64 t] 55)
      have HB1 := hid hb1
      have HC := hid (f47 s t k lo hi (wr.alloc (.cells #[.int .i64 s, .int .i64 t] 55)) hk h0 h1 (HR.out.below hb1))
      clear hb1
      by_cases hg : gk k lo hi s t
      · rw [decide_eq_true hg] at HC
        have HX := hid (HNx.out hg)
        clear hg
        go_wp2_with fail
        refine HC.out.mono ?_
        rintro e w1 ⟨rfl, hb⟩
        have HB2 := hid (HB1.out.trans (hb.mono HB1.out.size))
        clear hb
        go_wp2
        go_roundw
        case rel => exact ⟨j + 1, by omega, by go_num, HX, HB2⟩
        case measure => simp [intOf]; omega
      · rw [decide_eq_false hg] at HC
        have HX := hid (HNo.out hg)
        clear hg
        go_wp2_with fail
        refine HC.out.mono ?_
        rintro e w1 ⟨rfl, hb⟩
        have HB2 := hid (HB1.out.trans (hb.mono HB1.out.size))
        clear hb
        go_wp2
        go_ret
        exact ⟨by rw [HX.out]; rfl, HB2.out⟩
    · have HX : Hid (decide (gks k lo hi l) = true) := decide_eq_true ⟨by have := HN.out; omega, fun i hi => HA.out i (by have := HN.out; omega)⟩
      go_wp2
      go_ret
      exact ⟨by rw [HX.out]; rfl, HB.out⟩

set_option maxHeartbeats 2000000 in
theorem f25 (a : Option Addr) (c : Nat) (l : List Sm) (lo hi : Int) (w : World) (hl : l.length ≤ 1048576) (hr : HasS w a l) :
    Calls Tryd.prog 25 #[.slice a l.length c, .int .i64 lo, .int .i64 hi] w fun e w' => e = .returned (.bool (decide (sks lo hi l))) ∧ Below w.heap.size w w' := by
  have HH := hid hr
  generalize hn : l.length = n at *
  have HN := hid hn
  clear hn hr
  go_enter Tryd.func25, Tryd.ntmps25
  go_wp2
  go_loopw [11] (fun s wr => ∃ j : Nat, j ≤ n ∧ s = .int .i64 j ∧ Hid (∀ i, i < j → sk lo hi (l.getD i e0)) ∧ Hid (Below w.heap.size w wr)) (fun s _ => n - (intOf s).toNat)
  case atStart => exact ⟨0, Nat.zero_le _, rfl, fun i hi => absurd hi (by omega), Below.refl _ _⟩
  case round =>
    obtain ⟨j, hj, rfl, HA, HB⟩ := hrel
    by_cases hlt : j < n
    · rcases HH.out.below HB.out with hr | ⟨b, off, rfl, hbl, hc⟩
      · exact absurd HN.out (by rw [hr]; simp; omega)
      obtain ⟨c0, c1⟩ := hc j (by rw [HN.out]; exact hlt)
      have i1 : (j : Int) < (n : Int) := by omega
      have HNo : Hid (¬ sk lo hi (l.getD j e0) → decide (sks lo hi l) = false) := fun h => decide_eq_false fun q => h (q.2 j (by rw [HN.out]; exact hlt))
      have HNx : Hid (sk lo hi (l.getD j e0) → ∀ i, i < j + 1 → sk lo hi (l.getD i e0)) := by
        intro h i hi
        by_cases e : i = j
        · subst e; exact h
        · exact HA.out i (by omega)
      clear hc
      generalize l.getD j e0 = p at *
      obtain ⟨s, t⟩ := p
      have HB1 := hid (HB.out.alloc HB.out.size (.cells #[.int .i64 s, .int .i64 t] 55))
      by_cases q1 : s < lo
      · have HX := hid (HNo.out (show ¬ sk lo hi (s, t) by unfold sk; simp only; omega))
        go_wp2
        go_ret
        exact ⟨by rw [HX.out]; rfl, HB1.out⟩
      by_cases q2 : t > hi
      · have HX := hid (HNo.out (show ¬ sk lo hi (s, t) by unfold sk; simp only; omega))
        go_wp2
        go_ret
        exact ⟨by rw [HX.out]; rfl, HB1.out⟩
      by_cases q3 : s > t
      · have HX := hid (HNo.out (show ¬ sk lo hi (s, t) by unfold sk; simp only; omega))
        go_wp2
        go_ret
        exact ⟨by rw [HX.out]; rfl, HB1.out⟩
      have HX := hid (HNx.out (show sk lo hi (s, t) by unfold sk; simp only; omega))
      go_wp2
      go_roundw
      case rel => exact ⟨j + 1, by omega, by go_num, HX, HB1⟩
      case measure => simp [intOf]; omega
    · by_cases g : n ≤ 10
      · have HX : Hid (decide (sks lo hi l) = true) := decide_eq_true ⟨by have := HN.out; omega, fun i hi => HA.out i (by have := HN.out; omega)⟩
        have g2 : (n : Int) ≤ 10 := by omega
        go_wp2
        go_ret
        exact ⟨by rw [HX.out]; simp, HB.out⟩
      · have HX : Hid (decide (sks lo hi l) = false) := decide_eq_false fun q => g (by have := HN.out; have := q.1; omega)
        have g2 : ¬ (n : Int) ≤ 10 := by omega
        go_wp2
        go_ret
        exact ⟨by rw [HX.out]; simp, HB.out⟩

set_option maxHeartbeats 2000000 in
theorem f35 (a : Option Addr) (c : Nat) (l : List Int) (w : World) (hl : l.length ≤ 1048576) (hr : Ino.Has w a l) :
    Calls Tryd.prog 35 #[.slice a l.length c] w fun e w' => e = .returned (.bool (decide (fr l))) ∧ Below w.heap.size w w' := by
  have HC := hid (Ino.f48 a l.length c l w rfl hl hr)
  have HH := hid hr
  have HE := fun h1 h2 => hid (fr_ends (l := l) h1 h2)
  have HF : Hid (fr l → l.length ≤ 10 ∧ riseI l = true) := fun h => ⟨h.1, h.2.1⟩
  have HL0 : Hid (l.length = 0 → l = []) := fun h => List.eq_nil_of_length_eq_zero h
  generalize hn : l.length = n at *
  have HN := hid hn
  clear hn hr
  by_cases g : n > 10
  · rw [decide_eq_false (show ¬ fr l from fun h => by have := (HF.out h).1; omega)]
    go_enter Tryd.func35, Tryd.ntmps35
    go_wp2
    go_ret
    exact ⟨rfl, Below.refl _ _⟩
  cases hrise : riseI l
  · rw [decide_eq_false (show ¬ fr l from fun h => by have := (HF.out h).2; rw [hrise] at this; cases this)]
    rw [hrise] at HC
    clear hrise
    go_enter Tryd.func35, Tryd.ntmps35
    go_wp2_with fail
    refine HC.out.mono ?_
    rintro e w1 ⟨rfl, hb⟩
    have HB := hid hb
    clear hb
    go_wp2
    go_ret
    exact ⟨rfl, HB.out⟩
  have HE2 := hid (HE (by omega) hrise).out
  rw [hrise] at HC
  clear hrise HE
  by_cases g0 : n = 0
  · subst g0
    rw [decide_eq_true (HE2.out.2 (.inl rfl))]
    go_enter Tryd.func35, Tryd.ntmps35
    go_wp2_with fail
    refine HC.out.mono ?_
    rintro e w1 ⟨rfl, hb⟩
    have HB := hid hb
    clear hb
    go_wp2
    go_ret
    exact ⟨rfl, HB.out⟩
  rcases HH.out with hr | ⟨b, off, rfl, hbl, hc⟩
  · exact absurd HN.out (by rw [hr]; simp; omega)
  have e0 : ((n : Int) == 0) = false := by simp; omega
  have c0 := hc 0 (by rw [HN.out]; omega)
  have c1 := hc (n - 1) (by rw [HN.out]; omega)
  rw [Nat.add_zero] at c0
  obtain ⟨m, rfl⟩ : ∃ m, n = m + 1 := ⟨n - 1, by omega⟩
  rw [Nat.add_sub_cancel] at c1 HE2
  clear hc
  generalize l.getD 0 0 = x at *
  generalize l.getD m 0 = y at *
  by_cases g1 : x ≥ 0
  · by_cases g2 : y ≤ 20000000
    · rw [decide_eq_true (HE2.out.2 (.inr ⟨g1, g2⟩))]
      go_enter Tryd.func35, Tryd.ntmps35
      go_wp2_with fail
      refine HC.out.mono ?_
      rintro e w1 ⟨rfl, hb⟩
      have HB := hid hb
      have d0 := (hb.cell (p := ⟨b, off, none⟩) hbl).trans c0
      have d1 := (hb.cell (p := ⟨b, off + m, none⟩) hbl).trans c1
      clear hb
      go_wp2
      go_ret
      exact ⟨rfl, HB.out⟩
    · rw [decide_eq_false (show ¬ fr l from fun h => by rcases HE2.out.1 h with h | h <;> omega)]
      go_enter Tryd.func35, Tryd.ntmps35
      go_wp2_with fail
      refine HC.out.mono ?_
      rintro e w1 ⟨rfl, hb⟩
      have HB := hid hb
      have d0 := (hb.cell (p := ⟨b, off, none⟩) hbl).trans c0
      have d1 := (hb.cell (p := ⟨b, off + m, none⟩) hbl).trans c1
      clear hb
      go_wp2
      go_ret
      exact ⟨by show Ending.returned (.bool ((m : Int) + 1 == 0 || decide (y ≤ 20000000))) = _; rw [decide_eq_false (show ¬ y ≤ 20000000 by omega)]; simp; omega, HB.out⟩
  · rw [decide_eq_false (show ¬ fr l from fun h => by rcases HE2.out.1 h with h | h <;> omega)]
    go_enter Tryd.func35, Tryd.ntmps35
    go_wp2_with fail
    refine HC.out.mono ?_
    rintro e w1 ⟨rfl, hb⟩
    have HB := hid hb
    have d0 := (hb.cell (p := ⟨b, off, none⟩) hbl).trans c0
    have d1 := (hb.cell (p := ⟨b, off + m, none⟩) hbl).trans c1
    clear hb
    go_wp2
    go_ret
    exact ⟨rfl, HB.out⟩
end Go.Proofs.YtopggkdnkjefaaaDoor.Rng
