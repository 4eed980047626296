/- Numbers that rise within bounds: areRisingNumbers. -/
import Derived.Test.YthcogkoleiejgaaGreatDoorRNa
import Derived.Deep.CutRange
namespace Go.Proofs.YthcogkoleiejgaaGreatDoor.Ino
open Go.RowKit

def frb (M : Nat) (U : Int) (l : List Int) : Prop := l.length ≤ M ∧ riseI l = true ∧ ∀ i, i < l.length → 0 ≤ l.getD i 0 ∧ l.getD i 0 ≤ U
instance (M : Nat) (U : Int) (l : List Int) : Decidable (frb M U l) := by unfold frb; infer_instance
theorem rise_le {l : List Int} (h : riseI l = true) : ∀ (j i : Nat), i ≤ j → j < l.length → l.getD i 0 ≤ l.getD j 0 := by
  have h' := of_decide_eq_true h
  intro j
  induction j with
  | zero => intro i hi _; rw [show i = 0 by omega]; exact Int.le_refl _
  | succ j ih =>
    intro i hi hj
    by_cases e : i = j + 1
    · rw [e]; exact Int.le_refl _
    · have a := ih i (by omega) (by omega)
      have b := h' (j + 1) hj (by omega)
      rw [Nat.add_sub_cancel] at b
      omega
theorem frb_ends {M : Nat} {U : Int} {l : List Int} (h1 : l.length ≤ M) (h2 : riseI l = true) : frb M U l ↔ (l.length = 0 ∨ 0 ≤ l.getD 0 0 ∧ l.getD (l.length - 1) 0 ≤ U) := by
  constructor
  · rintro ⟨_, _, h⟩
    by_cases e : l.length = 0
    · exact .inl e
    · exact .inr ⟨(h 0 (by omega)).1, (h _ (by omega)).2⟩
  · intro h
    refine ⟨h1, h2, fun i hi => ?_⟩
    rcases h with h | ⟨a, b⟩
    · omega
    · have c := rise_le h2 i 0 (by omega) hi
      have d := rise_le h2 (l.length - 1) i (by omega) (by omega)
      omega
set_option maxHeartbeats 2000000 in
theorem f34 (a : Option Addr) (c : Nat) (l : List Int) (M : Nat) (U : Int) (w : World) (hl : l.length ≤ 1048576) (hr : Has w a l) :
    Calls Tryz.prog 34 #[.slice a l.length c, .int .i64 M, .int .i64 U] w fun e w' => e = .returned (.bool (decide (frb M U l))) ∧ Below w.heap.size w w' := by
  have HC := hid (f70 a l.length c l w rfl hl hr)
  have HH := hid hr
  have HE := fun h1 h2 => hid (frb_ends (M := M) (U := U) (l := l) h1 h2)
  have HF : Hid (frb M U l → l.length ≤ M ∧ riseI l = true) := fun h => ⟨h.1, h.2.1⟩
  have HL0 : Hid (l.length = 0 → l = []) := fun h => List.eq_nil_of_length_eq_zero h
  generalize hn : l.length = n at *
  have HN := hid hn
  clear hn hr
  by_cases g : n > M
  · rw [decide_eq_false (show ¬ frb M U l from fun h => by have := (HF.out h).1; omega)]
    go_enter Tryz.func34, Tryz.ntmps34
    go_wp2
    go_ret
    exact ⟨rfl, Below.refl _ _⟩
  cases hrise : riseI l
  · rw [decide_eq_false (show ¬ frb M U l from fun h => by have := (HF.out h).2; rw [hrise] at this; cases this)]
    rw [hrise] at HC
    clear hrise
    go_enter Tryz.func34, Tryz.ntmps34
    go_wp2_with fail
    refine HC.out.mono ?_
    rintro e w1 ⟨rfl, hb⟩
    have HB := hid hb
    clear hb
    go_wp2
    go_ret
    exact ⟨rfl, HB.out⟩
  have HE2 := hid (HE (by omega) hrise).out
  rw [hrise] at HC
  clear hrise HE
  by_cases g0 : n = 0
  · subst g0
    rw [decide_eq_true (HE2.out.2 (.inl rfl))]
    go_enter Tryz.func34, Tryz.ntmps34
    go_wp2_with fail
    refine HC.out.mono ?_
    rintro e w1 ⟨rfl, hb⟩
    have HB := hid hb
    clear hb
    go_wp2
    go_ret
    exact ⟨rfl, HB.out⟩
  rcases HH.out with hr | ⟨b, off, rfl, hbl, hc⟩
  · exact absurd HN.out (by rw [hr]; simp; omega)
  have e0 : ((n : Int) == 0) = false := by simp; omega
  have c0 := hc 0 (by rw [HN.out]; omega)
  have c1 := hc (n - 1) (by rw [HN.out]; omega)
  rw [Nat.add_zero] at c0
  obtain ⟨m, rfl⟩ : ∃ m, n = m + 1 := ⟨n - 1, by omega⟩
  rw [Nat.add_sub_cancel] at c1 HE2
  clear hc
  generalize l.getD 0 0 = x at *
  generalize l.getD m 0 = y at *
  by_cases g1 : x ≥ 0
  · by_cases g2 : y ≤ U
    · rw [decide_eq_true (HE2.out.2 (.inr ⟨g1, g2⟩))]
      go_enter Tryz.func34, Tryz.ntmps34
      go_wp2_with fail
      refine HC.out.mono ?_
      rintro e w1 ⟨rfl, hb⟩
      have HB := hid hb
      have d0 := (hb.cell (p := ⟨b, off, none⟩) hbl).trans c0
      have d1 := (hb.cell (p := ⟨b, off + m, none⟩) hbl).trans c1
      clear hb
      go_wp2
      go_ret
      exact ⟨rfl, HB.out⟩
    · rw [decide_eq_false (show ¬ frb M U l from fun h => by rcases HE2.out.1 h with h | h <;> omega)]
      go_enter Tryz.func34, Tryz.ntmps34
      go_wp2_with fail
      refine HC.out.mono ?_
      rintro e w1 ⟨rfl, hb⟩
      have HB := hid hb
      have d0 := (hb.cell (p := ⟨b, off, none⟩) hbl).trans c0
      have d1 := (hb.cell (p := ⟨b, off + m, none⟩) hbl).trans c1
      clear hb
      go_wp2
      go_ret
      exact ⟨by show Ending.returned (.bool ((m : Int) + 1 == 0 || decide (y ≤ U))) = _; rw [decide_eq_false (show ¬ y ≤ U by omega)]; simp; omega, HB.out⟩
  · rw [decide_eq_false (show ¬ frb M U l from fun h => by rcases HE2.out.1 h with h | h <;> omega)]
    go_enter Tryz.func34, Tryz.ntmps34
    go_wp2_with fail
    refine HC.out.mono ?_
    rintro e w1 ⟨rfl, hb⟩
    have HB := hid hb
    have d0 := (hb.cell (p := ⟨b, off, none⟩) hbl).trans c0
    have d1 := (hb.cell (p := ⟨b, off + m, none⟩) hbl).trans c1
    clear hb
    go_wp2
    go_ret
    exact ⟨rfl, HB.out⟩
end Go.Proofs.YthcogkoleiejgaaGreatDoor.Ino
