/- Lists of numbers that rise: cmp.Compare, isRising. -/
import Derived.Test.YtkjodikccehmkaaGreatRIno
import Derived.Deep.RegionHeld3
import Derived.Deep.CutRange
namespace Go.Proofs.YtkjodikccehmkaaGreat.Ino
open Go.RowKit

theorem ret_bool {a b : Bool} (h : a = b) : Ending.returned (.bool a) = .returned (.bool b) := by rw [h]
theorem ret_int {k : IntKind} {a b : Int} (h : a = b) : Ending.returned (.int k a) = .returned (.int k b) := by rw [h]
theorem below_undrew {B : Nat} {a w : World} (h : Below B a.drew w) : Below B a w := ⟨h.os, h.tape, h.output, h.size, h.block⟩

/-- The numbers rise. -/
def riseI (l : List Int) : Bool := decide (∀ i, i < l.length → 0 < i → l.getD (i - 1) 0 < l.getD i 0)
/-- A list that can be put together. -/
def num (l : List Int) : Bool := decide (l.length ≤ 1000) && riseI l
def cmpI (x y : Int) : Int := if x < y then -1 else if y < x then 1 else 0

theorem f96 (x : Int) (w : World) : Calls Tryz.prog 96 #[.int .i64 x] w fun e w' => e = .returned (.bool false) ∧ w' = w := by
  have h : (x != x) = false := by simp
  go_enter Tryz.func96, Tryz.ntmps96
  go_wp2
  go_ret
  exact ⟨ret_bool (by simp), rfl⟩

theorem f85 (x y : Int) (w : World) : Calls Tryz.prog 85 #[.int .i64 x, .int .i64 y] w fun e w' => e = .returned (.int .i64 (cmpI x y)) ∧ w' = w := by
  rcases Int.lt_trichotomy x y with h | h | h
  · have e1 := hid (show cmpI x y = -1 by unfold cmpI; rw [if_pos h])
    go_enter Tryz.func85, Tryz.ntmps85
    go_wp2_with (go_at_call 96; refine (f96 _ _).mono ?_; rintro e w2 ⟨rfl, rfl⟩)
    go_ret
    exact ⟨ret_int e1.out.symm, rfl⟩
  · subst h
    have h1 : ¬ x < x := by omega
    have e1 := hid (show cmpI x x = 0 by unfold cmpI; rw [if_neg h1, if_neg h1])
    go_enter Tryz.func85, Tryz.ntmps85
    go_wp2_with (go_at_call 96; refine (f96 _ _).mono ?_; rintro e w2 ⟨rfl, rfl⟩)
    go_ret
    exact ⟨ret_int e1.out.symm, rfl⟩
  · have h1 : ¬ x < y := by omega
    have e1 := hid (show cmpI x y = 1 by unfold cmpI; rw [if_neg h1, if_pos h])
    go_enter Tryz.func85, Tryz.ntmps85
    go_wp2_with (go_at_call 96; refine (f96 _ _).mono ?_; rintro e w2 ⟨rfl, rfl⟩)
    go_ret
    exact ⟨ret_int e1.out.symm, rfl⟩

theorem cmpI_neg {x y : Int} : cmpI x y < 0 ↔ x < y := by unfold cmpI; split <;> (try split) <;> omega

set_option maxHeartbeats 1000000 in
theorem f84 (a : Option Addr) (n c : Nat) (ls : List Int) (w : World) (hn : ls.length = n) (hb : n ≤ 1048576) (hr : Has w a ls) :
    Calls Tryz.prog 84 #[.slice a n c, .func (.func 85) #[] #[]] w fun e w' => e = .returned (.bool (riseI ls)) ∧ Below w.heap.size w w' := by
  have HN := hid hn
  clear hn
  go_enter Tryz.func84, Tryz.ntmps84
  go_wp2
  go_loopw [5] (fun i wr => ∃ k : Nat, (k ≤ n ∨ k = 0) ∧ i = .int .i64 ((k : Int) + 1) ∧ Hid (∀ i, i ≤ k → 0 < i → ls.getD (i - 1) 0 < ls.getD i 0) ∧ Below w.heap.size w wr) (fun i _ => n + 1 - (intOf i).toNat)
  case atStart => exact ⟨0, .inr rfl, by go_num, fun i hi h => by omega, Below.refl _ _⟩
  case round =>
    obtain ⟨k, hk, rfl, hu, hnx⟩ := hrel
    have HX := hid hnx
    by_cases hlt : k + 1 < n
    · rcases hr with hr | ⟨b, off, rfl, hbl, hc⟩
      · exact absurd HN.out (by rw [hr]; simp; omega)
      have d0 := (hnx.cell (p := ⟨b, off + k, none⟩) hbl).trans (hc k (by rw [HN.out]; omega))
      have d2 := (hnx.cell (p := ⟨b, off + (k + 1), none⟩) hbl).trans (hc (k + 1) (by rw [HN.out]; exact hlt))
      have i1 : (k : Int) < (n : Int) := by omega
      have i2 : (k : Int) + 1 < (n : Int) := by omega
      have hw1 : IntKind.i64.wrap (k : Int) = (k : Int) := by rw [IntKind.wrap_i64]; omega
      have HNo : Hid (¬ ls.getD k 0 < ls.getD (k + 1) 0 → riseI ls = false) := fun h => decide_eq_false fun g => h (g (k + 1) (by rw [HN.out]; exact hlt) (by omega))
      have HUs : Hid (ls.getD k 0 < ls.getD (k + 1) 0 → ∀ i, i ≤ k + 1 → 0 < i → ls.getD (i - 1) 0 < ls.getD i 0) := by
        intro h i hi h0
        by_cases e : i = k + 1
        · subst e; exact h
        · exact hu.out i (by omega) h0
      clear hc hnx
      generalize ls.getD k 0 = p at *
      generalize ls.getD (k + 1) 0 = q at *
      by_cases h3 : 0 ≤ cmpI p q
      · have h4 := hid (show ¬ p < q from fun h => by have := cmpI_neg.2 h; omega)
        go_wp2_with fail
        go_region_with (go_at_call 85; refine (f85 p q _).mono ?_; rintro e w2 ⟨rfl, rfl⟩)
        all_goals
          go_wp2
          go_ret
          exact ⟨ret_bool (HNo.out h4.out).symm, below_drewN HX.out _⟩
      · have h4 := hid (show p < q from cmpI_neg.1 (by omega))
        go_wp2_with fail
        go_region_with (go_at_call 85; refine (f85 p q _).mono ?_; rintro e w2 ⟨rfl, rfl⟩)
        all_goals
          go_wp2
          go_roundw
          case rel => exact ⟨k + 1, .inl (by omega), by go_num, HUs.out h4.out, below_drewN HX.out _⟩
          case measure => simp [intOf]; omega
    · go_wp2
      go_ret
      exact ⟨ret_bool (by symm; refine decide_eq_true fun i hi h0 => hu.out i (by have := HN.out; omega) h0), HX.out⟩
end Go.Proofs.YtkjodikccehmkaaGreat.Ino
/- Lists of numbers: the model's l9Numbers, l9In (out of Nc, for seats without sets). -/
namespace Go.Proofs.YtkjodikccehmkaaGreat.Ino
open Go.RowKit

theorem num_long {l : List Int} (h : ¬ l.length ≤ 1000) : num l = false := by unfold num; rw [decide_eq_false h]; rfl
theorem num_short {l : List Int} (h : l.length ≤ 1000) : num l = riseI l := by unfold num; rw [decide_eq_true h]; rfl
set_option maxHeartbeats 1000000 in
theorem f79 (a : Option Addr) (n c : Nat) (ls : List Int) (w : World) (hn : ls.length = n) (hb : n ≤ 1048576) (hr : Has w a ls) :
    Calls Tryz.prog 79 #[.slice a n c] w fun e w' => e = .returned (.bool (num ls)) ∧ Below w.heap.size w w' := by
  have HN := hid hn
  clear hn
  go_enter Tryz.func79, Tryz.ntmps79
  go_wp2
  go_loopw [6] (fun i wr => ∃ k : Nat, k ≤ n ∧ i = .int .i64 (k : Int) ∧ Hid (∀ i, i < k → 0 < i → ls.getD (i - 1) 0 < ls.getD i 0) ∧ Below w.heap.size w wr) (fun i _ => n - (intOf i).toNat)
  case atStart => exact ⟨0, Nat.zero_le _, rfl, fun i hi h => by omega, Below.refl _ _⟩
  case round =>
    obtain ⟨k, hk, rfl, hu, hnx⟩ := hrel
    have HX := hid hnx
    by_cases hlt : k < n
    · rcases hr with hr | ⟨b, off, rfl, hbl, hc⟩
      · exact absurd HN.out (by rw [hr]; simp; omega)
      have i1 : (k : Int) < (n : Int) := by omega
      rcases k with _ | k
      · clear hnx
        go_wp2
        go_quiet (fail)
        go_wp2
        go_roundw
        case rel => exact ⟨1, by omega, by go_num, fun i hi h0 => by omega, below_drewN HX.out _⟩
        case measure => simp [intOf]; omega
      · have d0 := (hnx.cell (p := ⟨b, off + k, none⟩) hbl).trans (hc k (by rw [HN.out]; omega))
        have d2 := (hnx.cell (p := ⟨b, off + (k + 1), none⟩) hbl).trans (hc (k + 1) (by rw [HN.out]; exact hlt))
        have i2 : (k : Int) < (n : Int) := by omega
        have i3 : (k : Int) + 1 < (n : Int) := by omega
        have hw1 : IntKind.i64.wrap (k : Int) = (k : Int) := by rw [IntKind.wrap_i64]; omega
        have HNo : Hid (¬ ls.getD k 0 < ls.getD (k + 1) 0 → num ls = false) := fun h => by
          unfold num
          rw [show riseI ls = false from decide_eq_false fun g => h (g (k + 1) (by rw [HN.out]; exact hlt) (by omega)), Bool.and_false]
        have HUs : Hid (ls.getD k 0 < ls.getD (k + 1) 0 → ∀ i, i < k + 1 + 1 → 0 < i → ls.getD (i - 1) 0 < ls.getD i 0) := by
          intro h i hi h0
          by_cases e : i = k + 1
          · subst e; exact h
          · exact hu.out i (by omega) h0
        clear hc hnx
        generalize ls.getD k 0 = p at *
        generalize ls.getD (k + 1) 0 = q at *
        by_cases h3 : p < q
        · have h4 : ¬ p ≥ q := by omega
          go_wp2
          go_quiet (fail)
          go_wp2
          go_roundw
          case rel => exact ⟨k + 1 + 1, by omega, by go_num, HUs.out h3, below_drewN HX.out _⟩
          case measure => simp [intOf]; omega
        · have h4 : p ≥ q := by omega
          go_wp2
          go_quiet (fail)
          go_wp2
          go_ret
          exact ⟨ret_bool (HNo.out h3).symm, below_drewN HX.out _⟩
    · have hrs : Hid (riseI ls = true) := decide_eq_true fun i hi h0 => hu.out i (by have := HN.out; omega) h0
      by_cases h5 : n ≤ 1000
      · have e5 : Hid (num ls = true) := by have := HN.out; unfold Hid; rw [num_short (by omega)]; exact hrs.out
        go_wp2
        go_ret
        exact ⟨ret_bool (by rw [e5.out]; simp; omega), HX.out⟩
      · have e5 : Hid (num ls = false) := by have := HN.out; unfold Hid; rw [num_long (by omega)]
        go_wp2
        go_ret
        exact ⟨ret_bool (by rw [e5.out]; simp; omega), HX.out⟩

end Go.Proofs.YtkjodikccehmkaaGreat.Ino
/- Numbers that rise within bounds: areRisingNumbers. -/
namespace Go.Proofs.YtkjodikccehmkaaGreat.Ino
open Go.RowKit

def frb (M : Nat) (U : Int) (l : List Int) : Prop := l.length ≤ M ∧ riseI l = true ∧ ∀ i, i < l.length → 0 ≤ l.getD i 0 ∧ l.getD i 0 ≤ U
instance (M : Nat) (U : Int) (l : List Int) : Decidable (frb M U l) := by unfold frb; infer_instance
theorem rise_le {l : List Int} (h : riseI l = true) : ∀ (j i : Nat), i ≤ j → j < l.length → l.getD i 0 ≤ l.getD j 0 := by
  have h' := of_decide_eq_true h
  intro j
  induction j with
  | zero => intro i hi _; rw [show i = 0 by omega]; exact Int.le_refl _
  | succ j ih =>
    intro i hi hj
    by_cases e : i = j + 1
    · rw [e]; exact Int.le_refl _
    · have a := ih i (by omega) (by omega)
      have b := h' (j + 1) hj (by omega)
      rw [Nat.add_sub_cancel] at b
      omega
theorem frb_ends {M : Nat} {U : Int} {l : List Int} (h1 : l.length ≤ M) (h2 : riseI l = true) : frb M U l ↔ (l.length = 0 ∨ 0 ≤ l.getD 0 0 ∧ l.getD (l.length - 1) 0 ≤ U) := by
  constructor
  · rintro ⟨_, _, h⟩
    by_cases e : l.length = 0
    · exact .inl e
    · exact .inr ⟨(h 0 (by omega)).1, (h _ (by omega)).2⟩
  · intro h
    refine ⟨h1, h2, fun i hi => ?_⟩
    rcases h with h | ⟨a, b⟩
    · omega
    · have c := rise_le h2 i 0 (by omega) hi
      have d := rise_le h2 (l.length - 1) i (by omega) (by omega)
      omega
set_option maxHeartbeats 2000000 in
theorem f66 (a : Option Addr) (c : Nat) (l : List Int) (M : Nat) (U : Int) (w : World) (hl : l.length ≤ 1048576) (hr : Has w a l) :
    Calls Tryz.prog 66 #[.slice a l.length c, .int .i64 M, .int .i64 U] w fun e w' => e = .returned (.bool (decide (frb M U l))) ∧ Below w.heap.size w w' := by
  have HC := hid (f84 a l.length c l w rfl hl hr)
  have HH := hid hr
  have HE := fun h1 h2 => hid (frb_ends (M := M) (U := U) (l := l) h1 h2)
  have HF : Hid (frb M U l → l.length ≤ M ∧ riseI l = true) := fun h => ⟨h.1, h.2.1⟩
  have HL0 : Hid (l.length = 0 → l = []) := fun h => List.eq_nil_of_length_eq_zero h
  generalize hn : l.length = n at *
  have HN := hid hn
  clear hn hr
  by_cases g : n > M
  · rw [decide_eq_false (show ¬ frb M U l from fun h => by have := (HF.out h).1; omega)]
    go_enter Tryz.func66, Tryz.ntmps66
    go_wp2
    go_ret
    exact ⟨rfl, Below.refl _ _⟩
  cases hrise : riseI l
  · rw [decide_eq_false (show ¬ frb M U l from fun h => by have := (HF.out h).2; rw [hrise] at this; cases this)]
    rw [hrise] at HC
    clear hrise
    go_enter Tryz.func66, Tryz.ntmps66
    go_wp2_with fail
    refine HC.out.mono ?_
    rintro e w1 ⟨rfl, hb⟩
    have HB := hid hb
    clear hb
    go_wp2
    go_ret
    exact ⟨rfl, HB.out⟩
  have HE2 := hid (HE (by omega) hrise).out
  rw [hrise] at HC
  clear hrise HE
  by_cases g0 : n = 0
  · subst g0
    rw [decide_eq_true (HE2.out.2 (.inl rfl))]
    go_enter Tryz.func66, Tryz.ntmps66
    go_wp2_with fail
    refine HC.out.mono ?_
    rintro e w1 ⟨rfl, hb⟩
    have HB := hid hb
    clear hb
    go_wp2
    go_ret
    exact ⟨rfl, HB.out⟩
  rcases HH.out with hr | ⟨b, off, rfl, hbl, hc⟩
  · exact absurd HN.out (by rw [hr]; simp; omega)
  have e0 : ((n : Int) == 0) = false := by simp; omega
  have c0 := hc 0 (by rw [HN.out]; omega)
  have c1 := hc (n - 1) (by rw [HN.out]; omega)
  rw [Nat.add_zero] at c0
  obtain ⟨m, rfl⟩ : ∃ m, n = m + 1 := ⟨n - 1, by omega⟩
  rw [Nat.add_sub_cancel] at c1 HE2
  clear hc
  generalize l.getD 0 0 = x at *
  generalize l.getD m 0 = y at *
  by_cases g1 : x ≥ 0
  · by_cases g2 : y ≤ U
    · rw [decide_eq_true (HE2.out.2 (.inr ⟨g1, g2⟩))]
      go_enter Tryz.func66, Tryz.ntmps66
      go_wp2_with fail
      refine HC.out.mono ?_
      rintro e w1 ⟨rfl, hb⟩
      have HB := hid hb
      have d0 := (hb.cell (p := ⟨b, off, none⟩) hbl).trans c0
      have d1 := (hb.cell (p := ⟨b, off + m, none⟩) hbl).trans c1
      clear hb
      go_wp2
      go_ret
      exact ⟨rfl, HB.out⟩
    · rw [decide_eq_false (show ¬ frb M U l from fun h => by rcases HE2.out.1 h with h | h <;> omega)]
      go_enter Tryz.func66, Tryz.ntmps66
      go_wp2_with fail
      refine HC.out.mono ?_
      rintro e w1 ⟨rfl, hb⟩
      have HB := hid hb
      have d0 := (hb.cell (p := ⟨b, off, none⟩) hbl).trans c0
      have d1 := (hb.cell (p := ⟨b, off + m, none⟩) hbl).trans c1
      clear hb
      go_wp2
      go_ret
      exact ⟨by show Ending.returned (.bool ((m : Int) + 1 == 0 || decide (y ≤ U))) = _; rw [decide_eq_false (show ¬ y ≤ U by omega)]; simp; omega, HB.out⟩
  · rw [decide_eq_false (show ¬ frb M U l from fun h => by rcases HE2.out.1 h with h | h <;> omega)]
    go_enter Tryz.func66, Tryz.ntmps66
    go_wp2_with fail
    refine HC.out.mono ?_
    rintro e w1 ⟨rfl, hb⟩
    have HB := hid hb
    have d0 := (hb.cell (p := ⟨b, off, none⟩) hbl).trans c0
    have d1 := (hb.cell (p := ⟨b, off + m, none⟩) hbl).trans c1
    clear hb
    go_wp2
    go_ret
    exact ⟨rfl, HB.out⟩
end Go.Proofs.YtkjodikccehmkaaGreat.Ino
