/- Lists of names that rise: the program's areNames and isRising, the model's l2Rising and l15Names (out of Qpa, Qma, for seats without questions). -/
import Derived.Test.YthcogkoleiejgaaGreatDoorRTx
import Derived.Test.YthcogkoleiejgaaGreatDoorRPA
import Derived.Test.YthcogkoleiejgaaGreatDoorRCmp
import Derived.Deep.RegionHeld3
import Derived.Deep.CutRange
namespace Go.Proofs.YthcogkoleiejgaaGreatDoor.Nmt
open Go.RowKit
open Go.Proofs.YthcogkoleiejgaaGreatDoor.Pat (nameL ret_bool)
open Go.Proofs.YthcogkoleiejgaaGreatDoor.Fil (HasT FitT)

theorem hid {p : Prop} (h : p) : Hid p := h
theorem two (b : Bool) : b = true ∨ b = false := by cases b <;> simp
def namesS (ss : List ByteArray) : Bool := decide (∀ i, i < ss.length → nameL (ss.getD i ByteArray.empty).data.toList = true)
def riseS (ss : List ByteArray) : Bool := decide (∀ i, i < ss.length → 0 < i → Lib.compareBytes (ss.getD (i - 1) ByteArray.empty).data.toList (ss.getD i ByteArray.empty).data.toList < 0)
def namesL (ss : List ByteArray) : Bool := namesS ss && decide (ss.length ≤ 10) && riseS ss
theorem names_no {ss : List ByteArray} {k : Nat} (hk : k < ss.length) (h : nameL (ss.getD k ByteArray.empty).data.toList = false) : namesS ss = false := decide_eq_false fun g => by rw [g k hk] at h; cases h
theorem names_yes {ss : List ByteArray} {k : Nat} (hk : ss.length ≤ k) (h : ∀ i, i < k → nameL (ss.getD i ByteArray.empty).data.toList = true) : namesS ss = true := decide_eq_true fun i hi => h i (by omega)
set_option maxHeartbeats 2000000 in
theorem f132 (a : Option Addr) (n c : Nat) (ss : List ByteArray) (w : World) (hn : ss.length = n) (hb : n ≤ 1048576) (hz : FitT ss) (hr : HasT w a ss) :
    Calls Tryz.prog 132 #[.slice a n c] w fun e w' => e = .returned (.bool (namesS ss)) ∧ w' = w := by
  have HN := hid hn
  have HZ := hid hz
  have HR := hid hr
  clear hn hz hr
  go_enter Tryz.func132, Tryz.ntmps132
  go_wp2
  go_loop [7] (fun i => ∃ k : Nat, k ≤ n ∧ i = .int .i64 k ∧ Hid (∀ i, i < k → nameL (ss.getD i ByteArray.empty).data.toList = true)) (fun i => n - (intOf i).toNat)
  case atStart => exact ⟨0, Nat.zero_le _, rfl, fun i hi => by omega⟩
  case round =>
    obtain ⟨k, hk, rfl, HU⟩ := hrel
    by_cases hlt : k < n
    · rcases HR.out with hr | ⟨b, off, rfl, hbl, hc⟩
      · exact absurd HN.out (by rw [hr]; simp; omega)
      have c0 := hc k (by rw [HN.out]; exact hlt)
      have HS := hid (HZ.out k)
      have HF := hid (names_no (ss := ss) (k := k) (by rw [HN.out]; exact hlt))
      have HY : Hid (nameL (ss.getD k ByteArray.empty).data.toList = true → ∀ i, i < k + 1 → nameL (ss.getD i ByteArray.empty).data.toList = true) := by
        intro h i hi
        by_cases e : i = k
        · rw [e]; exact h
        · exact HU.out i (by omega)
      clear hc
      generalize ss.getD k ByteArray.empty = s at *
      rcases two (nameL s.data.toList) with hnm | hnm
      · go_wp2_with (go_at_call 64; refine (Pat.f64 s _ HS.out).mono ?_; rintro e w' ⟨rfl, hw'⟩; have hw2 := hw'.symm; clear hw'; subst hw2)
        go_round
        case rel => exact ⟨k + 1, by omega, by go_num, HY.out hnm⟩
        case measure => simp [intOf]; omega
      · go_wp2_with (go_at_call 64; refine (Pat.f64 s _ HS.out).mono ?_; rintro e w' ⟨rfl, hw'⟩; have hw2 := hw'.symm; clear hw'; subst hw2)
        go_ret
        exact ⟨ret_bool (HF.out hnm).symm, rfl⟩
    · go_wp2
      go_ret
      exact ⟨ret_bool (names_yes (by rw [HN.out]; omega) HU.out).symm, rfl⟩
def cmpS (s t : ByteArray) : Int := Lib.compareBytes s.data.toList t.data.toList
theorem rise_no {ss : List ByteArray} {k : Nat} (hk : k + 1 < ss.length) (h : ¬ cmpS (ss.getD k ByteArray.empty) (ss.getD (k + 1) ByteArray.empty) < 0) : riseS ss = false := decide_eq_false fun g => h (g (k + 1) hk (by omega))
set_option maxHeartbeats 1000000 in
theorem f133 (a : Option Addr) (n c : Nat) (ss : List ByteArray) (w : World) (hn : ss.length = n) (hb : n ≤ 1048576) (hr : HasT w a ss) :
    Calls Tryz.prog 133 #[.slice a n c, .func (.func 103) #[] #[]] w fun e w' => e = .returned (.bool (riseS ss)) ∧ Below w.heap.size w w' := by
  have HN := hid hn
  have HR := hid hr
  clear hn hr
  go_enter Tryz.func133, Tryz.ntmps133
  go_wp2
  go_loopw [5] (fun i wr => ∃ k : Nat, (k ≤ n ∨ k = 0) ∧ i = .int .i64 ((k : Int) + 1) ∧ Hid (∀ i, i ≤ k → 0 < i → cmpS (ss.getD (i - 1) ByteArray.empty) (ss.getD i ByteArray.empty) < 0) ∧ Below w.heap.size w wr) (fun i _ => n + 1 - (intOf i).toNat)
  case atStart => exact ⟨0, .inr rfl, by go_num, fun i hi h => by omega, Below.refl _ _⟩
  case round =>
    obtain ⟨k, hk, rfl, hu, hnx⟩ := hrel
    have HX := hid hnx
    by_cases hlt : k + 1 < n
    · rcases HR.out with hr | ⟨b, off, rfl, hbl, hc⟩
      · exact absurd HN.out (by rw [hr]; simp; omega)
      have d0 := (hnx.cell (p := ⟨b, off + k, none⟩) hbl).trans (hc k (by rw [HN.out]; omega))
      have d2 := (hnx.cell (p := ⟨b, off + (k + 1), none⟩) hbl).trans (hc (k + 1) (by rw [HN.out]; omega))
      have i1 : (k : Int) < (n : Int) := by omega
      have i2 : (k : Int) + 1 < (n : Int) := by omega
      have hw1 : IntKind.i64.wrap (k : Int) = (k : Int) := by rw [IntKind.wrap_i64]; omega
      have HNo := hid (rise_no (ss := ss) (k := k) (by rw [HN.out]; exact hlt))
      have HUs : Hid (cmpS (ss.getD k ByteArray.empty) (ss.getD (k + 1) ByteArray.empty) < 0 → ∀ i, i ≤ k + 1 → 0 < i → cmpS (ss.getD (i - 1) ByteArray.empty) (ss.getD i ByteArray.empty) < 0) := by
        intro h i hi h0
        by_cases e : i = k + 1
        · subst e; exact h
        · exact hu.out i (by omega) h0
      clear hc hnx
      generalize ss.getD k ByteArray.empty = p at *
      generalize ss.getD (k + 1) ByteArray.empty = q at *
      by_cases h3 : 0 ≤ cmpS p q
      · have h3' : 0 ≤ Lib.compareBytes p.data.toList q.data.toList := h3
        go_wp2_with fail
        go_region_with (go_at_call 103; refine (Str.f103 p q _).mono ?_; rintro e w2 ⟨rfl, rfl⟩)
        all_goals
          go_wp2
          go_ret
          exact ⟨ret_bool (HNo.out (by omega)).symm, by first | exact HX.out.drew | exact HX.out⟩
      · have h3' : Lib.compareBytes p.data.toList q.data.toList < 0 := by unfold cmpS at h3; omega
        go_wp2_with fail
        go_region_with (go_at_call 103; refine (Str.f103 p q _).mono ?_; rintro e w2 ⟨rfl, rfl⟩)
        all_goals
          go_wp2
          go_roundw
          case rel => exact ⟨k + 1, .inl (by omega), by go_num, HUs.out h3', by first | exact HX.out.drew | exact HX.out⟩
          case measure => simp [intOf]; omega
    · go_wp2
      go_ret
      exact ⟨ret_bool (by symm; refine decide_eq_true fun i hi h0 => hu.out i (by have := HN.out; omega) h0), HX.out⟩
set_option maxHeartbeats 1000000 in
theorem f92 (a : Option Addr) (n c : Nat) (ss : List ByteArray) (w : World) (hn : ss.length = n) (hb : n ≤ 1048576) (hz : FitT ss) (hr : HasT w a ss) :
    Calls Tryz.prog 92 #[.slice a n c] w fun e w' => e = .returned (.bool (riseS ss)) ∧ Below w.heap.size w w' := by
  have HN := hid hn
  have HZ := hid hz
  have HR := hid hr
  clear hn hr hz
  go_enter Tryz.func92, Tryz.ntmps92
  go_wp2
  go_loopw [3] (fun i wr => ∃ k : Nat, (k ≤ n ∨ k = 0) ∧ i = .int .i64 ((k : Int) + 1) ∧ Hid (∀ i, i ≤ k → 0 < i → cmpS (ss.getD (i - 1) ByteArray.empty) (ss.getD i ByteArray.empty) < 0) ∧ Below w.heap.size w wr) (fun i _ => n + 1 - (intOf i).toNat)
  case atStart => exact ⟨0, .inr rfl, by go_num, fun i hi h => by omega, Below.refl _ _⟩
  case round =>
    obtain ⟨k, hk, rfl, hu, hnx⟩ := hrel
    have HX := hid hnx
    by_cases hlt : k + 1 < n
    · rcases HR.out with hr | ⟨b, off, rfl, hbl, hc⟩
      · exact absurd HN.out (by rw [hr]; simp; omega)
      have d0 := (hnx.cell (p := ⟨b, off + k, none⟩) hbl).trans (hc k (by rw [HN.out]; omega))
      have d2 := (hnx.cell (p := ⟨b, off + (k + 1), none⟩) hbl).trans (hc (k + 1) (by rw [HN.out]; omega))
      have i1 : (k : Int) < (n : Int) := by omega
      have i2 : (k : Int) + 1 < (n : Int) := by omega
      have hw1 : IntKind.i64.wrap (k : Int) = (k : Int) := by rw [IntKind.wrap_i64]; omega
      have HS := hid (HZ.out k)
      have HNo := hid (rise_no (ss := ss) (k := k) (by rw [HN.out]; exact hlt))
      have HUs : Hid (cmpS (ss.getD k ByteArray.empty) (ss.getD (k + 1) ByteArray.empty) < 0 → ∀ i, i ≤ k + 1 → 0 < i → cmpS (ss.getD (i - 1) ByteArray.empty) (ss.getD i ByteArray.empty) < 0) := by
        intro h i hi h0
        by_cases e : i = k + 1
        · subst e; exact h
        · exact hu.out i (by omega) h0
      clear hc hnx
      generalize ss.getD k ByteArray.empty = p at *
      generalize ss.getD (k + 1) ByteArray.empty = q at *
      by_cases h3 : 0 ≤ cmpS p q
      · have h3' : 0 ≤ Lib.compareBytes p.data.toList q.data.toList := h3
        go_wp2_with fail
        go_region_with (go_at_call 55; refine (Str.f55 p q _ HS.out).mono ?_; rintro e w2 ⟨rfl, q2, rfl⟩)
        all_goals
          go_wp2
          go_ret
          exact ⟨ret_bool (HNo.out (by omega)).symm, by first | exact Fil.below_drewN HX.out.drew _ | exact Fil.below_drewN HX.out _ | exact (Fil.below_drewN HX.out _).drew⟩
      · have h3' : Lib.compareBytes p.data.toList q.data.toList < 0 := by unfold cmpS at h3; omega
        go_wp2_with fail
        go_region_with (go_at_call 55; refine (Str.f55 p q _ HS.out).mono ?_; rintro e w2 ⟨rfl, q2, rfl⟩)
        all_goals
          go_wp2
          go_roundw
          case rel => exact ⟨k + 1, .inl (by omega), by go_num, HUs.out h3', by first | exact Fil.below_drewN HX.out.drew _ | exact Fil.below_drewN HX.out _ | exact (Fil.below_drewN HX.out _).drew⟩
          case measure => simp [intOf]; omega
    · go_wp2
      go_ret
      exact ⟨ret_bool (by symm; refine decide_eq_true fun i hi h0 => hu.out i (by have := HN.out; omega) h0), HX.out⟩
set_option maxHeartbeats 2000000 in
theorem f56 (a : Option Addr) (n c : Nat) (ss : List ByteArray) (w : World) (hn : ss.length = n) (hb : n ≤ 1048576) (hz : FitT ss) (hr : HasT w a ss) :
    Calls Tryz.prog 56 #[.slice a n c] w fun e w' => e = .returned (.bool (namesL ss)) ∧ Below w.heap.size w w' := by
  have HN := hid hn
  have HZ := hid hz
  have HR := hid hr
  have hB := hid (Below.refl w.heap.size w)
  clear hn hz hr
  go_enter Tryz.func56, Tryz.ntmps56
  go_wp2
  go_loop [7] (fun i => ∃ k : Nat, k ≤ n ∧ i = .int .i64 k ∧ Hid (∀ i, i < k → nameL (ss.getD i ByteArray.empty).data.toList = true)) (fun i => n - (intOf i).toNat)
  case atStart => exact ⟨0, Nat.zero_le _, rfl, fun i hi => by omega⟩
  case round =>
    obtain ⟨k, hk, rfl, HU⟩ := hrel
    by_cases hlt : k < n
    · rcases HR.out with hr | ⟨b, off, rfl, hbl, hc⟩
      · exact absurd HN.out (by rw [hr]; simp; omega)
      have c0 := hc k (by rw [HN.out]; exact hlt)
      have HS := hid (HZ.out k)
      have HF : Hid (nameL (ss.getD k ByteArray.empty).data.toList = false → namesL ss = false) := by
        intro h
        unfold namesL
        rw [names_no (by rw [HN.out]; exact hlt) h]
        simp
      have HY : Hid (nameL (ss.getD k ByteArray.empty).data.toList = true → ∀ i, i < k + 1 → nameL (ss.getD i ByteArray.empty).data.toList = true) := by
        intro h i hi
        by_cases e : i = k
        · rw [e]; exact h
        · exact HU.out i (by omega)
      clear hc
      generalize ss.getD k ByteArray.empty = s at *
      rcases two (nameL s.data.toList) with hnm | hnm
      · go_wp2_with (go_at_call 53; refine (Pat.f53 s _ HS.out).mono ?_; rintro e w' ⟨rfl, hw'⟩; have hw2 := hw'.symm; clear hw'; subst hw2)
        go_round
        case rel => exact ⟨k + 1, by omega, by go_num, HY.out hnm⟩
        case measure => simp [intOf]; omega
      · go_wp2_with (go_at_call 53; refine (Pat.f53 s _ HS.out).mono ?_; rintro e w' ⟨rfl, hw'⟩; have hw2 := hw'.symm; clear hw'; subst hw2)
        go_ret
        exact ⟨ret_bool (HF.out hnm).symm, hB.out⟩
    · have HA := hid (names_yes (by rw [HN.out]; omega) HU.out)
      by_cases h2 : n ≤ 10
      · have HE2 : Hid (namesL ss = riseS ss) := by
          unfold Hid; unfold namesL; rw [HA.out, decide_eq_true (by rw [HN.out]; exact h2)]; rfl
        go_wp2_with (go_at_call 92; refine (f92 a n c ss _ HN.out hb HZ.out HR.out).mono ?_; rintro e w' ⟨rfl, hb2⟩)
        go_ret
        exact ⟨ret_bool HE2.out.symm, hb2⟩
      · have HE2 : Hid (namesL ss = false) := by
          unfold Hid; unfold namesL; rw [decide_eq_false (p := ss.length ≤ 10) (by rw [HN.out]; exact h2)]; simp
        go_wp2
        go_ret
        exact ⟨ret_bool HE2.out.symm, hB.out⟩
/-- A time. -/
def isT (z : Int) : Bool := decide (0 ≤ z ∧ z ≤ 1000000000000)
theorem f43 (z : Int) (w : World) : Calls Tryz.prog 43 #[.int .i64 z] w fun e w' => e = .returned (.bool (isT z)) ∧ w' = w := by
  go_enter Tryz.func43, Tryz.ntmps43
  go_wp2
  all_goals
    go_ret
    exact ⟨ret_bool (by unfold isT; rw [Bool.eq_iff_iff]; simp; omega), rfl⟩
theorem f40 (z : Int) (w : World) : Calls Tryz.prog 40 #[.int .i64 z] w fun e w' => e = .returned (.bool (isT z)) ∧ w' = w := by
  go_enter Tryz.func40, Tryz.ntmps40
  go_wp2
  all_goals
    go_ret
    exact ⟨ret_bool (by unfold isT; rw [Bool.eq_iff_iff]; simp; omega), rfl⟩
end Go.Proofs.YthcogkoleiejgaaGreatDoor.Nmt
