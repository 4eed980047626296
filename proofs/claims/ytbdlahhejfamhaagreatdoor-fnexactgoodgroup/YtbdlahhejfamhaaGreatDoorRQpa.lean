/- Questions: the program's and the model's small tests: times, names, choices, moments. -/
import Derived.Test.YtbdlahhejfamhaaGreatDoorRA5
import Derived.Deep.RegionHeld3
import Derived.Deep.CutRange
namespace Go.Proofs.YtbdlahhejfamhaaGreatDoor.Qry
open Go.RowKit
open Go.Proofs.YtbdlahhejfamhaaGreatDoor.Pat (Mt m0 nameL printL goodM HasM FitM ret_bool)
open Go.Proofs.YtbdlahhejfamhaaGreatDoor.Fil (HasT FitT)

theorem f48 (z : Int) (w : World) : Calls Tryz.prog 48 #[.int .i64 z] w fun e w' => e = .returned (.bool (isT z)) ∧ w' = w := by
  go_enter Tryz.func48, Tryz.ntmps48
  go_wp2
  all_goals
    go_ret
    exact ⟨ret_bool (by unfold isT; rw [Bool.eq_iff_iff]; simp; omega), rfl⟩
theorem f46 (z : Int) (w : World) : Calls Tryz.prog 46 #[.int .i64 z] w fun e w' => e = .returned (.bool (isT z)) ∧ w' = w := by
  go_enter Tryz.func46, Tryz.ntmps46
  go_wp2
  all_goals
    go_ret
    exact ⟨ret_bool (by unfold isT; rw [Bool.eq_iff_iff]; simp; omega), rfl⟩
theorem two (b : Bool) : b = true ∨ b = false := by cases b <;> simp
theorem mo_tt {r : Pl} (h1 : isT r.off = true) (h2 : isT r.att = true) (h3 : r.fx = true) : true = moment r := by unfold moment; rw [h1, h2, h3]; rfl
theorem mo_t0 {r : Pl} (h1 : isT r.off = true) (h3 : r.fx = false) (h4 : r.att = 0) : true = moment r := by unfold moment; rw [h1, h3, h4]; decide
theorem mo_f1 {r : Pl} (h1 : isT r.off = false) : false = moment r := by unfold moment; rw [h1]; rfl
theorem mo_f2 {r : Pl} (h2 : isT r.att = false) : false = moment r := by unfold moment; rw [h2]; simp
theorem mo_f4 {r : Pl} (h3 : r.fx = false) (h4 : ¬ r.att = 0) : false = moment r := by unfold moment; rw [h3, decide_eq_false h4]; simp
theorem f144 (q : R) (w : World) : Calls Tryz.prog 144 #[agR q] w fun e w' => e = .returned (.bool (moment (pl q))) ∧ Below w.heap.size w w' := by
  rcases two (isT q.off) with h1 | h1
  · rcases two (isT q.att) with h2 | h2
    · rcases two q.fx with h3 | h3
      · go_enter Tryz.func144, Tryz.ntmps144
        go_wp2_with (go_at_call 48; refine (f48 _ _).mono ?_; rintro e w' ⟨rfl, rfl⟩)
        go_ret
        exact ⟨ret_bool (mo_tt (r := pl q) h1 h2 h3), (Below.refl _ _).alloc (Nat.le_refl _) _⟩
      · by_cases h4 : q.att = 0
        · go_enter Tryz.func144, Tryz.ntmps144
          go_wp2_with (go_at_call 48; refine (f48 _ _).mono ?_; rintro e w' ⟨rfl, rfl⟩)
          go_ret
          exact ⟨ret_bool (mo_t0 (r := pl q) h1 h3 h4), (Below.refl _ _).alloc (Nat.le_refl _) _⟩
        · go_enter Tryz.func144, Tryz.ntmps144
          go_wp2_with (go_at_call 48; refine (f48 _ _).mono ?_; rintro e w' ⟨rfl, rfl⟩)
          go_ret
          exact ⟨ret_bool ((beq_eq_false_iff_ne.2 h4).trans (mo_f4 (r := pl q) h3 h4)), (Below.refl _ _).alloc (Nat.le_refl _) _⟩
    · go_enter Tryz.func144, Tryz.ntmps144
      go_wp2_with (go_at_call 48; refine (f48 _ _).mono ?_; rintro e w' ⟨rfl, rfl⟩)
      go_ret
      exact ⟨ret_bool (mo_f2 (r := pl q) h2), (Below.refl _ _).alloc (Nat.le_refl _) _⟩
  · go_enter Tryz.func144, Tryz.ntmps144
    go_wp2_with (go_at_call 48; refine (f48 _ _).mono ?_; rintro e w' ⟨rfl, rfl⟩)
    go_ret
    exact ⟨ret_bool (mo_f1 (r := pl q) h1), (Below.refl _ _).alloc (Nat.le_refl _) _⟩
theorem f137 (q : R) (w : World) : Calls Tryz.prog 137 #[agR q] w fun e w' => e = .returned (.bool (moment (pl q))) ∧ Below w.heap.size w w' := by
  rcases two (isT q.off) with h1 | h1
  · rcases two q.fx with h3 | h3
    · rcases two (isT q.att) with h2 | h2
      · go_enter Tryz.func137, Tryz.ntmps137
        go_wp2_with (go_at_call 46; refine (f46 _ _).mono ?_; rintro e w' ⟨rfl, rfl⟩)
        go_ret
        exact ⟨ret_bool (mo_tt (r := pl q) h1 h2 h3), (Below.refl _ _).alloc (Nat.le_refl _) _⟩
      · go_enter Tryz.func137, Tryz.ntmps137
        go_wp2_with (go_at_call 46; refine (f46 _ _).mono ?_; rintro e w' ⟨rfl, rfl⟩)
        go_ret
        exact ⟨ret_bool (mo_f2 (r := pl q) h2), (Below.refl _ _).alloc (Nat.le_refl _) _⟩
    · by_cases h4 : q.att = 0
      · go_enter Tryz.func137, Tryz.ntmps137
        go_wp2_with (go_at_call 46; refine (f46 _ _).mono ?_; rintro e w' ⟨rfl, rfl⟩)
        go_ret
        exact ⟨ret_bool (mo_t0 (r := pl q) h1 h3 h4), (Below.refl _ _).alloc (Nat.le_refl _) _⟩
      · go_enter Tryz.func137, Tryz.ntmps137
        go_wp2_with (go_at_call 46; refine (f46 _ _).mono ?_; rintro e w' ⟨rfl, rfl⟩)
        go_ret
        exact ⟨ret_bool ((beq_eq_false_iff_ne.2 h4).trans (mo_f4 (r := pl q) h3 h4)), (Below.refl _ _).alloc (Nat.le_refl _) _⟩
  · go_enter Tryz.func137, Tryz.ntmps137
    go_wp2_with (go_at_call 46; refine (f46 _ _).mono ?_; rintro e w' ⟨rfl, rfl⟩)
    go_ret
    exact ⟨ret_bool (mo_f1 (r := pl q) h1), (Below.refl _ _).alloc (Nat.le_refl _) _⟩

theorem names_no {ss : List ByteArray} {k : Nat} (hk : k < ss.length) (h : nameL (ss.getD k ByteArray.empty).data.toList = false) : namesS ss = false := decide_eq_false fun g => by rw [g k hk] at h; cases h
theorem names_yes {ss : List ByteArray} {k : Nat} (hk : ss.length ≤ k) (h : ∀ i, i < k → nameL (ss.getD i ByteArray.empty).data.toList = true) : namesS ss = true := decide_eq_true fun i hi => h i (by omega)
set_option maxHeartbeats 2000000 in
theorem f183 (a : Option Addr) (n c : Nat) (ss : List ByteArray) (w : World) (hn : ss.length = n) (hb : n ≤ 1048576) (hz : FitT ss) (hr : HasT w a ss) :
    Calls Tryz.prog 183 #[.slice a n c] w fun e w' => e = .returned (.bool (namesS ss)) ∧ w' = w := by
  have HN := hid hn
  have HZ := hid hz
  have HR := hid hr
  clear hn hz hr
  go_enter Tryz.func183, Tryz.ntmps183
  go_wp2
  go_loop [7] (fun i => ∃ k : Nat, k ≤ n ∧ i = .int .i64 k ∧ Hid (∀ i, i < k → nameL (ss.getD i ByteArray.empty).data.toList = true)) (fun i => n - (intOf i).toNat)
  case atStart => exact ⟨0, Nat.zero_le _, rfl, fun i hi => by omega⟩
  case round =>
    obtain ⟨k, hk, rfl, HU⟩ := hrel
    by_cases hlt : k < n
    · rcases HR.out with hr | ⟨b, off, rfl, hbl, hc⟩
      · exact absurd HN.out (by rw [hr]; simp; omega)
      have c0 := hc k (by rw [HN.out]; exact hlt)
      have HS := hid (HZ.out k)
      have HF := hid (names_no (ss := ss) (k := k) (by rw [HN.out]; exact hlt))
      have HY : Hid (nameL (ss.getD k ByteArray.empty).data.toList = true → ∀ i, i < k + 1 → nameL (ss.getD i ByteArray.empty).data.toList = true) := by
        intro h i hi
        by_cases e : i = k
        · rw [e]; exact h
        · exact HU.out i (by omega)
      clear hc
      generalize ss.getD k ByteArray.empty = s at *
      rcases two (nameL s.data.toList) with hnm | hnm
      · go_wp2_with (go_at_call 95; refine (Pat.f95 s _ HS.out).mono ?_; rintro e w' ⟨rfl, hw'⟩; have hw2 := hw'.symm; clear hw'; subst hw2)
        go_round
        case rel => exact ⟨k + 1, by omega, by go_num, HY.out hnm⟩
        case measure => simp [intOf]; omega
      · go_wp2_with (go_at_call 95; refine (Pat.f95 s _ HS.out).mono ?_; rintro e w' ⟨rfl, hw'⟩; have hw2 := hw'.symm; clear hw'; subst hw2)
        go_ret
        exact ⟨ret_bool (HF.out hnm).symm, rfl⟩
    · go_wp2
      go_ret
      exact ⟨ret_bool (names_yes (by rw [HN.out]; omega) HU.out).symm, rfl⟩
def cmpS (s t : ByteArray) : Int := Lib.compareBytes s.data.toList t.data.toList
theorem rise_no {ss : List ByteArray} {k : Nat} (hk : k + 1 < ss.length) (h : ¬ cmpS (ss.getD k ByteArray.empty) (ss.getD (k + 1) ByteArray.empty) < 0) : riseS ss = false := decide_eq_false fun g => h (g (k + 1) hk (by omega))
set_option maxHeartbeats 1000000 in
theorem f184 (a : Option Addr) (n c : Nat) (ss : List ByteArray) (w : World) (hn : ss.length = n) (hb : n ≤ 1048576) (hr : HasT w a ss) :
    Calls Tryz.prog 184 #[.slice a n c, .func (.func 155) #[] #[]] w fun e w' => e = .returned (.bool (riseS ss)) ∧ Below w.heap.size w w' := by
  have HN := hid hn
  have HR := hid hr
  clear hn hr
  go_enter Tryz.func184, Tryz.ntmps184
  go_wp2
  go_loopw [5] (fun i wr => ∃ k : Nat, (k ≤ n ∨ k = 0) ∧ i = .int .i64 ((k : Int) + 1) ∧ Hid (∀ i, i ≤ k → 0 < i → cmpS (ss.getD (i - 1) ByteArray.empty) (ss.getD i ByteArray.empty) < 0) ∧ Below w.heap.size w wr) (fun i _ => n + 1 - (intOf i).toNat)
  case atStart => exact ⟨0, .inr rfl, by go_num, fun i hi h => by omega, Below.refl _ _⟩
  case round =>
    obtain ⟨k, hk, rfl, hu, hnx⟩ := hrel
    have HX := hid hnx
    by_cases hlt : k + 1 < n
    · rcases HR.out with hr | ⟨b, off, rfl, hbl, hc⟩
      · exact absurd HN.out (by rw [hr]; simp; omega)
      have d0 := (hnx.cell (p := ⟨b, off + k, none⟩) hbl).trans (hc k (by rw [HN.out]; omega))
      have d2 := (hnx.cell (p := ⟨b, off + (k + 1), none⟩) hbl).trans (hc (k + 1) (by rw [HN.out]; omega))
      have i1 : (k : Int) < (n : Int) := by omega
      have i2 : (k : Int) + 1 < (n : Int) := by omega
      have hw1 : IntKind.i64.wrap (k : Int) = (k : Int) := by rw [IntKind.wrap_i64]; omega
      have HNo := hid (rise_no (ss := ss) (k := k) (by rw [HN.out]; exact hlt))
      have HUs : Hid (cmpS (ss.getD k ByteArray.empty) (ss.getD (k + 1) ByteArray.empty) < 0 → ∀ i, i ≤ k + 1 → 0 < i → cmpS (ss.getD (i - 1) ByteArray.empty) (ss.getD i ByteArray.empty) < 0) := by
        intro h i hi h0
        by_cases e : i = k + 1
        · subst e; exact h
        · exact hu.out i (by omega) h0
      clear hc hnx
      generalize ss.getD k ByteArray.empty = p at *
      generalize ss.getD (k + 1) ByteArray.empty = q at *
      by_cases h3 : 0 ≤ cmpS p q
      · have h3' : 0 ≤ Lib.compareBytes p.data.toList q.data.toList := h3
        go_wp2_with fail
        go_region_with (go_at_call 155; refine (Str.f155 p q _).mono ?_; rintro e w2 ⟨rfl, rfl⟩)
        all_goals
          go_wp2
          go_ret
          exact ⟨ret_bool (HNo.out (by omega)).symm, by first | exact HX.out.drew | exact HX.out⟩
      · have h3' : Lib.compareBytes p.data.toList q.data.toList < 0 := by unfold cmpS at h3; omega
        go_wp2_with fail
        go_region_with (go_at_call 155; refine (Str.f155 p q _).mono ?_; rintro e w2 ⟨rfl, rfl⟩)
        all_goals
          go_wp2
          go_roundw
          case rel => exact ⟨k + 1, .inl (by omega), by go_num, HUs.out h3', by first | exact HX.out.drew | exact HX.out⟩
          case measure => simp [intOf]; omega
    · go_wp2
      go_ret
      exact ⟨ret_bool (by symm; refine decide_eq_true fun i hi h0 => hu.out i (by have := HN.out; omega) h0), HX.out⟩
theorem choice_zero {ss : List ByteArray} : choice 0 ss = ss.isEmpty := rfl
theorem choice_other {way : Int} {ss : List ByteArray} (h : way ≠ 0) : choice way ss = (decide (way = 1 ∨ way = 2) && namesL ss) := if_neg h
set_option maxHeartbeats 2000000 in
theorem f177 (a : Option Addr) (c : Nat) (ss : List ByteArray) (w : World) (hb : ss.length ≤ 1048576) (hz : FitT ss) (hr : HasT w a ss) :
    Calls Tryz.prog 177 #[.slice a ss.length c] w fun e w' => e = .returned (.bool (namesL ss)) ∧ Below w.heap.size w w' := by
  have H3 := fun x a' => hid (f183 a ss.length c ss x rfl hb hz a')
  have H4 := fun x a' => hid (f184 a ss.length c ss x rfl hb a')
  have HR := hid hr
  have HO : Hid (namesL ss = (namesS ss && decide (ss.length ≤ 10) && riseS ss)) := rfl
  clear hz hr hb
  generalize namesL ss = R at *
  generalize namesS ss = b3 at *
  generalize riseS ss = b4 at *
  by_cases g : (ss.length : Int) ≤ 10
  rotate_left
  · have HY : Hid (R = false) := by unfold Hid; rw [HO.out, decide_eq_false (show ¬ ss.length ≤ 10 by omega)]; simp
    go_enter Tryz.func177, Tryz.ntmps177
    go_wp2
    go_ret
    exact ⟨by rw [HY.out]; first | rfl | simp | (simp; omega), Below.refl _ _⟩
  have HG := hid (decide_eq_true (show ss.length ≤ 10 by omega))
  go_enter Tryz.func177, Tryz.ntmps177
  cases b3
  · have HY : Hid (R = false) := by unfold Hid; rw [HO.out]; simp
    go_wp2_with fail
    refine (H3 _ HR.out).out.mono ?_
    rintro e w3 ⟨rfl, hw⟩
    have HB3 : Hid (Below w.heap.size w w3) := by rw [hw]; exact Below.refl _ _
    clear hw
    go_wp2
    go_ret
    exact ⟨by rw [HY.out]; first | rfl | simp, HB3.out⟩
  have HY : Hid (R = b4) := by unfold Hid; rw [HO.out, HG.out]; simp
  go_wp2_with fail
  refine (H3 _ HR.out).out.mono ?_
  rintro e w3 ⟨rfl, hw⟩
  have HB3 : Hid (Below w.heap.size w w3) := by rw [hw]; exact Below.refl _ _
  clear hw
  go_wp2_with fail
  refine (H4 _ (HR.out.below HB3.out)).out.mono ?_
  rintro e w4 ⟨rfl, hb⟩
  have HB4 := hid (HB3.out.trans (hb.mono HB3.out.size))
  clear hb
  go_wp2
  go_ret
  exact ⟨by rw [HY.out]; first | rfl | simp, HB4.out⟩
set_option maxHeartbeats 2000000 in
theorem f165 (z : Int) (a : Option Addr) (n c : Nat) (ss : List ByteArray) (w : World) (hn : ss.length = n) (hb : n ≤ 1048576) (hz : FitT ss) (hr : HasT w a ss) :
    Calls Tryz.prog 165 #[.int .i64 z, .slice a n c] w fun e w' => e = .returned (.bool (choice z ss)) ∧ Below w.heap.size w w' := by
  have HN := hid hn
  have HZ := hid hz
  have HR := hid hr
  clear hn hz hr
  have hB := hid (Below.refl w.heap.size w)
  by_cases h0 : z = 0
  · subst h0
    have HE : Hid (choice 0 ss = decide (n = 0)) := by
      unfold Hid; rw [choice_zero, ← HN.out, Bool.eq_iff_iff]; simp
    by_cases h1 : n = 0
    · subst h1
      go_enter Tryz.func165, Tryz.ntmps165
      go_wp2
      go_ret
      exact ⟨ret_bool (by rw [HE.out]; rfl), hB.out⟩
    · go_enter Tryz.func165, Tryz.ntmps165
      go_wp2
      go_ret
      exact ⟨ret_bool (by rw [HE.out]; simp [h1]), hB.out⟩
  · have HE := hid (choice_other (ss := ss) h0)
    by_cases h1 : z = 1 ∨ z = 2
    · have HE2 : Hid (choice z ss = namesL ss) := by
        unfold Hid; rw [HE.out, decide_eq_true h1]; rfl
      have HC := fun x a' => hid (f177 a c ss x (by rw [HN.out]; exact hb) HZ.out a')
      rw [HN.out] at HC
      rcases h1 with rfl | rfl
      all_goals
        go_enter Tryz.func165, Tryz.ntmps165
        go_wp2_with fail
        refine (HC _ HR.out).out.mono ?_
        rintro e w' ⟨rfl, hb2⟩
        go_wp2
        go_ret
        exact ⟨ret_bool HE2.out.symm, hb2⟩
    · have HE2 : Hid (choice z ss = false) := by
        unfold Hid; rw [HE.out, decide_eq_false h1]; rfl
      have h1a : ¬ z = 1 := fun h => h1 (.inl h)
      have h1b : ¬ z = 2 := fun h => h1 (.inr h)
      clear h1
      go_enter Tryz.func165, Tryz.ntmps165
      go_wp2
      go_ret
      exact ⟨ret_bool HE2.out.symm, hB.out⟩
end Go.Proofs.YtbdlahhejfamhaaGreatDoor.Qry
