/- Questions: the model's small tests: names that rise, choices, words. -/
import Derived.Test.YtbdlahhejfamhaaGreatDoorRQpa
import Derived.Deep.RegionHeld3
namespace Go.Proofs.YtbdlahhejfamhaaGreatDoor.Qry
open Go.RowKit
open Go.Proofs.YtbdlahhejfamhaaGreatDoor.Pat (Mt m0 nameL printL goodM HasM FitM ret_bool)
open Go.Proofs.YtbdlahhejfamhaaGreatDoor.Fil (HasT FitT)

set_option maxHeartbeats 1000000 in
theorem f162 (a : Option Addr) (n c : Nat) (ss : List ByteArray) (w : World) (hn : ss.length = n) (hb : n ≤ 1048576) (hz : FitT ss) (hr : HasT w a ss) :
    Calls Tryz.prog 162 #[.slice a n c] w fun e w' => e = .returned (.bool (riseS ss)) ∧ Below w.heap.size w w' := by
  have HN := hid hn
  have HZ := hid hz
  have HR := hid hr
  clear hn hr hz
  go_enter Tryz.func162, Tryz.ntmps162
  go_wp2
  go_loopw [3] (fun i wr => ∃ k : Nat, (k ≤ n ∨ k = 0) ∧ i = .int .i64 ((k : Int) + 1) ∧ Hid (∀ i, i ≤ k → 0 < i → cmpS (ss.getD (i - 1) ByteArray.empty) (ss.getD i ByteArray.empty) < 0) ∧ Below w.heap.size w wr) (fun i _ => n + 1 - (intOf i).toNat)
  case atStart => exact ⟨0, .inr rfl, by go_num, fun i hi h => by omega, Below.refl _ _⟩
  case round =>
    obtain ⟨k, hk, rfl, hu, hnx⟩ := hrel
    have HX := hid hnx
    by_cases hlt : k + 1 < n
    · rcases HR.out with hr | ⟨b, off, rfl, hbl, hc⟩
      · exact absurd HN.out (by rw [hr]; simp; omega)
      have d0 := (hnx.cell (p := ⟨b, off + k, none⟩) hbl).trans (hc k (by rw [HN.out]; omega))
      have d2 := (hnx.cell (p := ⟨b, off + (k + 1), none⟩) hbl).trans (hc (k + 1) (by rw [HN.out]; omega))
      have i1 : (k : Int) < (n : Int) := by omega
      have i2 : (k : Int) + 1 < (n : Int) := by omega
      have hw1 : IntKind.i64.wrap (k : Int) = (k : Int) := by rw [IntKind.wrap_i64]; omega
      have HS := hid (HZ.out k)
      have HNo := hid (rise_no (ss := ss) (k := k) (by rw [HN.out]; exact hlt))
      have HUs : Hid (cmpS (ss.getD k ByteArray.empty) (ss.getD (k + 1) ByteArray.empty) < 0 → ∀ i, i ≤ k + 1 → 0 < i → cmpS (ss.getD (i - 1) ByteArray.empty) (ss.getD i ByteArray.empty) < 0) := by
        intro h i hi h0
        by_cases e : i = k + 1
        · subst e; exact h
        · exact hu.out i (by omega) h0
      clear hc hnx
      generalize ss.getD k ByteArray.empty = p at *
      generalize ss.getD (k + 1) ByteArray.empty = q at *
      by_cases h3 : 0 ≤ cmpS p q
      · have h3' : 0 ≤ Lib.compareBytes p.data.toList q.data.toList := h3
        go_wp2_with fail
        go_region_with (go_at_call 121; refine (Str.f121 p q _ HS.out).mono ?_; rintro e w2 ⟨rfl, q2, rfl⟩)
        all_goals
          go_wp2
          go_ret
          exact ⟨ret_bool (HNo.out (by omega)).symm, by first | exact Fil.below_drewN HX.out.drew _ | exact Fil.below_drewN HX.out _ | exact (Fil.below_drewN HX.out _).drew⟩
      · have h3' : Lib.compareBytes p.data.toList q.data.toList < 0 := by unfold cmpS at h3; omega
        go_wp2_with fail
        go_region_with (go_at_call 121; refine (Str.f121 p q _ HS.out).mono ?_; rintro e w2 ⟨rfl, q2, rfl⟩)
        all_goals
          go_wp2
          go_roundw
          case rel => exact ⟨k + 1, .inl (by omega), by go_num, HUs.out h3', by first | exact Fil.below_drewN HX.out.drew _ | exact Fil.below_drewN HX.out _ | exact (Fil.below_drewN HX.out _).drew⟩
          case measure => simp [intOf]; omega
    · go_wp2
      go_ret
      exact ⟨ret_bool (by symm; refine decide_eq_true fun i hi h0 => hu.out i (by have := HN.out; omega) h0), HX.out⟩
set_option maxHeartbeats 2000000 in
theorem f139 (a : Option Addr) (n c : Nat) (ss : List ByteArray) (w : World) (hn : ss.length = n) (hb : n ≤ 1048576) (hz : FitT ss) (hr : HasT w a ss) :
    Calls Tryz.prog 139 #[.slice a n c] w fun e w' => e = .returned (.bool (namesL ss)) ∧ Below w.heap.size w w' := by
  have HN := hid hn
  have HZ := hid hz
  have HR := hid hr
  have hB := hid (Below.refl w.heap.size w)
  clear hn hz hr
  go_enter Tryz.func139, Tryz.ntmps139
  go_wp2
  go_loop [7] (fun i => ∃ k : Nat, k ≤ n ∧ i = .int .i64 k ∧ Hid (∀ i, i < k → nameL (ss.getD i ByteArray.empty).data.toList = true)) (fun i => n - (intOf i).toNat)
  case atStart => exact ⟨0, Nat.zero_le _, rfl, fun i hi => by omega⟩
  case round =>
    obtain ⟨k, hk, rfl, HU⟩ := hrel
    by_cases hlt : k < n
    · rcases HR.out with hr | ⟨b, off, rfl, hbl, hc⟩
      · exact absurd HN.out (by rw [hr]; simp; omega)
      have c0 := hc k (by rw [HN.out]; exact hlt)
      have HS := hid (HZ.out k)
      have HF : Hid (nameL (ss.getD k ByteArray.empty).data.toList = false → namesL ss = false) := by
        intro h
        unfold namesL
        rw [names_no (by rw [HN.out]; exact hlt) h]
        simp
      have HY : Hid (nameL (ss.getD k ByteArray.empty).data.toList = true → ∀ i, i < k + 1 → nameL (ss.getD i ByteArray.empty).data.toList = true) := by
        intro h i hi
        by_cases e : i = k
        · rw [e]; exact h
        · exact HU.out i (by omega)
      clear hc
      generalize ss.getD k ByteArray.empty = s at *
      rcases two (nameL s.data.toList) with hnm | hnm
      · go_wp2_with (go_at_call 90; refine (Pat.f90 s _ HS.out).mono ?_; rintro e w' ⟨rfl, hw'⟩; have hw2 := hw'.symm; clear hw'; subst hw2)
        go_round
        case rel => exact ⟨k + 1, by omega, by go_num, HY.out hnm⟩
        case measure => simp [intOf]; omega
      · go_wp2_with (go_at_call 90; refine (Pat.f90 s _ HS.out).mono ?_; rintro e w' ⟨rfl, hw'⟩; have hw2 := hw'.symm; clear hw'; subst hw2)
        go_ret
        exact ⟨ret_bool (HF.out hnm).symm, hB.out⟩
    · have HA := hid (names_yes (by rw [HN.out]; omega) HU.out)
      by_cases h2 : n ≤ 10
      · have HE2 : Hid (namesL ss = riseS ss) := by
          unfold Hid; unfold namesL; rw [HA.out, decide_eq_true (by rw [HN.out]; exact h2)]; rfl
        go_wp2_with (go_at_call 162; refine (f162 a n c ss _ HN.out hb HZ.out HR.out).mono ?_; rintro e w' ⟨rfl, hb2⟩)
        go_ret
        exact ⟨ret_bool HE2.out.symm, hb2⟩
      · have HE2 : Hid (namesL ss = false) := by
          unfold Hid; unfold namesL; rw [decide_eq_false (p := ss.length ≤ 10) (by rw [HN.out]; exact h2)]; simp
        go_wp2
        go_ret
        exact ⟨ret_bool HE2.out.symm, hB.out⟩
theorem by_plain (z : Int) (ss : List ByteArray) : choice z ss = (decide (0 ≤ z ∧ z ≤ 2) && (namesL ss && (!decide (z = 0) || decide (ss.length = 0)))) := by
  by_cases h0 : z = 0
  · subst h0
    rw [choice_zero]
    cases ss with
    | nil => rfl
    | cons s r => simp
  · rw [choice_other h0]
    by_cases h1 : z = 1 ∨ z = 2
    · rw [decide_eq_true h1, decide_eq_true (p := 0 ≤ z ∧ z ≤ 2) (by omega), decide_eq_false h0]
      simp
    · rw [decide_eq_false h1, decide_eq_false (p := 0 ≤ z ∧ z ≤ 2) (by omega)]
      simp
set_option maxHeartbeats 2000000 in
theorem f138 (q : R) (w : World) (hl : Lst w q) (hf : Ft q) (hs : wt q ≤ 1048576) :
    Calls Tryz.prog 138 #[agR q] w fun e w' => e = .returned (.bool (choice q.byy q.ns)) ∧ Below w.heap.size w w' := by
  obtain ⟨kd, nu, st, tx, op, ms, ma, mc, off, fx, att, bo, byy, ns, na, nc, sd, es, ea, ec, kc⟩ := q
  unfold wt at hs
  simp only at hs
  have HL : Hid (HasT w na ns) := hl.n
  have HF := hid hf
  have HS : Hid (ns.length ≤ 1048576) := by unfold Hid; omega
  have HP := hid (by_plain byy ns)
  clear hl hf hs
  by_cases h0 : 0 ≤ byy
  · by_cases h1 : byy ≤ 2
    · have HD : Hid (decide (0 ≤ byy ∧ byy ≤ 2) = true) := decide_eq_true ⟨h0, h1⟩
      rcases two (namesL ns) with h2 | h2
      · by_cases h3 : byy = 0
        · subst h3
          have HB0 := hid ((Below.refl w.heap.size w).alloc (Nat.le_refl _) (.cells #[.int .i64 kd, .int .i64 nu, .int .i64 st, .string tx, .int .i64 op, .slice ma ms.length mc, .int .i64 off, .bool fx, .int .i64 att, .bool bo, .int .i64 0, .slice na ns.length nc, .int .i64 sd, .slice ea es.length ec, .int .i64 kc] 55))
          have HQ0 := hid (heap_alloc_new w (.cells #[.int .i64 kd, .int .i64 nu, .int .i64 st, .string tx, .int .i64 op, .slice ma ms.length mc, .int .i64 off, .bool fx, .int .i64 att, .bool bo, .int .i64 0, .slice na ns.length nc, .int .i64 sd, .slice ea es.length ec, .int .i64 kc] 55))
          go_enter Tryz.func138, Tryz.ntmps138
          go_wp2_with (go_at_call 139; refine (f139 na _ nc ns _ rfl HS.out HF.out.ns.1 (HL.out.below HB0.out)).mono ?_; rintro e w' ⟨rfl, hb2⟩; have HB2 := hid hb2; obtain ⟨c0, c1, c2, c3, c4, c5, c6, c7, c8, c9, c10, c11, c12, c13, c14⟩ := fifteen (kept HQ0.out hb2); clear hb2)
          go_ret
          exact ⟨ret_bool (by rw [HP.out, HD.out, h2, Bool.eq_iff_iff]; simp), HB0.out.trans (HB2.out.mono HB0.out.size)⟩
        · have HB0 := hid ((Below.refl w.heap.size w).alloc (Nat.le_refl _) (.cells #[.int .i64 kd, .int .i64 nu, .int .i64 st, .string tx, .int .i64 op, .slice ma ms.length mc, .int .i64 off, .bool fx, .int .i64 att, .bool bo, .int .i64 byy, .slice na ns.length nc, .int .i64 sd, .slice ea es.length ec, .int .i64 kc] 55))
          have HQ0 := hid (heap_alloc_new w (.cells #[.int .i64 kd, .int .i64 nu, .int .i64 st, .string tx, .int .i64 op, .slice ma ms.length mc, .int .i64 off, .bool fx, .int .i64 att, .bool bo, .int .i64 byy, .slice na ns.length nc, .int .i64 sd, .slice ea es.length ec, .int .i64 kc] 55))
          go_enter Tryz.func138, Tryz.ntmps138
          go_wp2_with (go_at_call 139; refine (f139 na _ nc ns _ rfl HS.out HF.out.ns.1 (HL.out.below HB0.out)).mono ?_; rintro e w' ⟨rfl, hb2⟩; have HB2 := hid hb2; obtain ⟨c0, c1, c2, c3, c4, c5, c6, c7, c8, c9, c10, c11, c12, c13, c14⟩ := fifteen (kept HQ0.out hb2); clear hb2)
          go_ret
          exact ⟨ret_bool (by rw [HP.out, HD.out, h2, decide_eq_false h3]; rfl), HB0.out.trans (HB2.out.mono HB0.out.size)⟩
      · have HB0 := hid ((Below.refl w.heap.size w).alloc (Nat.le_refl _) (.cells #[.int .i64 kd, .int .i64 nu, .int .i64 st, .string tx, .int .i64 op, .slice ma ms.length mc, .int .i64 off, .bool fx, .int .i64 att, .bool bo, .int .i64 byy, .slice na ns.length nc, .int .i64 sd, .slice ea es.length ec, .int .i64 kc] 55))
        have HQ0 := hid (heap_alloc_new w (.cells #[.int .i64 kd, .int .i64 nu, .int .i64 st, .string tx, .int .i64 op, .slice ma ms.length mc, .int .i64 off, .bool fx, .int .i64 att, .bool bo, .int .i64 byy, .slice na ns.length nc, .int .i64 sd, .slice ea es.length ec, .int .i64 kc] 55))
        go_enter Tryz.func138, Tryz.ntmps138
        go_wp2_with (go_at_call 139; refine (f139 na _ nc ns _ rfl HS.out HF.out.ns.1 (HL.out.below HB0.out)).mono ?_; rintro e w' ⟨rfl, hb2⟩; have HB2 := hid hb2; obtain ⟨c0, c1, c2, c3, c4, c5, c6, c7, c8, c9, c10, c11, c12, c13, c14⟩ := fifteen (kept HQ0.out hb2); clear hb2)
        go_ret
        exact ⟨ret_bool (by rw [HP.out, h2]; simp), HB0.out.trans (HB2.out.mono HB0.out.size)⟩
    · go_enter Tryz.func138, Tryz.ntmps138
      go_wp2
      go_ret
      exact ⟨ret_bool (by rw [HP.out, decide_eq_false (p := 0 ≤ byy ∧ byy ≤ 2) (by omega)]; rfl), (Below.refl _ _).alloc (Nat.le_refl _) _⟩
  · go_enter Tryz.func138, Tryz.ntmps138
    go_wp2
    go_ret
    exact ⟨ret_bool (by rw [HP.out, decide_eq_false (p := 0 ≤ byy ∧ byy ≤ 2) (by omega)]; rfl), (Below.refl _ _).alloc (Nat.le_refl _) _⟩
theorem f62 (z : Int) (w : World) : Calls Tryz.prog 62 #[.int .i64 z] w fun e w' => e = .returned (.bool (decide (6 ≤ z ∧ z ≤ 11))) ∧ w' = w := by
  go_enter Tryz.func62, Tryz.ntmps62
  go_wp2
  all_goals
    go_ret
    exact ⟨ret_bool (by rw [Bool.eq_iff_iff]; simp; omega), rfl⟩
end Go.Proofs.YtbdlahhejfamhaaGreatDoor.Qry
/- Texts among texts: what the model's l15SameTexts, l2Has, l15Functions, l15Aggs and l15Word come to. -/
namespace Go.Proofs.YtbdlahhejfamhaaGreatDoor.Qry
open Go.RowKit
open Go.Proofs.YtbdlahhejfamhaaGreatDoor.Pat (ret_bool)
open Go.Proofs.YtbdlahhejfamhaaGreatDoor.Fil (HasT FitT)

theorem str_eqS {a b : ByteArray} (h : a = b) : (a.toList == b.toList) = true := by rw [h]; simp
theorem str_neS {a b : ByteArray} (h : a ≠ b) : (a.toList == b.toList) = false := by
  rw [beq_eq_false_iff_ne]
  intro e
  rw [ByteArray.toList_eq, ByteArray.toList_eq] at e
  exact h (WideShapes.bytes_inj e)
theorem hasT_at2 {w : World} {a : Option Addr} {ss : List ByteArray} (h : HasT w a ss) (k : Nat) (hk : k < ss.length) : ∃ b off, a = some ⟨b, off, none⟩ ∧ b < w.heap.size ∧ w.cell? ⟨b, off + k, none⟩ = some (.string (ss.getD k ByteArray.empty)) := by
  rcases h with h | ⟨b, off, h1, h2, h3⟩
  · rw [h] at hk; simp at hk
  · exact ⟨b, off, h1, h2, h3 k hk⟩
theorem f140 (a : Option Addr) (n c : Nat) (ss : List ByteArray) (x : ByteArray) (w : World) (hn : ss.length = n) (hb : n ≤ 1048576) (hr : HasT w a ss) : Calls Tryz.prog 140 #[.slice a n c, .string x] w fun e w' => e = .returned (.bool (decide (x ∈ ss))) ∧ w' = w := by
  have HN := hid hn
  have HR := hid hr
  clear hn hr
  go_enter Tryz.func140, Tryz.ntmps140
  go_wp2
  go_loop [9] (fun i => ∃ k : Nat, k ≤ n ∧ i = .int .i64 k ∧ Hid (∀ i, i < k → ss.getD i ByteArray.empty ≠ x)) (fun i => n - (intOf i).toNat)
  case atStart => exact ⟨0, Nat.zero_le _, rfl, fun i hi => by omega⟩
  case round =>
    obtain ⟨k, hk, rfl, HU⟩ := hrel
    by_cases hlt : k < n
    · obtain ⟨b, off, rfl, hbl, c0⟩ := hasT_at2 HR.out k (by rw [HN.out]; exact hlt)
      have i1 : (k : Int) < (n : Int) := by omega
      by_cases he : ss.getD k ByteArray.empty = x
      · have HM : Hid (x ∈ ss) := by
          unfold Hid; rw [← he, List.getD_eq_getElem?_getD, List.getElem?_eq_getElem (by rw [HN.out]; exact hlt)]; simp
        have hq := str_eqS he
        clear he
        generalize ss.getD k ByteArray.empty = y at *
        go_wp2
        go_ret
        exact ⟨ret_bool (decide_eq_true HM.out).symm, rfl⟩
      · have HE := hid he
        have hq := str_neS he
        have HU2 : Hid (∀ i, i < k + 1 → ss.getD i ByteArray.empty ≠ x) := fun i hi => by
          by_cases e : i = k
          · subst e; exact HE.out
          · exact HU.out i (by omega)
        clear he
        generalize hy : ss.getD k ByteArray.empty = y at c0 hq
        clear hy
        go_wp2
        go_round
        case rel => exact ⟨k + 1, by omega, by go_num, HU2⟩
        case measure => simp [intOf]; omega
    · have HM : Hid (¬ x ∈ ss) := fun h => by
        obtain ⟨i, hi, e⟩ := List.getElem_of_mem h
        have := HU.out i (by have := HN.out; omega)
        rw [List.getD_eq_getElem?_getD, List.getElem?_eq_getElem hi] at this
        exact this (by simpa using e)
      go_wp2
      go_ret
      exact ⟨ret_bool (decide_eq_false HM.out).symm, rfl⟩
set_option maxHeartbeats 2000000 in
theorem f159 (a a' : Option Addr) (n n' c c' : Nat) (ss ss' : List ByteArray) (w : World) (hn : ss.length = n) (hn' : ss'.length = n') (hb : n ≤ 1048576) (hb' : n' ≤ 1048576) (hr : HasT w a ss) (hr' : HasT w a' ss') : Calls Tryz.prog 159 #[.slice a n c, .slice a' n' c'] w fun e w' => (∃ b, e = .returned (.bool b) ∧ (b = true ↔ ss = ss')) ∧ Below w.heap.size w w' := by
  have HN := hid hn
  have HN' := hid hn'
  have HR := hid hr
  have HR' := hid hr'
  clear hn hn' hr hr'
  by_cases hl : n = n'
  case neg =>
    have hq : ((n : Int) != (n' : Int)) = true := by rw [bne_iff_ne]; omega
    have HL := hid hl
    clear hl
    go_enter Tryz.func159, Tryz.ntmps159
    go_wp2
    go_ret
    exact ⟨⟨false, rfl, fun h => (by cases h), fun h => absurd (by rw [← HN.out, ← HN'.out, h]) HL.out⟩, Below.refl _ _⟩
  subst hl
  go_enter Tryz.func159, Tryz.ntmps159
  go_wp2
  go_loopw [13] (fun i wr => ∃ k : Nat, k ≤ n ∧ i = .int .i64 k ∧ Hid (∀ i, i < k → ss.getD i ByteArray.empty = ss'.getD i ByteArray.empty) ∧ Hid (Below w.heap.size w wr)) (fun i _ => n - (intOf i).toNat)
  case atStart => exact ⟨0, Nat.zero_le _, rfl, fun i hi => by omega, Below.refl _ _⟩
  case round =>
    obtain ⟨k, hk, rfl, HU, HB⟩ := hrel
    by_cases hlt : k < n
    · obtain ⟨b, off, rfl, hbl, c0⟩ := hasT_at2 HR.out k (by rw [HN.out]; exact hlt)
      obtain ⟨b', off', rfl, hbl', c0'⟩ := hasT_at2 HR'.out k (by rw [HN'.out]; exact hlt)
      have d0 : wr.drew.cell? ⟨b, off + k, none⟩ = some (.string (ss.getD k ByteArray.empty)) := (HB.out.drew.cell (p := ⟨b, off + k, none⟩) hbl).trans c0
      have d1 : wr.drew.cell? ⟨b', off' + k, none⟩ = some (.string (ss'.getD k ByteArray.empty)) := (HB.out.drew.cell (p := ⟨b', off' + k, none⟩) hbl').trans c0'
      have i1 : (k : Int) < (n : Int) := by omega
      have HBD := hid HB.out.drew
      clear c0 c0'
      by_cases he : ss.getD k ByteArray.empty = ss'.getD k ByteArray.empty
      · have HU2 : Hid (∀ i, i < k + 1 → ss.getD i ByteArray.empty = ss'.getD i ByteArray.empty) := fun i hi => by
          by_cases e : i = k
          · subst e; exact he
          · exact HU.out i (by omega)
        have hq : ((ss.getD k ByteArray.empty).toList == (ss'.getD k ByteArray.empty).toList) = true := str_eqS he
        clear he
        generalize ss.getD k ByteArray.empty = y at *
        generalize ss'.getD k ByteArray.empty = z at *
        go_wp2_with fail
        go_region_held3 (fun w' => w'.cell? ⟨b, off + k, none⟩ = some (.string y) ∧ w'.cell? ⟨b', off' + k, none⟩ = some (.string z)) (first | exact ⟨d0, d1⟩ | assumption) (first | fail)
        go_wp2
        go_roundw
        case rel => exact ⟨k + 1, by omega, by go_num, HU2, HBD⟩
        case measure => simp [intOf]; omega
      · have HE : Hid (ss ≠ ss') := fun h => he (by rw [h])
        have hq : ((ss.getD k ByteArray.empty).toList == (ss'.getD k ByteArray.empty).toList) = false := str_neS he
        clear he
        generalize ss.getD k ByteArray.empty = y at *
        generalize ss'.getD k ByteArray.empty = z at *
        go_wp2_with fail
        go_region_held3 (fun w' => w'.cell? ⟨b, off + k, none⟩ = some (.string y) ∧ w'.cell? ⟨b', off' + k, none⟩ = some (.string z)) (first | exact ⟨d0, d1⟩ | assumption) (first | fail)
        go_wp2
        go_ret
        exact ⟨⟨false, rfl, fun h => (by cases h), fun h => absurd h HE.out⟩, HBD.out⟩
    · have HE : Hid (ss = ss') := by
        unfold Hid
        apply List.ext_getElem (by rw [HN.out, HN'.out])
        intro i h1 h2
        have := HU.out i (by have := HN.out; omega)
        rw [List.getD_eq_getElem?_getD, List.getD_eq_getElem?_getD, List.getElem?_eq_getElem h1, List.getElem?_eq_getElem h2] at this
        simpa using this
      go_wp2
      go_ret
      exact ⟨⟨true, rfl, fun _ => HE.out, fun _ => rfl⟩, HB.out⟩
end Go.Proofs.YtbdlahhejfamhaaGreatDoor.Qry
