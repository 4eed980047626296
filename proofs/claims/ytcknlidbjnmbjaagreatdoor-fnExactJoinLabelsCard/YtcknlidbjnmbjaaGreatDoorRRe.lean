/- Good rules: what the model's GoodRelabel comes to. -/
import Derived.Test.YtcknlidbjnmbjaaGreatDoorRRd
namespace Go.Proofs.YtcknlidbjnmbjaaGreatDoor.Rel
open Go.RowKit Go.Proofs.YtcknlidbjnmbjaaGreatDoor.Fil

set_option maxHeartbeats 4000000 in
theorem f49 (r : Rule) (a : Option Addr) (n c : Nat) (w : World) (hn : r.from'.length = n) (hr : HasT w a r.from') (hz : SmlR r) :
    Calls Tryz.prog 49 #[agR r a n c] w fun e w' => e = .returned (.bool (goodR r)) ∧ Below w.heap.size w w' := by
  obtain ⟨A, ss, sep, pat, tgt, val, md⟩ := r
  obtain ⟨z1, z2, z3, z4, z5, z6⟩ := hz
  simp only at hn hr z1 z2 z3 z4 z5 z6
  have HN := hid hn
  have HZ := hid z2
  have HX : Hid (Rx w ⟨A, ss, sep, pat, tgt, val, md⟩ n c a _) := Rx.new hr
  have hnb : n ≤ 1048576 := by rw [← hn]; exact z1
  clear hn hr z1 z2
  simp only [agR]
  go_enter Tryz.func49, Tryz.ntmps49
  go_upto_region 1 with fail
  go_cut [38] from 7 to 38 (fun s38 wx => ∃ bb : Bool, s38 = .bool bb ∧ Hid (baseB ⟨A, ss, sep, pat, tgt, val, md⟩ = !bb) ∧ Hid (Rx w ⟨A, ss, sep, pat, tgt, val, md⟩ n c a wx))
  case first =>
    by_cases hA1 : A < 1
    · have HK : Hid (baseB ⟨A, ss, sep, pat, tgt, val, md⟩ = false) := by unfold Hid baseB; rw [decide_eq_false (by simp only; omega)]; rfl
      go_wp2
      go_meet
      exact ⟨true, rfl, HK, HX⟩
    by_cases hA8 : 8 < A
    · have HK : Hid (baseB ⟨A, ss, sep, pat, tgt, val, md⟩ = false) := by unfold Hid baseB; rw [decide_eq_false (by simp only; omega)]; rfl
      go_wp2
      go_meet
      exact ⟨true, rfl, HK, HX⟩
    have HA : Hid (decide (1 ≤ A ∧ A ≤ 8) = true) := decide_eq_true (by omega)
    by_cases h10 : 10 < n
    · have HK : Hid (baseB ⟨A, ss, sep, pat, tgt, val, md⟩ = false) := by unfold Hid baseB; simp only; rw [HN.out, decide_eq_false (p := n ≤ 10) (by omega)]; simp
      go_wp2
      go_meet
      exact ⟨true, rfl, HK, HX⟩
    have H10 : Hid (decide (ss.length ≤ 10) = true) := decide_eq_true (by rw [HN.out]; omega)
    by_cases hs10 : 10 < sep.size
    · have HK : Hid (baseB ⟨A, ss, sep, pat, tgt, val, md⟩ = false) := by unfold Hid baseB; simp only; rw [decide_eq_false (p := sep.size ≤ 10) (by omega)]; simp
      go_wp2
      go_meet
      exact ⟨true, rfl, HK, HX⟩
    have HS10 : Hid (decide (sep.size ≤ 10) = true) := decide_eq_true (by omega)
    by_cases hp : pr sep = true
    · by_cases hq : Pat.patB pat = true
      · have HK : Hid (baseB ⟨A, ss, sep, pat, tgt, val, md⟩ = true) := by unfold Hid baseB; simp only; rw [HA.out, H10.out, HS10.out, hp, hq]; rfl
        unfold pr at hp
        go_wp2_with (first | (go_at_call 52; refine (Pat.f52 sep _ (by unfold maxLen; omega)).mono ?_; rintro e w' ⟨rfl, hw'⟩; have hw2 := hw'.symm; clear hw'; subst hw2) | (go_at_call 66; refine (Pat.f66 pat _ (by unfold maxLen; omega)).mono ?_; rintro e w2 ⟨rfl, hb2⟩; have HX2 := hid (HX.out.below hb2); clear hb2))
        go_meet
        exact ⟨false, by simp; omega, HK, HX2⟩
      · have hq' : Pat.patB pat = false := by simpa using hq
        have HK : Hid (baseB ⟨A, ss, sep, pat, tgt, val, md⟩ = false) := by unfold Hid baseB; simp only; rw [hq']; simp
        unfold pr at hp
        clear hq
        go_wp2_with (first | (go_at_call 52; refine (Pat.f52 sep _ (by unfold maxLen; omega)).mono ?_; rintro e w' ⟨rfl, hw'⟩; have hw2 := hw'.symm; clear hw'; subst hw2) | (go_at_call 66; refine (Pat.f66 pat _ (by unfold maxLen; omega)).mono ?_; rintro e w2 ⟨rfl, hb2⟩; have HX2 := hid (HX.out.below hb2); clear hb2))
        go_meet
        exact ⟨true, by simp, HK, HX2⟩
    · have hp' : pr sep = false := by simpa using hp
      have HK : Hid (baseB ⟨A, ss, sep, pat, tgt, val, md⟩ = false) := by unfold Hid baseB; simp only; rw [hp']; simp
      unfold pr at hp'
      clear hp
      go_wp2_with (go_at_call 52; refine (Pat.f52 sep _ (by unfold maxLen; omega)).mono ?_; rintro e w' ⟨rfl, hw'⟩; have hw2 := hw'.symm; clear hw'; subst hw2)
      go_meet
      exact ⟨true, rfl, HK, HX⟩
  case rest =>
  clear HX
  obtain ⟨bb, rfl, HBB, HX⟩ := hcut
  cases bb
  rotate_left
  · have HK := hid (good_base HBB.out)
    go_wp2
    go_ret
    exact ⟨ret_bool HK.out.symm, HX.out.bel⟩
  have hb : baseB ⟨A, ss, sep, pat, tgt, val, md⟩ = true := HBB.out
  have HGK := hid (good_kind hb)
  have HGN := hid (good_names (r := ⟨A, ss, sep, pat, tgt, val, md⟩))
  have hAA : 1 ≤ A ∧ A ≤ 8 := by
    unfold baseB at hb
    simp only [Bool.and_eq_true, decide_eq_true_eq] at hb
    exact hb.1
  clear hb HBB
  obtain ⟨b0, b1, b2, b3, b4, b5, b6⟩ := cells7 HX.out.one
  go_wp2
  go_loop [42] (fun i => ∃ k : Nat, k ≤ n ∧ i = .int .i64 k ∧ Hid (namesB (ss.take k) = true)) (fun i => n - (intOf i).toNat)
  case atStart => exact ⟨0, Nat.zero_le _, rfl, rfl⟩
  case round =>
    obtain ⟨k, hk, rfl, HU⟩ := hrel
    by_cases hlt : k < n
    · rcases HX.out.txt with hr | ⟨b, off, rfl, hbl, hc⟩
      · exact absurd HN.out (by simp only at hr; rw [hr]; simp; omega)
      have c0 := hc k (by simp only; rw [HN.out]; exact hlt)
      have hsz := HZ.out k (by rw [HN.out]; exact hlt)
      have HS := hid (names_succ (ss := ss) (k := k) (by rw [HN.out]; exact hlt) HU.out)
      have HF := hid (names_no (ss := ss) (k := k) (by rw [HN.out]; exact hlt))
      clear hc
      simp only at c0
      generalize ss.getD k ByteArray.empty = s at *
      by_cases hnm : nm s = true
      · have HS2 := hid (HS.out hnm)
        unfold nm at hnm
        go_wp2_with (go_at_call 32; refine (Pat.f32 s _ (by unfold maxLen; omega)).mono ?_; rintro e w' ⟨rfl, hw'⟩; have hw2 := hw'.symm; clear hw'; subst hw2)
        go_round
        case rel => exact ⟨k + 1, by omega, by go_num, HS2.out⟩
        case measure => simp [intOf]; omega
      · have hnm' : nm s = false := by simpa using hnm
        have HF2 := hid (HGN.out (HF.out hnm'))
        unfold nm at hnm'
        clear hnm
        go_wp2_with (go_at_call 32; refine (Pat.f32 s _ (by unfold maxLen; omega)).mono ?_; rintro e w' ⟨rfl, hw'⟩; have hw2 := hw'.symm; clear hw'; subst hw2)
        go_ret
        exact ⟨ret_bool HF2.out.symm, HX.out.bel⟩
    · obtain rfl : k = n := by omega
      have HG := hid (HGK.out (names_all (by rw [HN.out]; omega) HU.out))
      clear HGK HGN HU HZ
      rcases (show A = 1 ∨ A = 2 ∨ A = 3 ∨ A = 4 ∨ A = 5 ∨ A = 6 ∨ A = 7 ∨ A = 8 by omega) with rfl | rfl | rfl | rfl | rfl | rfl | rfl | rfl
      · by_cases q4 : tgt.toList.isEmpty = true
        rotate_left
        · have q4' : tgt.toList.isEmpty = false := by simpa using q4
          have HE : Hid (em tgt = false) := q4'
          clear q4
          have HK : Hid (goodR ⟨1, ss, sep, pat, tgt, val, md⟩ = false) := by unfold Hid; rw [HG.out]; simp [kindB, HE.out]
          go_wp2
          go_ret
          exact ⟨ret_bool HK.out.symm, HX.out.bel⟩
        have q4E : Hid (em tgt = true) := q4
        by_cases q5 : val.toList.isEmpty = true
        rotate_left
        · have q5' : val.toList.isEmpty = false := by simpa using q5
          have HE : Hid (em val = false) := q5'
          clear q5
          have HK : Hid (goodR ⟨1, ss, sep, pat, tgt, val, md⟩ = false) := by unfold Hid; rw [HG.out]; simp [kindB, q4E.out, HE.out]
          go_wp2
          go_ret
          exact ⟨ret_bool HK.out.symm, HX.out.bel⟩
        have q5E : Hid (em val = true) := q5
        by_cases q8 : md = 0
        · have HK : Hid (goodR ⟨1, ss, sep, pat, tgt, val, md⟩ = true) := by unfold Hid; rw [HG.out]; simp [kindB, q8, q4E.out, q5E.out]
          subst q8
          go_wp2
          go_ret
          exact ⟨ret_bool HK.out.symm, HX.out.bel⟩
        · have HK : Hid (goodR ⟨1, ss, sep, pat, tgt, val, md⟩ = false) := by unfold Hid; rw [HG.out]; simp [kindB, q8]
          have q8' : (md == 0) = false := by simp [q8]
          clear q8
          go_wp2
          go_ret
          exact ⟨ret_bool HK.out.symm, HX.out.bel⟩
      · by_cases q4 : tgt.toList.isEmpty = true
        rotate_left
        · have q4' : tgt.toList.isEmpty = false := by simpa using q4
          have HE : Hid (em tgt = false) := q4'
          clear q4
          have HK : Hid (goodR ⟨2, ss, sep, pat, tgt, val, md⟩ = false) := by unfold Hid; rw [HG.out]; simp [kindB, HE.out]
          go_wp2
          go_ret
          exact ⟨ret_bool HK.out.symm, HX.out.bel⟩
        have q4E : Hid (em tgt = true) := q4
        by_cases q5 : val.toList.isEmpty = true
        rotate_left
        · have q5' : val.toList.isEmpty = false := by simpa using q5
          have HE : Hid (em val = false) := q5'
          clear q5
          have HK : Hid (goodR ⟨2, ss, sep, pat, tgt, val, md⟩ = false) := by unfold Hid; rw [HG.out]; simp [kindB, q4E.out, HE.out]
          go_wp2
          go_ret
          exact ⟨ret_bool HK.out.symm, HX.out.bel⟩
        have q5E : Hid (em val = true) := q5
        by_cases q8 : md = 0
        · have HK : Hid (goodR ⟨2, ss, sep, pat, tgt, val, md⟩ = true) := by unfold Hid; rw [HG.out]; simp [kindB, q8, q4E.out, q5E.out]
          subst q8
          go_wp2
          go_ret
          exact ⟨ret_bool HK.out.symm, HX.out.bel⟩
        · have HK : Hid (goodR ⟨2, ss, sep, pat, tgt, val, md⟩ = false) := by unfold Hid; rw [HG.out]; simp [kindB, q8]
          have q8' : (md == 0) = false := by simp [q8]
          clear q8
          go_wp2
          go_ret
          exact ⟨ret_bool HK.out.symm, HX.out.bel⟩
      · by_cases q6 : nm tgt = true
        rotate_left
        · have q6' : nm tgt = false := by simpa using q6
          have HE : Hid (nm tgt = false) := q6'
          clear q6
          unfold nm at q6'
          have HK : Hid (goodR ⟨3, ss, sep, pat, tgt, val, md⟩ = false) := by unfold Hid; rw [HG.out]; simp [kindB, HE.out]
          go_wp2_with (first | (go_at_call 32; refine (Pat.f32 tgt _ (by unfold maxLen; omega)).mono ?_; rintro e w' ⟨rfl, hw'⟩; have hw2 := hw'.symm; clear hw'; subst hw2))
          go_ret
          exact ⟨ret_bool HK.out.symm, HX.out.bel⟩
        have q6E : Hid (nm tgt = true) := q6
        unfold nm at q6
        by_cases q7 : filB val = true
        rotate_left
        · have q7' : filB val = false := by simpa using q7
          have HE : Hid (filB val = false) := q7'
          clear q7
          have HK : Hid (goodR ⟨3, ss, sep, pat, tgt, val, md⟩ = false) := by unfold Hid; rw [HG.out]; simp [kindB, q6E.out, HE.out]
          go_wp2_with (first | (go_at_call 32; refine (Pat.f32 tgt _ (by unfold maxLen; omega)).mono ?_; rintro e w' ⟨rfl, hw'⟩; have hw2 := hw'.symm; clear hw'; subst hw2) | (go_at_call 67; refine (f67 val _ (by unfold maxLen; omega)).mono ?_; rintro e w' ⟨rfl, hw'⟩; have hw2 := hw'.symm; clear hw'; subst hw2))
          go_ret
          exact ⟨ret_bool HK.out.symm, HX.out.bel⟩
        have q7E : Hid (filB val = true) := q7
        by_cases q8 : md = 0
        · have HK : Hid (goodR ⟨3, ss, sep, pat, tgt, val, md⟩ = true) := by unfold Hid; rw [HG.out]; simp [kindB, q8, q6E.out, q7E.out]
          subst q8
          go_wp2_with (first | (go_at_call 32; refine (Pat.f32 tgt _ (by unfold maxLen; omega)).mono ?_; rintro e w' ⟨rfl, hw'⟩; have hw2 := hw'.symm; clear hw'; subst hw2) | (go_at_call 67; refine (f67 val _ (by unfold maxLen; omega)).mono ?_; rintro e w' ⟨rfl, hw'⟩; have hw2 := hw'.symm; clear hw'; subst hw2))
          go_ret
          exact ⟨ret_bool HK.out.symm, HX.out.bel⟩
        · have HK : Hid (goodR ⟨3, ss, sep, pat, tgt, val, md⟩ = false) := by unfold Hid; rw [HG.out]; simp [kindB, q8]
          have q8' : (md == 0) = false := by simp [q8]
          clear q8
          go_wp2_with (first | (go_at_call 32; refine (Pat.f32 tgt _ (by unfold maxLen; omega)).mono ?_; rintro e w' ⟨rfl, hw'⟩; have hw2 := hw'.symm; clear hw'; subst hw2) | (go_at_call 67; refine (f67 val _ (by unfold maxLen; omega)).mono ?_; rintro e w' ⟨rfl, hw'⟩; have hw2 := hw'.symm; clear hw'; subst hw2))
          go_ret
          exact ⟨ret_bool HK.out.symm, HX.out.bel⟩
      · by_cases q3 : pat.toList.isEmpty = true
        rotate_left
        · have q3' : pat.toList.isEmpty = false := by simpa using q3
          have HE : Hid (em pat = false) := q3'
          clear q3
          have HK : Hid (goodR ⟨4, ss, sep, pat, tgt, val, md⟩ = false) := by unfold Hid; rw [HG.out]; simp [kindB, HE.out]
          go_wp2
          go_ret
          exact ⟨ret_bool HK.out.symm, HX.out.bel⟩
        have q3E : Hid (em pat = true) := q3
        by_cases q6 : nm tgt = true
        rotate_left
        · have q6' : nm tgt = false := by simpa using q6
          have HE : Hid (nm tgt = false) := q6'
          clear q6
          unfold nm at q6'
          have HK : Hid (goodR ⟨4, ss, sep, pat, tgt, val, md⟩ = false) := by unfold Hid; rw [HG.out]; simp [kindB, q3E.out, HE.out]
          go_wp2_with (first | (go_at_call 32; refine (Pat.f32 tgt _ (by unfold maxLen; omega)).mono ?_; rintro e w' ⟨rfl, hw'⟩; have hw2 := hw'.symm; clear hw'; subst hw2))
          go_ret
          exact ⟨ret_bool HK.out.symm, HX.out.bel⟩
        have q6E : Hid (nm tgt = true) := q6
        unfold nm at q6
        by_cases q5 : val.toList.isEmpty = true
        rotate_left
        · have q5' : val.toList.isEmpty = false := by simpa using q5
          have HE : Hid (em val = false) := q5'
          clear q5
          have HK : Hid (goodR ⟨4, ss, sep, pat, tgt, val, md⟩ = false) := by unfold Hid; rw [HG.out]; simp [kindB, q3E.out, q6E.out, HE.out]
          go_wp2_with (first | (go_at_call 32; refine (Pat.f32 tgt _ (by unfold maxLen; omega)).mono ?_; rintro e w' ⟨rfl, hw'⟩; have hw2 := hw'.symm; clear hw'; subst hw2))
          go_ret
          exact ⟨ret_bool HK.out.symm, HX.out.bel⟩
        have q5E : Hid (em val = true) := q5
        by_cases q9 : md < 1
        · have HK : Hid (goodR ⟨4, ss, sep, pat, tgt, val, md⟩ = false) := by unfold Hid; rw [HG.out]; simp only [kindB]; rw [decide_eq_false (p := 1 ≤ md ∧ md ≤ 1000) (by omega)]; simp
          go_wp2_with (first | (go_at_call 32; refine (Pat.f32 tgt _ (by unfold maxLen; omega)).mono ?_; rintro e w' ⟨rfl, hw'⟩; have hw2 := hw'.symm; clear hw'; subst hw2))
          go_ret
          exact ⟨ret_bool HK.out.symm, HX.out.bel⟩
        by_cases q10 : 1000 < md
        · have HK : Hid (goodR ⟨4, ss, sep, pat, tgt, val, md⟩ = false) := by unfold Hid; rw [HG.out]; simp only [kindB]; rw [decide_eq_false (p := 1 ≤ md ∧ md ≤ 1000) (by omega)]; simp
          go_wp2_with (first | (go_at_call 32; refine (Pat.f32 tgt _ (by unfold maxLen; omega)).mono ?_; rintro e w' ⟨rfl, hw'⟩; have hw2 := hw'.symm; clear hw'; subst hw2))
          go_ret
          exact ⟨ret_bool (by rw [HK.out, decide_eq_false (by omega)]), HX.out.bel⟩
        have HK : Hid (goodR ⟨4, ss, sep, pat, tgt, val, md⟩ = true) := by unfold Hid; rw [HG.out]; simp only [kindB]; rw [decide_eq_true (p := 1 ≤ md ∧ md ≤ 1000) (by omega)]; simp [q3E.out, q6E.out, q5E.out]
        go_wp2_with (first | (go_at_call 32; refine (Pat.f32 tgt _ (by unfold maxLen; omega)).mono ?_; rintro e w' ⟨rfl, hw'⟩; have hw2 := hw'.symm; clear hw'; subst hw2))
        go_ret
        exact ⟨ret_bool HK.out.symm, HX.out.bel⟩
      · by_cases q1 : k = 0
        rotate_left
        · have q1p : 0 < (k : Int) := by omega
          have HK : Hid (goodR ⟨5, ss, sep, pat, tgt, val, md⟩ = false) := by unfold Hid; rw [HG.out]; simp only [kindB]; simp; intro h; exact absurd HN.out (by simp only [h]; simp; omega)
          go_wp2
          go_ret
          exact ⟨ret_bool HK.out.symm, HX.out.bel⟩
        subst q1
        obtain rfl : ss = [] := List.length_eq_zero_iff.1 HN.out
        by_cases q2 : sep.toList.isEmpty = true
        rotate_left
        · have q2' : sep.toList.isEmpty = false := by simpa using q2
          have HE : Hid (em sep = false) := q2'
          clear q2
          have HK : Hid (goodR ⟨5, [], sep, pat, tgt, val, md⟩ = false) := by unfold Hid; rw [HG.out]; simp [kindB, HE.out]
          go_wp2
          go_ret
          exact ⟨ret_bool HK.out.symm, HX.out.bel⟩
        have q2E : Hid (em sep = true) := q2
        by_cases q4 : tgt.toList.isEmpty = true
        rotate_left
        · have q4' : tgt.toList.isEmpty = false := by simpa using q4
          have HE : Hid (em tgt = false) := q4'
          clear q4
          have HK : Hid (goodR ⟨5, [], sep, pat, tgt, val, md⟩ = false) := by unfold Hid; rw [HG.out]; simp [kindB, q2E.out, HE.out]
          go_wp2
          go_ret
          exact ⟨ret_bool HK.out.symm, HX.out.bel⟩
        have q4E : Hid (em tgt = true) := q4
        by_cases q7 : filB val = true
        rotate_left
        · have q7' : filB val = false := by simpa using q7
          have HE : Hid (filB val = false) := q7'
          clear q7
          have HK : Hid (goodR ⟨5, [], sep, pat, tgt, val, md⟩ = false) := by unfold Hid; rw [HG.out]; simp [kindB, q2E.out, q4E.out, HE.out]
          go_wp2_with (first | (go_at_call 67; refine (f67 val _ (by unfold maxLen; omega)).mono ?_; rintro e w' ⟨rfl, hw'⟩; have hw2 := hw'.symm; clear hw'; subst hw2))
          go_ret
          exact ⟨ret_bool HK.out.symm, HX.out.bel⟩
        have q7E : Hid (filB val = true) := q7
        by_cases q8 : md = 0
        · have HK : Hid (goodR ⟨5, [], sep, pat, tgt, val, md⟩ = true) := by unfold Hid; rw [HG.out]; simp [kindB, q8, q2E.out, q4E.out, q7E.out]
          subst q8
          go_wp2_with (first | (go_at_call 67; refine (f67 val _ (by unfold maxLen; omega)).mono ?_; rintro e w' ⟨rfl, hw'⟩; have hw2 := hw'.symm; clear hw'; subst hw2))
          go_ret
          exact ⟨ret_bool HK.out.symm, HX.out.bel⟩
        · have HK : Hid (goodR ⟨5, [], sep, pat, tgt, val, md⟩ = false) := by unfold Hid; rw [HG.out]; simp [kindB, q8]
          have q8' : (md == 0) = false := by simp [q8]
          clear q8
          go_wp2_with (first | (go_at_call 67; refine (f67 val _ (by unfold maxLen; omega)).mono ?_; rintro e w' ⟨rfl, hw'⟩; have hw2 := hw'.symm; clear hw'; subst hw2))
          go_ret
          exact ⟨ret_bool HK.out.symm, HX.out.bel⟩
      · by_cases q1 : k = 0
        rotate_left
        · have q1p : 0 < (k : Int) := by omega
          have HK : Hid (goodR ⟨6, ss, sep, pat, tgt, val, md⟩ = false) := by unfold Hid; rw [HG.out]; simp only [kindB]; simp; intro h; exact absurd HN.out (by simp only [h]; simp; omega)
          go_wp2
          go_ret
          exact ⟨ret_bool HK.out.symm, HX.out.bel⟩
        subst q1
        obtain rfl : ss = [] := List.length_eq_zero_iff.1 HN.out
        by_cases q2 : sep.toList.isEmpty = true
        rotate_left
        · have q2' : sep.toList.isEmpty = false := by simpa using q2
          have HE : Hid (em sep = false) := q2'
          clear q2
          have HK : Hid (goodR ⟨6, [], sep, pat, tgt, val, md⟩ = false) := by unfold Hid; rw [HG.out]; simp [kindB, HE.out]
          go_wp2
          go_ret
          exact ⟨ret_bool HK.out.symm, HX.out.bel⟩
        have q2E : Hid (em sep = true) := q2
        by_cases q4 : tgt.toList.isEmpty = true
        rotate_left
        · have q4' : tgt.toList.isEmpty = false := by simpa using q4
          have HE : Hid (em tgt = false) := q4'
          clear q4
          have HK : Hid (goodR ⟨6, [], sep, pat, tgt, val, md⟩ = false) := by unfold Hid; rw [HG.out]; simp [kindB, q2E.out, HE.out]
          go_wp2
          go_ret
          exact ⟨ret_bool HK.out.symm, HX.out.bel⟩
        have q4E : Hid (em tgt = true) := q4
        by_cases q5 : val.toList.isEmpty = true
        rotate_left
        · have q5' : val.toList.isEmpty = false := by simpa using q5
          have HE : Hid (em val = false) := q5'
          clear q5
          have HK : Hid (goodR ⟨6, [], sep, pat, tgt, val, md⟩ = false) := by unfold Hid; rw [HG.out]; simp [kindB, q2E.out, q4E.out, HE.out]
          go_wp2
          go_ret
          exact ⟨ret_bool HK.out.symm, HX.out.bel⟩
        have q5E : Hid (em val = true) := q5
        by_cases q8 : md = 0
        · have HK : Hid (goodR ⟨6, [], sep, pat, tgt, val, md⟩ = true) := by unfold Hid; rw [HG.out]; simp [kindB, q8, q2E.out, q4E.out, q5E.out]
          subst q8
          go_wp2
          go_ret
          exact ⟨ret_bool HK.out.symm, HX.out.bel⟩
        · have HK : Hid (goodR ⟨6, [], sep, pat, tgt, val, md⟩ = false) := by unfold Hid; rw [HG.out]; simp [kindB, q8]
          have q8' : (md == 0) = false := by simp [q8]
          clear q8
          go_wp2
          go_ret
          exact ⟨ret_bool HK.out.symm, HX.out.bel⟩
      · by_cases q1 : k = 0
        rotate_left
        · have q1p : 0 < (k : Int) := by omega
          have HK : Hid (goodR ⟨7, ss, sep, pat, tgt, val, md⟩ = false) := by unfold Hid; rw [HG.out]; simp only [kindB]; simp; intro h; exact absurd HN.out (by simp only [h]; simp; omega)
          go_wp2
          go_ret
          exact ⟨ret_bool HK.out.symm, HX.out.bel⟩
        subst q1
        obtain rfl : ss = [] := List.length_eq_zero_iff.1 HN.out
        by_cases q2 : sep.toList.isEmpty = true
        rotate_left
        · have q2' : sep.toList.isEmpty = false := by simpa using q2
          have HE : Hid (em sep = false) := q2'
          clear q2
          have HK : Hid (goodR ⟨7, [], sep, pat, tgt, val, md⟩ = false) := by unfold Hid; rw [HG.out]; simp [kindB, HE.out]
          go_wp2
          go_ret
          exact ⟨ret_bool HK.out.symm, HX.out.bel⟩
        have q2E : Hid (em sep = true) := q2
        by_cases q4 : tgt.toList.isEmpty = true
        rotate_left
        · have q4' : tgt.toList.isEmpty = false := by simpa using q4
          have HE : Hid (em tgt = false) := q4'
          clear q4
          have HK : Hid (goodR ⟨7, [], sep, pat, tgt, val, md⟩ = false) := by unfold Hid; rw [HG.out]; simp [kindB, q2E.out, HE.out]
          go_wp2
          go_ret
          exact ⟨ret_bool HK.out.symm, HX.out.bel⟩
        have q4E : Hid (em tgt = true) := q4
        by_cases q5 : val.toList.isEmpty = true
        rotate_left
        · have q5' : val.toList.isEmpty = false := by simpa using q5
          have HE : Hid (em val = false) := q5'
          clear q5
          have HK : Hid (goodR ⟨7, [], sep, pat, tgt, val, md⟩ = false) := by unfold Hid; rw [HG.out]; simp [kindB, q2E.out, q4E.out, HE.out]
          go_wp2
          go_ret
          exact ⟨ret_bool HK.out.symm, HX.out.bel⟩
        have q5E : Hid (em val = true) := q5
        by_cases q8 : md = 0
        · have HK : Hid (goodR ⟨7, [], sep, pat, tgt, val, md⟩ = true) := by unfold Hid; rw [HG.out]; simp [kindB, q8, q2E.out, q4E.out, q5E.out]
          subst q8
          go_wp2
          go_ret
          exact ⟨ret_bool HK.out.symm, HX.out.bel⟩
        · have HK : Hid (goodR ⟨7, [], sep, pat, tgt, val, md⟩ = false) := by unfold Hid; rw [HG.out]; simp [kindB, q8]
          have q8' : (md == 0) = false := by simp [q8]
          clear q8
          go_wp2
          go_ret
          exact ⟨ret_bool HK.out.symm, HX.out.bel⟩
      · by_cases q3 : pat.toList.isEmpty = true
        rotate_left
        · have q3' : pat.toList.isEmpty = false := by simpa using q3
          have HE : Hid (em pat = false) := q3'
          clear q3
          have HK : Hid (goodR ⟨8, ss, sep, pat, tgt, val, md⟩ = false) := by unfold Hid; rw [HG.out]; simp [kindB, HE.out]
          go_wp2
          go_ret
          exact ⟨ret_bool HK.out.symm, HX.out.bel⟩
        have q3E : Hid (em pat = true) := q3
        by_cases q6 : nm tgt = true
        rotate_left
        · have q6' : nm tgt = false := by simpa using q6
          have HE : Hid (nm tgt = false) := q6'
          clear q6
          unfold nm at q6'
          have HK : Hid (goodR ⟨8, ss, sep, pat, tgt, val, md⟩ = false) := by unfold Hid; rw [HG.out]; simp [kindB, q3E.out, HE.out]
          go_wp2_with (first | (go_at_call 32; refine (Pat.f32 tgt _ (by unfold maxLen; omega)).mono ?_; rintro e w' ⟨rfl, hw'⟩; have hw2 := hw'.symm; clear hw'; subst hw2))
          go_ret
          exact ⟨ret_bool HK.out.symm, HX.out.bel⟩
        have q6E : Hid (nm tgt = true) := q6
        unfold nm at q6
        by_cases q5 : val.toList.isEmpty = true
        rotate_left
        · have q5' : val.toList.isEmpty = false := by simpa using q5
          have HE : Hid (em val = false) := q5'
          clear q5
          have HK : Hid (goodR ⟨8, ss, sep, pat, tgt, val, md⟩ = false) := by unfold Hid; rw [HG.out]; simp [kindB, q3E.out, q6E.out, HE.out]
          go_wp2_with (first | (go_at_call 32; refine (Pat.f32 tgt _ (by unfold maxLen; omega)).mono ?_; rintro e w' ⟨rfl, hw'⟩; have hw2 := hw'.symm; clear hw'; subst hw2))
          go_ret
          exact ⟨ret_bool HK.out.symm, HX.out.bel⟩
        have q5E : Hid (em val = true) := q5
        by_cases q8 : md = 0
        · have HK : Hid (goodR ⟨8, ss, sep, pat, tgt, val, md⟩ = true) := by unfold Hid; rw [HG.out]; simp [kindB, q8, q3E.out, q6E.out, q5E.out]
          subst q8
          go_wp2_with (first | (go_at_call 32; refine (Pat.f32 tgt _ (by unfold maxLen; omega)).mono ?_; rintro e w' ⟨rfl, hw'⟩; have hw2 := hw'.symm; clear hw'; subst hw2))
          go_ret
          exact ⟨ret_bool HK.out.symm, HX.out.bel⟩
        · have HK : Hid (goodR ⟨8, ss, sep, pat, tgt, val, md⟩ = false) := by unfold Hid; rw [HG.out]; simp [kindB, q8]
          have q8' : (md == 0) = false := by simp [q8]
          clear q8
          go_wp2_with (first | (go_at_call 32; refine (Pat.f32 tgt _ (by unfold maxLen; omega)).mono ?_; rintro e w' ⟨rfl, hw'⟩; have hw2 := hw'.symm; clear hw'; subst hw2))
          go_ret
          exact ⟨ret_bool HK.out.symm, HX.out.bel⟩
end Go.Proofs.YtcknlidbjnmbjaaGreatDoor.Rel
