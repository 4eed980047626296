/- The text of a rule: what the model's l4Text comes to. -/
import Derived.Test.YtbijhkbmgljjiaaGreatDoorRt
import Derived.Deep.CutRange
namespace Go.Proofs.YtbijhkbmgljjiaaGreatDoor.Rel
open Go.RowKit Go.Proofs.YtbijhkbmgljjiaaGreatDoor.Fil

set_option maxHeartbeats 4000000 in
theorem f17 (r : Rule) (a : Option Addr) (n c : Nat) (w : World) (hn : r.from'.length = n) (hr : HasT w a r.from') (hz : SmlR r) (hA : 1 ≤ r.act ∧ r.act ≤ 8) (hm : 0 ≤ r.md ∧ r.md ≤ 1000) :
    Calls Tryz.prog 17 #[agR r a n c] w fun e w' => e = .returned (.string (mkS (txtR r))) ∧ Below w.heap.size w w' := by
  obtain ⟨A, ss, sep, pat, tgt, val, md⟩ := r
  have HS := hid hz
  obtain ⟨z1, z2, z3, z4, z5, z6⟩ := hz
  simp only at hn hr z1 z2 z3 z4 z5 z6 hA hm
  have HN := hid hn
  have HZ := hid z2
  have HX : Hid (Rx w ⟨A, ss, sep, pat, tgt, val, md⟩ n c a _) := Rx.new hr
  have hnb : n ≤ 1048576 := by rw [← hn]; exact z1
  clear hn hr z1 z2
  simp only [agR]
  go_enter Tryz.func17, Tryz.ntmps17
  go_upto_region 1 with fail
  go_cut [3] from 6 to 10 (fun s3 wx => s3 = .string (mkS (wd A)) ∧ Hid (Rx w ⟨A, ss, sep, pat, tgt, val, md⟩ n c a wx))
  case first =>
    rcases (show A = 1 ∨ A = 2 ∨ A = 3 ∨ A = 4 ∨ A = 5 ∨ A = 6 ∨ A = 7 ∨ A = 8 by omega) with rfl | rfl | rfl | rfl | rfl | rfl | rfl | rfl
    · go_region_with (go_at_call 11; refine (f11 _).mono ?_; rintro e w2 ⟨rfl, rfl⟩)
      all_goals
        go_wp2_with fail
        go_meet
        exact ⟨rfl, HX.out.below (((Below.refl _ _).alloc (Nat.le_refl _) _).drew)⟩
    · go_region_with (go_at_call 11; refine (f11 _).mono ?_; rintro e w2 ⟨rfl, rfl⟩)
      all_goals
        go_wp2_with fail
        go_meet
        exact ⟨rfl, HX.out.below (((Below.refl _ _).alloc (Nat.le_refl _) _).drew)⟩
    · go_region_with (go_at_call 11; refine (f11 _).mono ?_; rintro e w2 ⟨rfl, rfl⟩)
      all_goals
        go_wp2_with fail
        go_meet
        exact ⟨rfl, HX.out.below (((Below.refl _ _).alloc (Nat.le_refl _) _).drew)⟩
    · go_region_with (go_at_call 11; refine (f11 _).mono ?_; rintro e w2 ⟨rfl, rfl⟩)
      all_goals
        go_wp2_with fail
        go_meet
        exact ⟨rfl, HX.out.below (((Below.refl _ _).alloc (Nat.le_refl _) _).drew)⟩
    · go_region_with (go_at_call 11; refine (f11 _).mono ?_; rintro e w2 ⟨rfl, rfl⟩)
      all_goals
        go_wp2_with fail
        go_meet
        exact ⟨rfl, HX.out.below (((Below.refl _ _).alloc (Nat.le_refl _) _).drew)⟩
    · go_region_with (go_at_call 11; refine (f11 _).mono ?_; rintro e w2 ⟨rfl, rfl⟩)
      all_goals
        go_wp2_with fail
        go_meet
        exact ⟨rfl, HX.out.below (((Below.refl _ _).alloc (Nat.le_refl _) _).drew)⟩
    · go_region_with (go_at_call 11; refine (f11 _).mono ?_; rintro e w2 ⟨rfl, rfl⟩)
      all_goals
        go_wp2_with fail
        go_meet
        exact ⟨rfl, HX.out.below (((Below.refl _ _).alloc (Nat.le_refl _) _).drew)⟩
    · go_region_with (go_at_call 11; refine (f11 _).mono ?_; rintro e w2 ⟨rfl, rfl⟩)
      all_goals
        go_wp2_with fail
        go_meet
        exact ⟨rfl, HX.out.below (((Below.refl _ _).alloc (Nat.le_refl _) _).drew)⟩
  case rest =>
  clear HX
  obtain ⟨rfl, HX⟩ := hcut
  obtain ⟨b0, b1, b2, b3, b4, b5, b6⟩ := cells7 HX.out.one
  clear b0 b2 b3 b4 b5 b6
  go_wp2
  go_loop [3, 14] (fun s3 i => ∃ k : Nat, k ≤ n ∧ i = .int .i64 k ∧ ∃ t, s3 = .string t ∧ Hid (t = mkS (wd A ++ pF (ss.take k)))) (fun _ i => n - (intOf i).toNat)
  case atStart => exact ⟨0, Nat.zero_le _, rfl, _, rfl, by unfold Hid; rw [pF_none, List.append_nil]⟩
  case round =>
    obtain ⟨k, hk, rfl, t, rfl, HU⟩ := hrel
    by_cases hlt : k < n
    · have hts : t.size ≤ 1300000000000 := by
        rw [HU.out, mkS_size, List.length_append]
        have h1 := wd_len A
        have h2 := pF_len (ss := ss.take k) (n := n) (by simp; omega) (by
          intro i hi
          have hi2 : i < k := by simp at hi; omega
          have e : (ss.take k).getD i ByteArray.empty = ss.getD i ByteArray.empty := by rw [List.getD_eq_getElem?_getD, List.getD_eq_getElem?_getD, List.getElem?_take, if_pos hi2]
          rw [e]
          exact HZ.out i (by rw [HN.out]; omega))
        have : n * 1048577 ≤ 1048576 * 1048577 := Nat.mul_le_mul_right _ hnb
        omega
      rcases HX.out.txt with hr | ⟨b, off, rfl, hbl, hc⟩
      · exact absurd HN.out (by simp only at hr; rw [hr]; simp; omega)
      have c0 := hc k (by simp only; rw [HN.out]; exact hlt)
      have hsz := HZ.out k (by rw [HN.out]; exact hlt)
      have HO := hid (pF_one (ss := ss))
      have HC := hid (pF_succ (ss := ss) (k := k) (by rw [HN.out]; exact hlt))
      clear hc
      simp only at c0
      by_cases h0 : k = 0
      · subst h0
        rw [Nat.add_zero] at c0
        have HE : Hid (t ++ mkS [32, 102, 114, 111, 109, 32] ++ ss.getD 0 ByteArray.empty = mkS (wd A ++ pF (ss.take (0 + 1)))) := by
          unfold Hid
          rw [HU.out, HO.out (by rw [HN.out]; exact hlt), pF_none, List.append_nil]; apply ByteArray.ext; simp
        clear HO HC
        generalize ss.getD 0 ByteArray.empty = s at *
        have htl : (mkS [32, 102, 114, 111, 109, 32]).size = 6 := rfl
        have a1 := add_run t (mkS [32, 102, 114, 111, 109, 32]) (by omega)
        have a2 := add_run (t ++ mkS [32, 102, 114, 111, 109, 32]) s (by rw [ByteArray.size_append]; omega)
        go_wp2
        go_round
        case rel => exact ⟨0 + 1, by omega, by go_num, _, rfl, HE⟩
        case measure => simp [intOf]; omega
      · have h0' : ((k : Int) == 0) = false := by simp; exact h0
        have HE : Hid (t ++ mkS [44] ++ ss.getD k ByteArray.empty = mkS (wd A ++ pF (ss.take (k + 1)))) := by
          unfold Hid
          rw [HU.out, HC.out (by omega)]; apply ByteArray.ext; simp
        clear HO HC h0
        generalize ss.getD k ByteArray.empty = s at *
        have htl : (mkS [44]).size = 1 := rfl
        have a1 := add_run t (mkS [44]) (by omega)
        have a2 := add_run (t ++ mkS [44]) s (by rw [ByteArray.size_append]; omega)
        go_wp2
        go_round
        case rel => exact ⟨k + 1, by omega, by go_num, _, rfl, HE⟩
        case measure => simp [intOf]; omega
    · have HE : Hid (t = mkS (x1 ⟨A, ss, sep, pat, tgt, val, md⟩)) := by unfold Hid x1; rw [HU.out, pF_all (by rw [HN.out]; omega)]
      have he := HE.out
      subst he
      clear b1 HU HE
      obtain ⟨b0, b1, b2, b3, b4, b5, b6⟩ := cells7 HX.out.one
      clear b0 b1 b3 b4 b5 b6
      go_upto_if 31 with fail
      go_cut [3] from 31 to 37 (fun s3 wx => s3 = .string (mkS (x2 ⟨A, ss, sep, pat, tgt, val, md⟩)) ∧ Hid (Rx w ⟨A, ss, sep, pat, tgt, val, md⟩ n c a wx))
      case first =>
        have hlen : (mkS (x1 ⟨A, ss, sep, pat, tgt, val, md⟩)).size ≤ 1300000000000 := by rw [mkS_size]; have := x1_len HS.out; omega
        cases q : sep.toList.isEmpty
        rotate_left
        · have HE : Hid (x2 ⟨A, ss, sep, pat, tgt, val, md⟩ = x1 ⟨A, ss, sep, pat, tgt, val, md⟩) := by unfold Hid x2; rw [pQ_yes (show em sep = true from q), List.append_nil]
          go_wp2
          go_meet
          exact ⟨by rw [HE.out], HX⟩
        · have HE : Hid (mkS (x1 ⟨A, ss, sep, pat, tgt, val, md⟩) ++ (mkS [32, 115, 101, 112, 32] ++ mkS (quoB sep.data.toList)) = mkS (x2 ⟨A, ss, sep, pat, tgt, val, md⟩)) := by unfold Hid x2; rw [mkS_app, mkS_app, pQ_no (show em sep = false from q)]
          have hql : (mkS (quoB sep.data.toList)).size ≤ 2097154 := by rw [mkS_size]; have := quoB_len sep.data.toList; simp at this; omega
          have htl : (mkS [32, 115, 101, 112, 32]).size = 5 := rfl
          have a1 := add_run (mkS [32, 115, 101, 112, 32]) (mkS (quoB sep.data.toList)) (by omega)
          have a2 := add_run (mkS (x1 ⟨A, ss, sep, pat, tgt, val, md⟩)) (mkS [32, 115, 101, 112, 32] ++ mkS (quoB sep.data.toList)) (by rw [ByteArray.size_append]; omega)
          clear q
          go_wp2_with fail
          refine (f32 sep _ (by omega)).mono ?_
          rintro e w2 ⟨rfl, hb2⟩
          have HX2 := hid (HX.out.below hb2)
          clear hb2
          go_wp2
          go_meet
          exact ⟨by rw [← HE.out], HX2⟩
      case rest =>
      clear HX b2
      obtain ⟨rfl, HX⟩ := hcut
      obtain ⟨b0, b1, b2, b3, b4, b5, b6⟩ := cells7 HX.out.one
      clear b0 b1 b2 b4 b5 b6
      go_upto_if 40 with fail
      go_cut [3] from 40 to 46 (fun s3 wx => s3 = .string (mkS (x3 ⟨A, ss, sep, pat, tgt, val, md⟩)) ∧ Hid (Rx w ⟨A, ss, sep, pat, tgt, val, md⟩ n c a wx))
      case first =>
        have hlen : (mkS (x2 ⟨A, ss, sep, pat, tgt, val, md⟩)).size ≤ 1300000000000 := by rw [mkS_size]; have := x2_len HS.out; omega
        cases q : pat.toList.isEmpty
        rotate_left
        · have HE : Hid (x3 ⟨A, ss, sep, pat, tgt, val, md⟩ = x2 ⟨A, ss, sep, pat, tgt, val, md⟩) := by unfold Hid x3; rw [pQ_yes (show em pat = true from q), List.append_nil]
          go_wp2
          go_meet
          exact ⟨by rw [HE.out], HX⟩
        · have HE : Hid (mkS (x2 ⟨A, ss, sep, pat, tgt, val, md⟩) ++ (mkS [32, 108, 105, 107, 101, 32] ++ mkS (quoB pat.data.toList)) = mkS (x3 ⟨A, ss, sep, pat, tgt, val, md⟩)) := by unfold Hid x3; rw [mkS_app, mkS_app, pQ_no (show em pat = false from q)]
          have hql : (mkS (quoB pat.data.toList)).size ≤ 2097154 := by rw [mkS_size]; have := quoB_len pat.data.toList; simp at this; omega
          have htl : (mkS [32, 108, 105, 107, 101, 32]).size = 6 := rfl
          have a1 := add_run (mkS [32, 108, 105, 107, 101, 32]) (mkS (quoB pat.data.toList)) (by omega)
          have a2 := add_run (mkS (x2 ⟨A, ss, sep, pat, tgt, val, md⟩)) (mkS [32, 108, 105, 107, 101, 32] ++ mkS (quoB pat.data.toList)) (by rw [ByteArray.size_append]; omega)
          clear q
          go_wp2_with fail
          refine (f32 pat _ (by omega)).mono ?_
          rintro e w2 ⟨rfl, hb2⟩
          have HX2 := hid (HX.out.below hb2)
          clear hb2
          go_wp2
          go_meet
          exact ⟨by rw [← HE.out], HX2⟩
      case rest =>
      clear HX b3
      obtain ⟨rfl, HX⟩ := hcut
      obtain ⟨b0, b1, b2, b3, b4, b5, b6⟩ := cells7 HX.out.one
      clear b0 b1 b2 b3 b5 b6
      go_upto_if 49 with fail
      go_cut [3] from 49 to 54 (fun s3 wx => s3 = .string (mkS (x4 ⟨A, ss, sep, pat, tgt, val, md⟩)) ∧ Hid (Rx w ⟨A, ss, sep, pat, tgt, val, md⟩ n c a wx))
      case first =>
        have hlen : (mkS (x3 ⟨A, ss, sep, pat, tgt, val, md⟩)).size ≤ 1300000000000 := by rw [mkS_size]; have := x3_len HS.out; omega
        cases q : tgt.toList.isEmpty
        rotate_left
        · have HE : Hid (x4 ⟨A, ss, sep, pat, tgt, val, md⟩ = x3 ⟨A, ss, sep, pat, tgt, val, md⟩) := by unfold Hid x4; rw [pT_yes (show em tgt = true from q), List.append_nil]
          go_wp2
          go_meet
          exact ⟨by rw [HE.out], HX⟩
        · have HE : Hid (mkS (x3 ⟨A, ss, sep, pat, tgt, val, md⟩) ++ (mkS [32, 116, 111, 32] ++ tgt) = mkS (x4 ⟨A, ss, sep, pat, tgt, val, md⟩)) := by unfold Hid x4; rw [pT_no (show em tgt = false from q), ← mkS_app, ← mkS_app, mkS_self]
          have htl : (mkS [32, 116, 111, 32]).size = 4 := rfl
          have a1 := add_run (mkS [32, 116, 111, 32]) tgt (by omega)
          have a2 := add_run (mkS (x3 ⟨A, ss, sep, pat, tgt, val, md⟩)) (mkS [32, 116, 111, 32] ++ tgt) (by rw [ByteArray.size_append]; omega)
          clear q
          go_wp2
          go_meet
          exact ⟨by rw [← HE.out], HX⟩
      case rest =>
      clear HX b4
      obtain ⟨rfl, HX⟩ := hcut
      obtain ⟨b0, b1, b2, b3, b4, b5, b6⟩ := cells7 HX.out.one
      clear b0 b1 b2 b3 b4 b6
      go_upto_if 57 with fail
      go_cut [3] from 57 to 63 (fun s3 wx => s3 = .string (mkS (x5 ⟨A, ss, sep, pat, tgt, val, md⟩)) ∧ Hid (Rx w ⟨A, ss, sep, pat, tgt, val, md⟩ n c a wx))
      case first =>
        have hlen : (mkS (x4 ⟨A, ss, sep, pat, tgt, val, md⟩)).size ≤ 1300000000000 := by rw [mkS_size]; have := x4_len HS.out; omega
        cases q : val.toList.isEmpty
        rotate_left
        · have HE : Hid (x5 ⟨A, ss, sep, pat, tgt, val, md⟩ = x4 ⟨A, ss, sep, pat, tgt, val, md⟩) := by unfold Hid x5; rw [pQ_yes (show em val = true from q), List.append_nil]
          go_wp2
          go_meet
          exact ⟨by rw [HE.out], HX⟩
        · have HE : Hid (mkS (x4 ⟨A, ss, sep, pat, tgt, val, md⟩) ++ (mkS [32, 97, 115, 32] ++ mkS (quoB val.data.toList)) = mkS (x5 ⟨A, ss, sep, pat, tgt, val, md⟩)) := by unfold Hid x5; rw [mkS_app, mkS_app, pQ_no (show em val = false from q)]
          have hql : (mkS (quoB val.data.toList)).size ≤ 2097154 := by rw [mkS_size]; have := quoB_len val.data.toList; simp at this; omega
          have htl : (mkS [32, 97, 115, 32]).size = 4 := rfl
          have a1 := add_run (mkS [32, 97, 115, 32]) (mkS (quoB val.data.toList)) (by omega)
          have a2 := add_run (mkS (x4 ⟨A, ss, sep, pat, tgt, val, md⟩)) (mkS [32, 97, 115, 32] ++ mkS (quoB val.data.toList)) (by rw [ByteArray.size_append]; omega)
          clear q
          go_wp2_with fail
          refine (f32 val _ (by omega)).mono ?_
          rintro e w2 ⟨rfl, hb2⟩
          have HX2 := hid (HX.out.below hb2)
          clear hb2
          go_wp2
          go_meet
          exact ⟨by rw [← HE.out], HX2⟩
      case rest =>
      clear HX b5
      obtain ⟨rfl, HX⟩ := hcut
      obtain ⟨b0, b1, b2, b3, b4, b5, b6⟩ := cells7 HX.out.one
      clear b0 b1 b2 b3 b4 b5
      go_upto_if 66 with fail
      go_cut [3] from 66 to 72 (fun s3 wx => s3 = .string (mkS (txtR ⟨A, ss, sep, pat, tgt, val, md⟩)) ∧ Hid (Rx w ⟨A, ss, sep, pat, tgt, val, md⟩ n c a wx))
      case first =>
        have hlen : (mkS (x5 ⟨A, ss, sep, pat, tgt, val, md⟩)).size ≤ 1300000000000 := by rw [mkS_size]; have := x5_len HS.out; omega
        by_cases q : md = 0
        · have HE : Hid (txtR ⟨A, ss, sep, pat, tgt, val, md⟩ = x5 ⟨A, ss, sep, pat, tgt, val, md⟩) := by unfold Hid txtR pM; rw [if_pos q, List.append_nil]
          subst q
          go_wp2
          go_meet
          exact ⟨by rw [HE.out], HX⟩
        · have q' : (md != 0) = true := by simp; exact q
          have HE : Hid (mkS (x5 ⟨A, ss, sep, pat, tgt, val, md⟩) ++ (mkS [32, 98, 121, 32] ++ mkS (Lib.itoa md)) = mkS (txtR ⟨A, ss, sep, pat, tgt, val, md⟩)) := by unfold Hid txtR pM; rw [mkS_app, mkS_app, if_neg q]
          obtain ⟨N, hN, hN0, hN1⟩ : ∃ N : Nat, md = N ∧ 0 < N ∧ N ≤ 1000 := ⟨md.toNat, by omega, by omega, by omega⟩
          have hil : (mkS (Lib.itoa md)).size ≤ 1001 := by
            rw [mkS_size, hN]; unfold Lib.itoa; rw [if_neg (by omega), Lib.decDigits_length]; have := nd_le N; simp; omega
          have htl : (mkS [32, 98, 121, 32]).size = 4 := rfl
          have a1 := add_run (mkS [32, 98, 121, 32]) (mkS (Lib.itoa md)) (by omega)
          have a2 := add_run (mkS (x5 ⟨A, ss, sep, pat, tgt, val, md⟩)) (mkS [32, 98, 121, 32] ++ mkS (Lib.itoa md)) (by rw [ByteArray.size_append]; omega)
          have HN2 := hid hN
          clear q hN
          go_wp2_with fail
          rw [HN2.out]; refine (f27 N _ hN0 (by omega)).mono ?_; rw [← HN2.out]
          rintro e w2 ⟨rfl, hb2⟩
          have HX2 := hid (HX.out.below hb2)
          clear hb2
          go_wp2
          go_meet
          exact ⟨by rw [← HE.out], HX2⟩
      case rest =>
      clear HX b6
      obtain ⟨rfl, HX⟩ := hcut
      go_wp2
      go_ret
      exact ⟨rfl, HX.out.bel⟩
end Go.Proofs.YtbijhkbmgljjiaaGreatDoor.Rel
