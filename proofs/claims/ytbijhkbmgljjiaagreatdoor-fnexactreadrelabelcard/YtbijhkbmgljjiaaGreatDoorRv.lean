/- The text of a rule: what the program's RelabelText comes to. -/
import Derived.Test.YtbijhkbmgljjiaaGreatDoorRt
import Derived.Test.YtbijhkbmgljjiaaGreatDoorRh
import Derived.Test.YtbijhkbmgljjiaaGreatDoorIt
import Derived.Deep.CutRange
namespace Go.Proofs.YtbijhkbmgljjiaaGreatDoor.Rel
open Go.RowKit Go.Proofs.YtbijhkbmgljjiaaGreatDoor.Fil

theorem f43x (a : Option Addr) (n : Nat) (c : Nat) (ss : List ByteArray) (w : World) (hc' : n ≤ c) (hn : ss.length = n) (h0 : 0 < n) (hb : n ≤ 1048576) (hz : ∀ i, i < ss.length → (ss.getD i ByteArray.empty).size ≤ 1048576) (hr : HasT w a ss) :
    Calls Tryz.prog 43 #[.slice a n c, .string ⟨#[44]⟩] w fun e w' => e = .returned (.string (mkS (jn ss))) ∧ Below w.heap.size w w' := by
  rcases hr with h | ⟨b, off, rfl, hbl, hc⟩
  · rw [h] at hn; simp at hn; omega
  · have hl := jn_len (n := 1048576) (by rw [hn]; exact hb) hz
    have := Tryz.strings_Join b off c ss ⟨#[44]⟩ w (by
      intro j x hx
      have hj : j < ss.length := by
        rcases Nat.lt_or_ge j ss.length with h | h
        · exact h
        · rw [List.getElem?_eq_none h] at hx; cases hx
      have e := hc j hj
      have e2 : ss.getD j ByteArray.empty = x := by rw [List.getD_eq_getElem?_getD, hx]; rfl
      rw [e2] at e
      exact e) hbl (by omega) (by omega) (by
        have e : (Lib.join (ss.map (·.data.toList)) (⟨#[44]⟩ : ByteArray).data.toList) = jn ss := rfl
        rw [e]; omega)
    rw [hn] at this
    exact this
theorem pF_some {ss : List ByteArray} (h : 0 < ss.length) : pF ss = [32, 102, 114, 111, 109, 32] ++ jn ss := if_neg (by omega)
theorem pF_zero {ss : List ByteArray} (h : ss.length = 0) : pF ss = [] := if_pos h
theorem ans_yes {r : Rule} (h : goodR r = true) : ansR r = txtR r := if_pos h
theorem ans_no {r : Rule} (h : goodR r = false) : ansR r = [] := if_neg (by rw [h]; simp)

set_option maxHeartbeats 4000000 in
theorem f20 (r : Rule) (a : Option Addr) (n c : Nat) (w : World) (hcap : n ≤ c) (hn : r.from'.length = n) (hr : HasT w a r.from') (hz : SmlR r) (hfit : FitR r) (ht : Tab w) (hp : Pow w) :
    Calls Tryz.prog 20 #[agR r a n c] w fun e w' => e = .returned (.string (mkS (ansR r))) ∧ Below w.heap.size w w' := by
  obtain ⟨A, ss, sep, pat, tgt, val, md⟩ := r
  have HS := hid hz
  have HFT := hid hfit
  obtain ⟨z1, z2, z3, z4, z5, z6⟩ := hz
  simp only at hn hr z1 z2 z3 z4 z5 z6
  have HN := hid hn
  have HZ := hid z2
  have HX0 : Hid (Rx w ⟨A, ss, sep, pat, tgt, val, md⟩ n c a _) := Rx.new hr
  have HT := hid ht
  have HP := hid hp
  have hnb : n ≤ 1048576 := by rw [← hn]; exact z1
  clear hn hr z1 z2 ht hp hfit
  simp only [agR]
  go_enter Tryz.func20, Tryz.ntmps20
  go_wp2_with fail
  refine (f19 ⟨A, ss, sep, pat, tgt, val, md⟩ a n c _ HN.out HX0.out.txt HS.out HFT.out (HT.out.below HX0.out.bel)).mono ?_
  rintro e w1 ⟨rfl, hb1⟩
  have HX := hid (HX0.out.below hb1)
  clear hb1 HX0
  by_cases hg : goodR ⟨A, ss, sep, pat, tgt, val, md⟩ = true
  rotate_left
  · have hg' : goodR ⟨A, ss, sep, pat, tgt, val, md⟩ = false := by simpa using hg
    have HA := hid (ans_no hg')
    clear hg
    go_wp2
    go_ret
    exact ⟨by rw [HA.out]; rfl, HX.out.bel⟩
  have HA := hid (ans_yes hg)
  obtain ⟨hA1, hA8⟩ := good_act hg
  have hm := good_md hg
  simp only at hA1 hA8 hm
  go_upto_region 3 with fail
  clear hg
  go_cut [3] from 7 to 11 (fun s3 wx => s3 = .string (mkS (wd A)) ∧ Hid (Rx w ⟨A, ss, sep, pat, tgt, val, md⟩ n c a wx))
  case first =>
    obtain ⟨b0, b1, b2, b3, b4, b5, b6⟩ := cells7 HX.out.one
    have HTB := hid (HT.out.below HX.out.bel)
    clear b1 b2 b3 b4 b5 b6
    generalize w1 = wc at *
    rcases (show A = 1 ∨ A = 2 ∨ A = 3 ∨ A = 4 ∨ A = 5 ∨ A = 6 ∨ A = 7 ∨ A = 8 by omega) with rfl | rfl | rfl | rfl | rfl | rfl | rfl | rfl
    · have t0 : wc.cell? ⟨0, 6, none⟩ = some (.string ⟨#[107, 101, 101, 112]⟩) := HTB.out.2 6 (by omega)
      go_wp2
      go_meet
      exact ⟨rfl, HX⟩
    · have t0 : wc.cell? ⟨0, 12, none⟩ = some (.string ⟨#[100, 114, 111, 112]⟩) := HTB.out.2 12 (by omega)
      go_wp2
      go_meet
      exact ⟨rfl, HX⟩
    · have t0 : wc.cell? ⟨0, 18, none⟩ = some (.string ⟨#[115, 101, 116]⟩) := HTB.out.2 18 (by omega)
      go_wp2
      go_meet
      exact ⟨rfl, HX⟩
    · have t0 : wc.cell? ⟨0, 24, none⟩ = some (.string ⟨#[109, 111, 100]⟩) := HTB.out.2 24 (by omega)
      go_wp2
      go_meet
      exact ⟨rfl, HX⟩
    · have t0 : wc.cell? ⟨0, 30, none⟩ = some (.string ⟨#[109, 97, 112]⟩) := HTB.out.2 30 (by omega)
      go_wp2
      go_meet
      exact ⟨rfl, HX⟩
    · have t0 : wc.cell? ⟨0, 36, none⟩ = some (.string ⟨#[107, 101, 101, 112, 110, 97, 109, 101, 115]⟩) := HTB.out.2 36 (by omega)
      go_wp2
      go_meet
      exact ⟨rfl, HX⟩
    · have t0 : wc.cell? ⟨0, 42, none⟩ = some (.string ⟨#[100, 114, 111, 112, 110, 97, 109, 101, 115]⟩) := HTB.out.2 42 (by omega)
      go_wp2
      go_meet
      exact ⟨rfl, HX⟩
    · have t0 : wc.cell? ⟨0, 48, none⟩ = some (.string ⟨#[108, 111, 119, 101, 114]⟩) := HTB.out.2 48 (by omega)
      go_wp2
      go_meet
      exact ⟨rfl, HX⟩
  case rest =>
  clear HX
  obtain ⟨rfl, HX⟩ := hcut
  obtain ⟨b0, b1, b2, b3, b4, b5, b6⟩ := cells7 HX.out.one
  clear b0
  go_upto_if 15 with fail
  go_cut [3] from 15 to 21 (fun s3 wx => s3 = .string (mkS (x1 ⟨A, ss, sep, pat, tgt, val, md⟩)) ∧ Hid (Rx w ⟨A, ss, sep, pat, tgt, val, md⟩ n c a wx))
  case first =>
    by_cases h0 : 0 < (n : Int)
    · have hwl : (mkS (wd A)).size ≤ 9 := by rw [mkS_size]; exact wd_len A
      have hjl : (mkS (jn ss)).size ≤ 1100000000000 := by
        rw [mkS_size]
        have := jn_len (n := 1048576) (by rw [HN.out]; exact hnb) HZ.out
        omega
      have HE : Hid (mkS (wd A) ++ (mkS [32, 102, 114, 111, 109, 32] ++ mkS (jn ss)) = mkS (x1 ⟨A, ss, sep, pat, tgt, val, md⟩)) := by unfold Hid x1; rw [mkS_app, mkS_app, pF_some (by simp only; rw [HN.out]; omega)]
      have htl : (mkS [32, 102, 114, 111, 109, 32]).size = 6 := rfl
      have a1 := add_run (mkS [32, 102, 114, 111, 109, 32]) (mkS (jn ss)) (by omega)
      have a2 := add_run (mkS (wd A)) (mkS [32, 102, 114, 111, 109, 32] ++ mkS (jn ss)) (by rw [ByteArray.size_append]; omega)
      go_wp2_with fail
      refine (f43x a n c ss _ hcap HN.out (by omega) hnb HZ.out HX.out.txt).mono ?_
      rintro e w2 ⟨rfl, hb2⟩
      have HX2 := hid (HX.out.below hb2)
      clear hb2
      go_wp2
      go_meet
      exact ⟨by rw [← HE.out], HX2⟩
    · have HE : Hid (wd A = x1 ⟨A, ss, sep, pat, tgt, val, md⟩) := by unfold Hid x1; rw [pF_zero (by simp only; rw [HN.out]; omega), List.append_nil]
      go_wp2
      go_meet
      exact ⟨by rw [← HE.out], HX⟩
  case rest =>
  clear HX b1 b2 b3 b4 b5 b6
  obtain ⟨rfl, HX⟩ := hcut
  obtain ⟨b0, b1, b2, b3, b4, b5, b6⟩ := cells7 HX.out.one
  clear b0 b1 b3 b4 b5 b6
  go_upto_if 24 with fail
  go_cut [3] from 24 to 30 (fun s3 wx => s3 = .string (mkS (x2 ⟨A, ss, sep, pat, tgt, val, md⟩)) ∧ Hid (Rx w ⟨A, ss, sep, pat, tgt, val, md⟩ n c a wx))
  case first =>
    have hlen : (mkS (x1 ⟨A, ss, sep, pat, tgt, val, md⟩)).size ≤ 1300000000000 := by rw [mkS_size]; have := x1_len HS.out; omega
    cases q : sep.toList.isEmpty
    rotate_left
    · have HE : Hid (x2 ⟨A, ss, sep, pat, tgt, val, md⟩ = x1 ⟨A, ss, sep, pat, tgt, val, md⟩) := by unfold Hid x2; rw [pQ_yes (show em sep = true from q), List.append_nil]
      go_wp2
      go_meet
      exact ⟨by rw [HE.out], HX⟩
    · have HE : Hid (mkS (x1 ⟨A, ss, sep, pat, tgt, val, md⟩) ++ (mkS [32, 115, 101, 112, 32] ++ mkS (quoB sep.data.toList)) = mkS (x2 ⟨A, ss, sep, pat, tgt, val, md⟩)) := by unfold Hid x2; rw [mkS_app, mkS_app, pQ_no (show em sep = false from q)]
      have hql : (mkS (quoB sep.data.toList)).size ≤ 2097154 := by rw [mkS_size]; have := quoB_len sep.data.toList; simp at this; omega
      have htl : (mkS [32, 115, 101, 112, 32]).size = 5 := rfl
      have a1 := add_run (mkS [32, 115, 101, 112, 32]) (mkS (quoB sep.data.toList)) (by omega)
      have a2 := add_run (mkS (x1 ⟨A, ss, sep, pat, tgt, val, md⟩)) (mkS [32, 115, 101, 112, 32] ++ mkS (quoB sep.data.toList)) (by rw [ByteArray.size_append]; omega)
      clear q
      go_wp2_with fail
      refine (f44 sep _ (by omega)).mono ?_
      rintro e w2 ⟨rfl, hb2⟩
      have HX2 := hid (HX.out.below hb2)
      clear hb2
      go_wp2
      go_meet
      exact ⟨by rw [← HE.out], HX2⟩
  case rest =>
  clear HX b2
  obtain ⟨rfl, HX⟩ := hcut
  obtain ⟨b0, b1, b2, b3, b4, b5, b6⟩ := cells7 HX.out.one
  clear b0 b1 b2 b4 b5 b6
  go_upto_if 33 with fail
  go_cut [3] from 33 to 39 (fun s3 wx => s3 = .string (mkS (x3 ⟨A, ss, sep, pat, tgt, val, md⟩)) ∧ Hid (Rx w ⟨A, ss, sep, pat, tgt, val, md⟩ n c a wx))
  case first =>
    have hlen : (mkS (x2 ⟨A, ss, sep, pat, tgt, val, md⟩)).size ≤ 1300000000000 := by rw [mkS_size]; have := x2_len HS.out; omega
    cases q : pat.toList.isEmpty
    rotate_left
    · have HE : Hid (x3 ⟨A, ss, sep, pat, tgt, val, md⟩ = x2 ⟨A, ss, sep, pat, tgt, val, md⟩) := by unfold Hid x3; rw [pQ_yes (show em pat = true from q), List.append_nil]
      go_wp2
      go_meet
      exact ⟨by rw [HE.out], HX⟩
    · have HE : Hid (mkS (x2 ⟨A, ss, sep, pat, tgt, val, md⟩) ++ (mkS [32, 108, 105, 107, 101, 32] ++ mkS (quoB pat.data.toList)) = mkS (x3 ⟨A, ss, sep, pat, tgt, val, md⟩)) := by unfold Hid x3; rw [mkS_app, mkS_app, pQ_no (show em pat = false from q)]
      have hql : (mkS (quoB pat.data.toList)).size ≤ 2097154 := by rw [mkS_size]; have := quoB_len pat.data.toList; simp at this; omega
      have htl : (mkS [32, 108, 105, 107, 101, 32]).size = 6 := rfl
      have a1 := add_run (mkS [32, 108, 105, 107, 101, 32]) (mkS (quoB pat.data.toList)) (by omega)
      have a2 := add_run (mkS (x2 ⟨A, ss, sep, pat, tgt, val, md⟩)) (mkS [32, 108, 105, 107, 101, 32] ++ mkS (quoB pat.data.toList)) (by rw [ByteArray.size_append]; omega)
      clear q
      go_wp2_with fail
      refine (f44 pat _ (by omega)).mono ?_
      rintro e w2 ⟨rfl, hb2⟩
      have HX2 := hid (HX.out.below hb2)
      clear hb2
      go_wp2
      go_meet
      exact ⟨by rw [← HE.out], HX2⟩
  case rest =>
  clear HX b3
  obtain ⟨rfl, HX⟩ := hcut
  obtain ⟨b0, b1, b2, b3, b4, b5, b6⟩ := cells7 HX.out.one
  clear b0 b1 b2 b3 b5 b6
  go_upto_if 42 with fail
  go_cut [3] from 42 to 47 (fun s3 wx => s3 = .string (mkS (x4 ⟨A, ss, sep, pat, tgt, val, md⟩)) ∧ Hid (Rx w ⟨A, ss, sep, pat, tgt, val, md⟩ n c a wx))
  case first =>
    have hlen : (mkS (x3 ⟨A, ss, sep, pat, tgt, val, md⟩)).size ≤ 1300000000000 := by rw [mkS_size]; have := x3_len HS.out; omega
    cases q : tgt.toList.isEmpty
    rotate_left
    · have HE : Hid (x4 ⟨A, ss, sep, pat, tgt, val, md⟩ = x3 ⟨A, ss, sep, pat, tgt, val, md⟩) := by unfold Hid x4; rw [pT_yes (show em tgt = true from q), List.append_nil]
      go_wp2
      go_meet
      exact ⟨by rw [HE.out], HX⟩
    · have HE : Hid (mkS (x3 ⟨A, ss, sep, pat, tgt, val, md⟩) ++ (mkS [32, 116, 111, 32] ++ tgt) = mkS (x4 ⟨A, ss, sep, pat, tgt, val, md⟩)) := by unfold Hid x4; rw [pT_no (show em tgt = false from q), ← mkS_app, ← mkS_app, mkS_self]
      have htl : (mkS [32, 116, 111, 32]).size = 4 := rfl
      have a1 := add_run (mkS [32, 116, 111, 32]) tgt (by omega)
      have a2 := add_run (mkS (x3 ⟨A, ss, sep, pat, tgt, val, md⟩)) (mkS [32, 116, 111, 32] ++ tgt) (by rw [ByteArray.size_append]; omega)
      clear q
      go_wp2
      go_meet
      exact ⟨by rw [← HE.out], HX⟩
  case rest =>
  clear HX b4
  obtain ⟨rfl, HX⟩ := hcut
  obtain ⟨b0, b1, b2, b3, b4, b5, b6⟩ := cells7 HX.out.one
  clear b0 b1 b2 b3 b4 b6
  go_upto_if 50 with fail
  go_cut [3] from 50 to 56 (fun s3 wx => s3 = .string (mkS (x5 ⟨A, ss, sep, pat, tgt, val, md⟩)) ∧ Hid (Rx w ⟨A, ss, sep, pat, tgt, val, md⟩ n c a wx))
  case first =>
    have hlen : (mkS (x4 ⟨A, ss, sep, pat, tgt, val, md⟩)).size ≤ 1300000000000 := by rw [mkS_size]; have := x4_len HS.out; omega
    cases q : val.toList.isEmpty
    rotate_left
    · have HE : Hid (x5 ⟨A, ss, sep, pat, tgt, val, md⟩ = x4 ⟨A, ss, sep, pat, tgt, val, md⟩) := by unfold Hid x5; rw [pQ_yes (show em val = true from q), List.append_nil]
      go_wp2
      go_meet
      exact ⟨by rw [HE.out], HX⟩
    · have HE : Hid (mkS (x4 ⟨A, ss, sep, pat, tgt, val, md⟩) ++ (mkS [32, 97, 115, 32] ++ mkS (quoB val.data.toList)) = mkS (x5 ⟨A, ss, sep, pat, tgt, val, md⟩)) := by unfold Hid x5; rw [mkS_app, mkS_app, pQ_no (show em val = false from q)]
      have hql : (mkS (quoB val.data.toList)).size ≤ 2097154 := by rw [mkS_size]; have := quoB_len val.data.toList; simp at this; omega
      have htl : (mkS [32, 97, 115, 32]).size = 4 := rfl
      have a1 := add_run (mkS [32, 97, 115, 32]) (mkS (quoB val.data.toList)) (by omega)
      have a2 := add_run (mkS (x4 ⟨A, ss, sep, pat, tgt, val, md⟩)) (mkS [32, 97, 115, 32] ++ mkS (quoB val.data.toList)) (by rw [ByteArray.size_append]; omega)
      clear q
      go_wp2_with fail
      refine (f44 val _ (by omega)).mono ?_
      rintro e w2 ⟨rfl, hb2⟩
      have HX2 := hid (HX.out.below hb2)
      clear hb2
      go_wp2
      go_meet
      exact ⟨by rw [← HE.out], HX2⟩
  case rest =>
  clear HX b5
  obtain ⟨rfl, HX⟩ := hcut
  obtain ⟨b0, b1, b2, b3, b4, b5, b6⟩ := cells7 HX.out.one
  clear b0 b1 b2 b3 b4 b5
  go_upto_if 59 with fail
  go_cut [3] from 59 to 65 (fun s3 wx => s3 = .string (mkS (txtR ⟨A, ss, sep, pat, tgt, val, md⟩)) ∧ Hid (Rx w ⟨A, ss, sep, pat, tgt, val, md⟩ n c a wx))
  case first =>
    have hlen : (mkS (x5 ⟨A, ss, sep, pat, tgt, val, md⟩)).size ≤ 1300000000000 := by rw [mkS_size]; have := x5_len HS.out; omega
    by_cases q : md = 0
    · have HE : Hid (txtR ⟨A, ss, sep, pat, tgt, val, md⟩ = x5 ⟨A, ss, sep, pat, tgt, val, md⟩) := by unfold Hid txtR pM; rw [if_pos q, List.append_nil]
      subst q
      go_wp2
      go_meet
      exact ⟨by rw [HE.out], HX⟩
    · have q' : (md != 0) = true := by simp; exact q
      have HE : Hid (mkS (x5 ⟨A, ss, sep, pat, tgt, val, md⟩) ++ (mkS [32, 98, 121, 32] ++ mkS (Lib.itoa md)) = mkS (txtR ⟨A, ss, sep, pat, tgt, val, md⟩)) := by unfold Hid txtR pM; rw [mkS_app, mkS_app, if_neg q]
      obtain ⟨N, hN, hN0, hN1⟩ : ∃ N : Nat, md = N ∧ 0 < N ∧ N ≤ 1000 := ⟨md.toNat, by omega, by omega, by omega⟩
      have hil : (mkS (Lib.itoa md)).size ≤ 1001 := by
        rw [mkS_size, hN]; unfold Lib.itoa; rw [if_neg (by omega), Lib.decDigits_length]; have := nd_le N; simp; omega
      have htl : (mkS [32, 98, 121, 32]).size = 4 := rfl
      have a1 := add_run (mkS [32, 98, 121, 32]) (mkS (Lib.itoa md)) (by omega)
      have a2 := add_run (mkS (x5 ⟨A, ss, sep, pat, tgt, val, md⟩)) (mkS [32, 98, 121, 32] ++ mkS (Lib.itoa md)) (by rw [ByteArray.size_append]; omega)
      have HN2 := hid hN
      clear q hN
      go_wp2_with fail
      refine (itoa md _ (by omega) (by omega) (HP.out.below HX.out.bel)).mono ?_
      rintro e w2 ⟨rfl, hb2⟩
      have HX2 := hid (HX.out.below hb2)
      clear hb2
      go_wp2
      go_meet
      exact ⟨by rw [← HE.out], HX2⟩
  case rest =>
  clear HX b6
  obtain ⟨rfl, HX⟩ := hcut
  go_wp2
  go_ret
  exact ⟨by rw [HA.out]; rfl, HX.out.bel⟩
end Go.Proofs.YtbijhkbmgljjiaaGreatDoor.Rel
