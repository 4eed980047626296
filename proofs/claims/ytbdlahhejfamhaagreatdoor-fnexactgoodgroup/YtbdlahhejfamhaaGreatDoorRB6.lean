/- What the model asks of a node by itself (texts, sub-questions, others). -/
import Derived.Test.YtbdlahhejfamhaaGreatDoorRC3
namespace Go.Proofs.YtbdlahhejfamhaaGreatDoor.Qry
open Go.RowKit
open Go.Proofs.YtbdlahhejfamhaaGreatDoor.Pat (ret_bool Mt m0 HasM nameL printL goodM)
open Go.Proofs.YtbdlahhejfamhaaGreatDoor.Fil (HasT FitT)

set_option maxHeartbeats 8000000 in
set_option maxRecDepth 100000 in
theorem nd_2 (q : R) (w : World) (h : q.kd = 2) (ht : told (pl q)) (hl : Lst w q) (hf : Ft q) (hs : wt q ≤ 1048576) : Calls Tryz.prog 101 #[.agg #[.int .i64 q.kd, .int .i64 q.nu, .int .i64 q.st, .string q.tx, .int .i64 q.op, .slice q.ma q.ms.length q.mc, .int .i64 q.off, .bool q.fx, .int .i64 q.att, .bool q.bo, .int .i64 q.byy, .slice q.na q.ns.length q.nc, .int .i64 q.sd, .slice q.ea q.es.length q.ec, .int .i64 q.kc]] w fun e w' => NdR q w e w' := by
  have k1 : (q.kd == 1) = false := by simp [h]
  have k2 : (q.kd == 2) = true := by simp [h]
  have HK := hid h
  clear h
  have HTD := hid ht
  have HL := hid hl
  have HF := hid hf
  obtain ⟨X, hX⟩ : ∃ X, X = w.alloc (.cells #[.int .i64 q.kd, .int .i64 q.nu, .int .i64 q.st, .string q.tx, .int .i64 q.op, .slice q.ma q.ms.length q.mc, .int .i64 q.off, .bool q.fx, .int .i64 q.att, .bool q.bo, .int .i64 q.byy, .slice q.na q.ns.length q.nc, .int .i64 q.sd, .slice q.ea q.es.length q.ec, .int .i64 q.kc] 55) := ⟨_, rfl⟩
  have HGX : Hid (GB w w.heap.size q X) := by rw [hX]; exact GB.of (heap_alloc_new w _) ((Below.refl _ _).alloc (Nat.le_refl _) _)
  have HX := hid hX
  clear hX ht hl hf
  go_enter Tryz.func101, Tryz.ntmps101
  go_upto_region 1 with fail
  rw [← HX.out]
  go_region_held3 (fun w' => GB w w.heap.size q w') (first | exact HGX.out.drew | exact HG1.out | exact HG2.out | exact GB.drew (by assumption) | assumption) (first | (go_at_call 133; refine (f133 q _).mono ?_; rintro e w1 ⟨z, rfl, hz, hzl, hb1⟩; have HG1 := hid (HGX.out.drew.next hb1); have HZ := hid hz; have HZL := hid hzl; clear hb1 hz hzl) | (go_at_call 132; refine (f132 q z _ HZL.out.ms (HL.out.below HG1.out.hb.2) (HZL.out.lst (HL.out.below HG1.out.hb.2)) hs (Nat.le_trans HZL.out.wt hs)).mono ?_; rintro e w2 ⟨⟨bb, rfl, hbb⟩, hb2⟩; have HG2 := hid (HG1.out.next hb2); have hbf : bb = true := hbb.2 (HTD.out.trans HZ.out.symm); subst hbf; clear hb2 hbb))
  have HB2 := hid HG2.out.hb.2
  have HH2 := hid HG2.out.hb.1
  obtain ⟨x0, x1, x2, x3, x4, x5, x6, x7, x8, x9, x10, x11, x12, x13, x14⟩ := fifteen HH2.out
  by_cases hsz : q.tx.size ≤ 100
  · cases hp : printL q.tx.data.toList
    · have HI : Hid ((false = true) ↔ (right (pl q) = true ∧ kidsM (pl q))) := by unfold Hid right kidsM pl; simp [HK.out, hsz, hp]
      go_wp2_with (first | (go_at_call 134; refine (Pat.f134 q.tx _ HF.out.tx).mono ?_; rintro e w' ⟨rfl, hw'⟩; have hw2 := hw'.symm; clear hw'; subst hw2))
      (try simp only [Exit.inBlock, Exit.then])
      go_ret
      exact ⟨⟨_, rfl, HI.out⟩, HB2.out⟩
    · have HI : Hid (((q.kc == 0) = true) ↔ (right (pl q) = true ∧ kidsM (pl q))) := by unfold Hid right kidsM pl; simp [HK.out, hsz, hp]
      go_wp2_with (first | (go_at_call 134; refine (Pat.f134 q.tx _ HF.out.tx).mono ?_; rintro e w' ⟨rfl, hw'⟩; have hw2 := hw'.symm; clear hw'; subst hw2))
      (try simp only [Exit.inBlock, Exit.then])
      go_ret
      exact ⟨⟨_, rfl, HI.out⟩, HB2.out⟩
  · have HI : Hid ((false = true) ↔ (right (pl q) = true ∧ kidsM (pl q))) := by unfold Hid right kidsM pl; simp [HK.out, hsz]
    go_wp2
    (try simp only [Exit.inBlock, Exit.then])
    go_ret
    exact ⟨⟨_, rfl, HI.out⟩, HB2.out⟩

set_option maxHeartbeats 8000000 in
set_option maxRecDepth 100000 in
theorem nd_5 (q : R) (w : World) (h : q.kd = 5) (ht : told (pl q)) (hl : Lst w q) (hf : Ft q) (hs : wt q ≤ 1048576) : Calls Tryz.prog 101 #[.agg #[.int .i64 q.kd, .int .i64 q.nu, .int .i64 q.st, .string q.tx, .int .i64 q.op, .slice q.ma q.ms.length q.mc, .int .i64 q.off, .bool q.fx, .int .i64 q.att, .bool q.bo, .int .i64 q.byy, .slice q.na q.ns.length q.nc, .int .i64 q.sd, .slice q.ea q.es.length q.ec, .int .i64 q.kc]] w fun e w' => NdR q w e w' := by
  have k1 : (q.kd == 1) = false := by simp [h]
  have k2 : (q.kd == 2) = false := by simp [h]
  have k3 : (q.kd == 3) = false := by simp [h]
  have k4 : (q.kd == 4) = false := by simp [h]
  have k5 : (q.kd == 5) = true := by simp [h]
  have HK := hid h
  clear h
  have HTD := hid ht
  have HL := hid hl
  have HF := hid hf
  obtain ⟨X, hX⟩ : ∃ X, X = w.alloc (.cells #[.int .i64 q.kd, .int .i64 q.nu, .int .i64 q.st, .string q.tx, .int .i64 q.op, .slice q.ma q.ms.length q.mc, .int .i64 q.off, .bool q.fx, .int .i64 q.att, .bool q.bo, .int .i64 q.byy, .slice q.na q.ns.length q.nc, .int .i64 q.sd, .slice q.ea q.es.length q.ec, .int .i64 q.kc] 55) := ⟨_, rfl⟩
  have HGX : Hid (GB w w.heap.size q X) := by rw [hX]; exact GB.of (heap_alloc_new w _) ((Below.refl _ _).alloc (Nat.le_refl _) _)
  have HX := hid hX
  clear hX ht hl hf
  go_enter Tryz.func101, Tryz.ntmps101
  go_upto_region 1 with fail
  rw [← HX.out]
  go_region_held3 (fun w' => GB w w.heap.size q w') (first | exact HGX.out.drew | exact HG1.out | exact HG2.out | exact GB.drew (by assumption) | assumption) (first | (go_at_call 133; refine (f133 q _).mono ?_; rintro e w1 ⟨z, rfl, hz, hzl, hb1⟩; have HG1 := hid (HGX.out.drew.next hb1); have HZ := hid hz; have HZL := hid hzl; clear hb1 hz hzl) | (go_at_call 132; refine (f132 q z _ HZL.out.ms (HL.out.below HG1.out.hb.2) (HZL.out.lst (HL.out.below HG1.out.hb.2)) hs (Nat.le_trans HZL.out.wt hs)).mono ?_; rintro e w2 ⟨⟨bb, rfl, hbb⟩, hb2⟩; have HG2 := hid (HG1.out.next hb2); have hbf : bb = true := hbb.2 (HTD.out.trans HZ.out.symm); subst hbf; clear hb2 hbb))
  have HB2 := hid HG2.out.hb.2
  have HH2 := hid HG2.out.hb.1
  obtain ⟨x0, x1, x2, x3, x4, x5, x6, x7, x8, x9, x10, x11, x12, x13, x14⟩ := fifteen HH2.out
  by_cases hkc : q.kc = 1
  case neg =>
    have hkc' : (q.kc == 1) = false := by simp [hkc]
    have HI : Hid ((false = true) ↔ (right (pl q) = true ∧ kidsM (pl q))) := by unfold Hid right kidsM pl; simp [HK.out, hkc]
    clear hkc
    go_wp2
    (try simp only [Exit.inBlock, Exit.then])
    go_ret
    exact ⟨⟨_, rfl, HI.out⟩, HB2.out⟩
  have hkc' : (q.kc == 1) = true := by simp [hkc]
  have HKC := hid hkc
  clear hkc
  by_cases h1 : 1 ≤ q.nu
  case neg =>
    have HI : Hid ((false = true) ↔ (right (pl q) = true ∧ kidsM (pl q))) := by
      unfold Hid right kidsM pl; simp [HK.out]; intros; omega
    go_wp2
    (try simp only [Exit.inBlock, Exit.then])
    go_ret
    exact ⟨⟨_, rfl, HI.out⟩, HB2.out⟩
  by_cases h2 : q.nu ≤ 1000000000000
  case neg =>
    have HI : Hid ((false = true) ↔ (right (pl q) = true ∧ kidsM (pl q))) := by
      unfold Hid right kidsM pl; simp [HK.out]; intros; omega
    go_wp2
    (try simp only [Exit.inBlock, Exit.then])
    go_ret
    exact ⟨⟨_, rfl, HI.out⟩, HB2.out⟩
  by_cases h3 : 1 ≤ q.st
  case neg =>
    have HI : Hid ((false = true) ↔ (right (pl q) = true ∧ kidsM (pl q))) := by
      unfold Hid right kidsM pl; simp [HK.out]; intros; omega
    go_wp2
    (try simp only [Exit.inBlock, Exit.then])
    go_ret
    exact ⟨⟨_, rfl, HI.out⟩, HB2.out⟩
  by_cases h4 : q.st ≤ q.nu
  case neg =>
    have HI : Hid ((false = true) ↔ (right (pl q) = true ∧ kidsM (pl q))) := by
      unfold Hid right kidsM pl; simp [HK.out]; intros; omega
    go_wp2
    (try simp only [Exit.inBlock, Exit.then])
    go_ret
    exact ⟨⟨_, rfl, HI.out⟩, HB2.out⟩
  have HI : Hid ((moment (pl q) = true) ↔ (right (pl q) = true ∧ kidsM (pl q))) := by
    have hr : right (pl q) = (decide (q.nu ≤ 1000000000000 ∧ 1 ≤ q.st ∧ q.st ≤ q.nu) && moment (pl q)) := by unfold right; rw [if_neg, if_neg, if_neg, if_neg, if_pos] <;> simp [pl, HK.out]
    have hk : kidsM (pl q) := by unfold kidsM pl; simp [HK.out, HKC.out]
    unfold Hid; rw [hr, decide_eq_true ⟨h2, h3, h4⟩]; simp [hk]
  go_wp2_with (first | (go_at_call 137; refine (f137 q _).mono ?_; rintro e w3 ⟨rfl, hb3⟩; have HB3 := hid (HB2.out.trans (hb3.mono HB2.out.size)); clear hb3))
  (try simp only [Exit.inBlock, Exit.then])
  go_ret
  exact ⟨⟨_, rfl, HI.out⟩, HB3.out⟩

set_option maxHeartbeats 8000000 in
set_option maxRecDepth 100000 in
theorem nd_0 (q : R) (w : World) (h : q.kd < 1 ∨ 9 < q.kd) (ht : told (pl q)) (hl : Lst w q) (hf : Ft q) (hs : wt q ≤ 1048576) : Calls Tryz.prog 101 #[.agg #[.int .i64 q.kd, .int .i64 q.nu, .int .i64 q.st, .string q.tx, .int .i64 q.op, .slice q.ma q.ms.length q.mc, .int .i64 q.off, .bool q.fx, .int .i64 q.att, .bool q.bo, .int .i64 q.byy, .slice q.na q.ns.length q.nc, .int .i64 q.sd, .slice q.ea q.es.length q.ec, .int .i64 q.kc]] w fun e w' => NdR q w e w' := by
  have k1 : (q.kd == 1) = false := by rw [beq_eq_false_iff_ne]; omega
  have k2 : (q.kd == 2) = false := by rw [beq_eq_false_iff_ne]; omega
  have k3 : (q.kd == 3) = false := by rw [beq_eq_false_iff_ne]; omega
  have k4 : (q.kd == 4) = false := by rw [beq_eq_false_iff_ne]; omega
  have k5 : (q.kd == 5) = false := by rw [beq_eq_false_iff_ne]; omega
  have k6 : (q.kd == 6) = false := by rw [beq_eq_false_iff_ne]; omega
  have k7 : (q.kd == 7) = false := by rw [beq_eq_false_iff_ne]; omega
  have k8 : (q.kd == 8) = false := by rw [beq_eq_false_iff_ne]; omega
  have k9 : (q.kd == 9) = false := by rw [beq_eq_false_iff_ne]; omega
  have HK := hid h
  clear h
  have HTD := hid ht
  have HL := hid hl
  have HF := hid hf
  obtain ⟨X, hX⟩ : ∃ X, X = w.alloc (.cells #[.int .i64 q.kd, .int .i64 q.nu, .int .i64 q.st, .string q.tx, .int .i64 q.op, .slice q.ma q.ms.length q.mc, .int .i64 q.off, .bool q.fx, .int .i64 q.att, .bool q.bo, .int .i64 q.byy, .slice q.na q.ns.length q.nc, .int .i64 q.sd, .slice q.ea q.es.length q.ec, .int .i64 q.kc] 55) := ⟨_, rfl⟩
  have HGX : Hid (GB w w.heap.size q X) := by rw [hX]; exact GB.of (heap_alloc_new w _) ((Below.refl _ _).alloc (Nat.le_refl _) _)
  have HX := hid hX
  clear hX ht hl hf
  go_enter Tryz.func101, Tryz.ntmps101
  go_upto_region 1 with fail
  rw [← HX.out]
  go_region_held3 (fun w' => GB w w.heap.size q w') (first | exact HGX.out.drew | exact HG1.out | exact HG2.out | exact GB.drew (by assumption) | assumption) (first | (go_at_call 133; refine (f133 q _).mono ?_; rintro e w1 ⟨z, rfl, hz, hzl, hb1⟩; have HG1 := hid (HGX.out.drew.next hb1); have HZ := hid hz; have HZL := hid hzl; clear hb1 hz hzl) | (go_at_call 132; refine (f132 q z _ HZL.out.ms (HL.out.below HG1.out.hb.2) (HZL.out.lst (HL.out.below HG1.out.hb.2)) hs (Nat.le_trans HZL.out.wt hs)).mono ?_; rintro e w2 ⟨⟨bb, rfl, hbb⟩, hb2⟩; have HG2 := hid (HG1.out.next hb2); have hbf : bb = true := hbb.2 (HTD.out.trans HZ.out.symm); subst hbf; clear hb2 hbb))
  have HB2 := hid HG2.out.hb.2
  have HH2 := hid HG2.out.hb.1
  obtain ⟨x0, x1, x2, x3, x4, x5, x6, x7, x8, x9, x10, x11, x12, x13, x14⟩ := fifteen HH2.out
  have h := HK.out
  have HI : Hid ((false = true) ↔ (right (pl q) = true ∧ kidsM (pl q))) := by
    unfold Hid right; rw [if_neg, if_neg, if_neg, if_neg, if_neg, if_neg, if_neg, if_neg, if_neg] <;> simp only [pl] <;> first | omega | simp
  clear h
  go_wp2
  (try simp only [Exit.inBlock, Exit.then])
  go_ret
  exact ⟨⟨_, rfl, HI.out⟩, HB2.out⟩
end Go.Proofs.YtbdlahhejfamhaaGreatDoor.Qry
/- What the model asks of a node by itself (aggregates). -/
namespace Go.Proofs.YtbdlahhejfamhaaGreatDoor.Qry
open Go.RowKit
open Go.Proofs.YtbdlahhejfamhaaGreatDoor.Pat (ret_bool Mt m0 HasM nameL printL goodM)
open Go.Proofs.YtbdlahhejfamhaaGreatDoor.Fil (HasT FitT)

set_option maxHeartbeats 8000000 in
set_option maxRecDepth 100000 in
theorem nd_8 (q : R) (w : World) (h : q.kd = 8) (ht : told (pl q)) (hl : Lst w q) (hf : Ft q) (hs : wt q ≤ 1048576) : Calls Tryz.prog 101 #[.agg #[.int .i64 q.kd, .int .i64 q.nu, .int .i64 q.st, .string q.tx, .int .i64 q.op, .slice q.ma q.ms.length q.mc, .int .i64 q.off, .bool q.fx, .int .i64 q.att, .bool q.bo, .int .i64 q.byy, .slice q.na q.ns.length q.nc, .int .i64 q.sd, .slice q.ea q.es.length q.ec, .int .i64 q.kc]] w fun e w' => NdR q w e w' := by
  have k1 : (q.kd == 1) = false := by simp [h]
  have k2 : (q.kd == 2) = false := by simp [h]
  have k3 : (q.kd == 3) = false := by simp [h]
  have k4 : (q.kd == 4) = false := by simp [h]
  have k5 : (q.kd == 5) = false := by simp [h]
  have k6 : (q.kd == 6) = false := by simp [h]
  have k7 : (q.kd == 7) = false := by simp [h]
  have k8 : (q.kd == 8) = true := by simp [h]
  have HK := hid h
  clear h
  have HTD := hid ht
  have HL := hid hl
  have HF := hid hf
  obtain ⟨X, hX⟩ : ∃ X, X = w.alloc (.cells #[.int .i64 q.kd, .int .i64 q.nu, .int .i64 q.st, .string q.tx, .int .i64 q.op, .slice q.ma q.ms.length q.mc, .int .i64 q.off, .bool q.fx, .int .i64 q.att, .bool q.bo, .int .i64 q.byy, .slice q.na q.ns.length q.nc, .int .i64 q.sd, .slice q.ea q.es.length q.ec, .int .i64 q.kc] 55) := ⟨_, rfl⟩
  have HGX : Hid (GB w w.heap.size q X) := by rw [hX]; exact GB.of (heap_alloc_new w _) ((Below.refl _ _).alloc (Nat.le_refl _) _)
  have HX := hid hX
  clear hX ht hl hf
  go_enter Tryz.func101, Tryz.ntmps101
  go_upto_region 1 with fail
  rw [← HX.out]
  go_region_held3 (fun w' => GB w w.heap.size q w') (first | exact HGX.out.drew | exact HG1.out | exact HG2.out | exact GB.drew (by assumption) | assumption) (first | (go_at_call 133; refine (f133 q _).mono ?_; rintro e w1 ⟨z, rfl, hz, hzl, hb1⟩; have HG1 := hid (HGX.out.drew.next hb1); have HZ := hid hz; have HZL := hid hzl; clear hb1 hz hzl) | (go_at_call 132; refine (f132 q z _ HZL.out.ms (HL.out.below HG1.out.hb.2) (HZL.out.lst (HL.out.below HG1.out.hb.2)) hs (Nat.le_trans HZL.out.wt hs)).mono ?_; rintro e w2 ⟨⟨bb, rfl, hbb⟩, hb2⟩; have HG2 := hid (HG1.out.next hb2); have hbf : bb = true := hbb.2 (HTD.out.trans HZ.out.symm); subst hbf; clear hb2 hbb))
  have HB2 := hid HG2.out.hb.2
  have HH2 := hid HG2.out.hb.1
  obtain ⟨x0, x1, x2, x3, x4, x5, x6, x7, x8, x9, x10, x11, x12, x13, x14⟩ := fifteen HH2.out
  have HR : Hid (right (pl q) = rAgg (pl q)) := by
    unfold Hid right; rw [if_neg, if_neg, if_neg, if_neg, if_neg, if_neg, if_neg, if_pos] <;> simp [pl, HK.out]
  have HKM : Hid (kidsM (pl q)) := by unfold Hid kidsM pl; simp [HK.out]
  have HA : Hid (rAgg (pl q) = (decide (1 ≤ q.op ∧ q.op ≤ 8) && choice q.byy q.ns && decide (q.kc = if 6 ≤ q.op then 2 else 1))) := rfl
  by_cases h1 : 1 ≤ q.op
  case neg =>
    have HI : Hid ((false = true) ↔ (right (pl q) = true ∧ kidsM (pl q))) := by
      unfold Hid; rw [HR.out, HA.out, decide_eq_false (by omega)]; simp
    have h6 : ¬ 6 ≤ q.op := by omega
    go_wp2
    (try simp only [Exit.inBlock, Exit.then])
    go_ret
    exact ⟨⟨_, rfl, HI.out⟩, HB2.out⟩
  by_cases h2 : q.op ≤ 8
  case neg =>
    have HI : Hid ((false = true) ↔ (right (pl q) = true ∧ kidsM (pl q))) := by
      unfold Hid; rw [HR.out, HA.out, decide_eq_false (by omega)]; simp
    have h6 : 6 ≤ q.op := by omega
    go_wp2
    (try simp only [Exit.inBlock, Exit.then])
    go_ret
    exact ⟨⟨_, rfl, HI.out⟩, HB2.out⟩
  by_cases h6 : 6 ≤ q.op
  · by_cases hkc : q.kc = 2
    · have hkc' : (q.kc == 2) = true := by simp [hkc]
      have HI : Hid ((choice q.byy q.ns = true) ↔ (right (pl q) = true ∧ kidsM (pl q))) := by
        unfold Hid; rw [HR.out, HA.out, decide_eq_true (show 1 ≤ q.op ∧ q.op ≤ 8 from ⟨h1, h2⟩), if_pos h6, decide_eq_true hkc]; simp [HKM.out]
      clear hkc
      go_wp2_with (first | (go_at_call 138; refine (f138 q _ (HL.out.below HB2.out) HF.out hs).mono ?_; rintro e w3 ⟨rfl, hb3⟩; have HB3 := hid (HB2.out.trans (hb3.mono HB2.out.size)); have HH3 := hid (kept HH2.out hb3); obtain ⟨z0, z1, z2, z3, z4, z5, z6, z7, z8, z9, z10, z11, z12, z13, z14⟩ := fifteen HH3.out; clear hb3))
      (try simp only [Exit.inBlock, Exit.then])
      go_ret
      exact ⟨⟨_, rfl, HI.out⟩, HB3.out⟩
    · have hkc' : (q.kc == 2) = false := by simp [hkc]
      have HI : Hid ((false = true) ↔ (right (pl q) = true ∧ kidsM (pl q))) := by
        unfold Hid; rw [HR.out, HA.out, if_pos h6, decide_eq_false hkc]; simp
      clear hkc
      go_wp2
      (try simp only [Exit.inBlock, Exit.then])
      go_ret
      exact ⟨⟨_, rfl, HI.out⟩, HB2.out⟩
  · by_cases hkc : q.kc = 1
    · have hkc' : (q.kc == 1) = true := by simp [hkc]
      have HI : Hid ((choice q.byy q.ns = true) ↔ (right (pl q) = true ∧ kidsM (pl q))) := by
        unfold Hid; rw [HR.out, HA.out, decide_eq_true (show 1 ≤ q.op ∧ q.op ≤ 8 from ⟨h1, h2⟩), if_neg h6, decide_eq_true hkc]; simp [HKM.out]
      clear hkc
      go_wp2_with (first | (go_at_call 138; refine (f138 q _ (HL.out.below HB2.out) HF.out hs).mono ?_; rintro e w3 ⟨rfl, hb3⟩; have HB3 := hid (HB2.out.trans (hb3.mono HB2.out.size)); have HH3 := hid (kept HH2.out hb3); obtain ⟨z0, z1, z2, z3, z4, z5, z6, z7, z8, z9, z10, z11, z12, z13, z14⟩ := fifteen HH3.out; clear hb3))
      (try simp only [Exit.inBlock, Exit.then])
      go_ret
      exact ⟨⟨_, rfl, HI.out⟩, HB3.out⟩
    · have hkc' : (q.kc == 1) = false := by simp [hkc]
      have HI : Hid ((false = true) ↔ (right (pl q) = true ∧ kidsM (pl q))) := by
        unfold Hid; rw [HR.out, HA.out, if_neg h6, decide_eq_false hkc]; simp
      clear hkc
      go_wp2
      (try simp only [Exit.inBlock, Exit.then])
      go_ret
      exact ⟨⟨_, rfl, HI.out⟩, HB2.out⟩
end Go.Proofs.YtbdlahhejfamhaaGreatDoor.Qry
