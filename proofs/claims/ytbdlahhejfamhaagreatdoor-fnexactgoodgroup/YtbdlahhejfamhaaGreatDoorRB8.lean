/- What the model asks of a node by itself (operations with bool). -/
import Derived.Test.YtbdlahhejfamhaaGreatDoorRB7
import Derived.Test.YtbdlahhejfamhaaGreatDoorRC3
namespace Go.Proofs.YtbdlahhejfamhaaGreatDoor.Qry
open Go.RowKit
open Go.Proofs.YtbdlahhejfamhaaGreatDoor.Pat (ret_bool Mt m0 HasM nameL printL goodM)
open Go.Proofs.YtbdlahhejfamhaaGreatDoor.Fil (HasT FitT)

set_option maxHeartbeats 8000000 in
set_option maxRecDepth 100000 in
theorem nd_7b (q : R) (w : World) (h : q.kd = 7) (hbo : q.bo = true) (ht : told (pl q)) (hl : Lst w q) (hf : Ft q) (hs : wt q ≤ 1048576) : Calls Tryz.prog 101 #[.agg #[.int .i64 q.kd, .int .i64 q.nu, .int .i64 q.st, .string q.tx, .int .i64 q.op, .slice q.ma q.ms.length q.mc, .int .i64 q.off, .bool q.fx, .int .i64 q.att, .bool q.bo, .int .i64 q.byy, .slice q.na q.ns.length q.nc, .int .i64 q.sd, .slice q.ea q.es.length q.ec, .int .i64 q.kc]] w fun e w' => NdR q w e w' := by
  have k1 : (q.kd == 1) = false := by simp [h]
  have k2 : (q.kd == 2) = false := by simp [h]
  have k3 : (q.kd == 3) = false := by simp [h]
  have k4 : (q.kd == 4) = false := by simp [h]
  have k5 : (q.kd == 5) = false := by simp [h]
  have k6 : (q.kd == 6) = false := by simp [h]
  have k7 : (q.kd == 7) = true := by simp [h]
  have HK := hid h
  clear h
  have HBO := hid hbo
  clear hbo
  have HTD := hid ht
  have HL := hid hl
  have HF := hid hf
  obtain ⟨X, hX⟩ : ∃ X, X = w.alloc (.cells #[.int .i64 q.kd, .int .i64 q.nu, .int .i64 q.st, .string q.tx, .int .i64 q.op, .slice q.ma q.ms.length q.mc, .int .i64 q.off, .bool q.fx, .int .i64 q.att, .bool q.bo, .int .i64 q.byy, .slice q.na q.ns.length q.nc, .int .i64 q.sd, .slice q.ea q.es.length q.ec, .int .i64 q.kc] 55) := ⟨_, rfl⟩
  have HGX : Hid (GB w w.heap.size q X) := by rw [hX]; exact GB.of (heap_alloc_new w _) ((Below.refl _ _).alloc (Nat.le_refl _) _)
  have HX := hid hX
  clear hX ht hl hf
  go_enter Tryz.func101, Tryz.ntmps101
  go_upto_region 1 with fail
  rw [← HX.out]
  go_region_held3 (fun w' => GB w w.heap.size q w') (first | exact HGX.out.drew | exact HG1.out | exact HG2.out | exact GB.drew (by assumption) | assumption) (first | (go_at_call 133; refine (f133 q _).mono ?_; rintro e w1 ⟨z, rfl, hz, hzl, hb1⟩; have HG1 := hid (HGX.out.drew.next hb1); have HZ := hid hz; have HZL := hid hzl; clear hb1 hz hzl) | (go_at_call 132; refine (f132 q z _ HZL.out.ms (HL.out.below HG1.out.hb.2) (HZL.out.lst (HL.out.below HG1.out.hb.2)) hs (Nat.le_trans HZL.out.wt hs)).mono ?_; rintro e w2 ⟨⟨bb, rfl, hbb⟩, hb2⟩; have HG2 := hid (HG1.out.next hb2); have hbf : bb = true := hbb.2 (HTD.out.trans HZ.out.symm); subst hbf; clear hb2 hbb))
  have HB2 := hid HG2.out.hb.2
  have HH2 := hid HG2.out.hb.1
  obtain ⟨x0, x1, x2, x3, x4, x5, x6, x7, x8, x9, x10, x11, x12, x13, x14⟩ := fifteen HH2.out
  have HBYC : Hid (∀ wx, Lst wx q → Calls Tryz.prog 138 #[.agg #[.int .i64 q.kd, .int .i64 q.nu, .int .i64 q.st, .string q.tx, .int .i64 q.op, .slice q.ma q.ms.length q.mc, .int .i64 q.off, .bool q.fx, .int .i64 q.att, .bool true, .int .i64 q.byy, .slice q.na q.ns.length q.nc, .int .i64 q.sd, .slice q.ea q.es.length q.ec, .int .i64 q.kc]] wx fun e w' => e = .returned (.bool (choice q.byy q.ns)) ∧ Below wx.heap.size wx w') := fun wx hx => by
    rw [show (Value.bool true) = .bool q.bo from by rw [HBO.out]]
    exact f138 q wx hx HF.out hs
  have hbo := HBO.out
  have HR : Hid (right (pl q) = rOp (pl q)) := by
    unfold Hid right; rw [if_neg, if_neg, if_neg, if_neg, if_neg, if_neg, if_pos] <;> simp [pl, HK.out]
  have HKM : Hid (kidsM (pl q) ↔ q.kc = 2) := by unfold Hid kidsM pl; simp [HK.out]
  have HA : Hid (rOp (pl q) = (decide (1 ≤ q.op ∧ q.op ≤ 14) && choice q.byy q.ns && choice q.sd q.es && (!q.bo || decide (6 ≤ q.op ∧ q.op ≤ 11)) && (decide (q.sd = 0) || (!decide (q.byy = 0) && decide (q.op ≤ 11))))) := rfl
  by_cases hkc : q.kc = 2
  case neg =>
    have hkc' : (q.kc != 2) = true := by simp [hkc]
    have HI : Hid ((false = true) ↔ (right (pl q) = true ∧ kidsM (pl q))) := by unfold Hid; rw [HKM.out]; simp [hkc]
    clear hkc
    go_wp2
    (try simp only [Exit.inBlock, Exit.then])
    go_ret
    exact ⟨⟨_, rfl, HI.out⟩, HB2.out⟩
  have hkc' : (q.kc != 2) = false := by simp [hkc]
  have HKC := hid hkc
  clear hkc
  by_cases h1 : 1 ≤ q.op
  case neg =>
    have h1' : q.op < 1 := by omega
    have HI : Hid ((false = true) ↔ (right (pl q) = true ∧ kidsM (pl q))) := by
      unfold Hid; rw [HR.out, HA.out, HKM.out]; rw [decide_eq_false (by omega)]; simp
    go_wp2
    (try simp only [Exit.inBlock, Exit.then])
    go_ret
    exact ⟨⟨_, rfl, HI.out⟩, HB2.out⟩
  by_cases h2 : q.op ≤ 14
  case neg =>
    have h2' : 14 < q.op := by omega
    have HI : Hid ((false = true) ↔ (right (pl q) = true ∧ kidsM (pl q))) := by
      unfold Hid; rw [HR.out, HA.out, HKM.out]; rw [decide_eq_false (by omega)]; simp
    go_wp2
    (try simp only [Exit.inBlock, Exit.then])
    go_ret
    exact ⟨⟨_, rfl, HI.out⟩, HB2.out⟩
  have g1 : ¬ q.op < 1 := by omega
  have g14 : ¬ 14 < q.op := by omega
  cases hcm : decide (6 ≤ q.op ∧ q.op ≤ 11)
  case false =>
    have HI : Hid ((false = true) ↔ (right (pl q) = true ∧ kidsM (pl q))) := by
      unfold Hid; rw [HR.out, HA.out, HKM.out]; rw [hcm, hbo]; simp
    go_wp2_with (first | (go_at_call 62; refine (f62 q.op _).mono ?_; rintro e w' ⟨rfl, hw'⟩; have hw2 := hw'.symm; clear hw'; subst hw2))
    (try simp only [Exit.inBlock, Exit.then])
    go_ret
    exact ⟨⟨_, rfl, HI.out⟩, HB2.out⟩
  have BOF : (!q.bo || decide (6 ≤ q.op ∧ q.op ≤ 11)) = true := by rw [hcm]; simp
  cases hch : choice q.byy q.ns
  case false =>
    have HI : Hid ((false = true) ↔ (right (pl q) = true ∧ kidsM (pl q))) := by
      unfold Hid; rw [HR.out, HA.out, HKM.out]; simp [hch]
    go_wp2_with (first | (go_at_call 62; refine (f62 q.op _).mono ?_; rintro e w' ⟨rfl, hw'⟩; have hw2 := hw'.symm; clear hw'; subst hw2) | (go_at_call 138; refine (HBYC.out _ (HL.out.below HB2.out)).mono ?_; rintro e w3 ⟨rfl, hb3⟩; have HB3 := hid (HB2.out.trans (hb3.mono HB2.out.size)); have HH3 := hid (kept HH2.out hb3); obtain ⟨z0, z1, z2, z3, z4, z5, z6, z7, z8, z9, z10, z11, z12, z13, z14⟩ := fifteen HH3.out; clear hb3))
    (try simp only [Exit.inBlock, Exit.then])
    go_ret
    exact ⟨⟨_, rfl, HI.out⟩, HB3.out⟩
  by_cases hs0 : 0 ≤ q.sd
  case neg =>
    have hs0' : q.sd < 0 := by omega
    have hcs := ch_out (sd := q.sd) (es := q.es) (.inl hs0')
    have HI : Hid ((false = true) ↔ (right (pl q) = true ∧ kidsM (pl q))) := by
      unfold Hid; rw [HR.out, HA.out, HKM.out]; simp [hcs]
    go_wp2_with (first | (go_at_call 62; refine (f62 q.op _).mono ?_; rintro e w' ⟨rfl, hw'⟩; have hw2 := hw'.symm; clear hw'; subst hw2) | (go_at_call 138; refine (HBYC.out _ (HL.out.below HB2.out)).mono ?_; rintro e w3 ⟨rfl, hb3⟩; have HB3 := hid (HB2.out.trans (hb3.mono HB2.out.size)); have HH3 := hid (kept HH2.out hb3); obtain ⟨z0, z1, z2, z3, z4, z5, z6, z7, z8, z9, z10, z11, z12, z13, z14⟩ := fifteen HH3.out; clear hb3))
    (try simp only [Exit.inBlock, Exit.then])
    go_ret
    exact ⟨⟨_, rfl, HI.out⟩, HB3.out⟩
  by_cases hs2 : q.sd ≤ 2
  case neg =>
    have hs2' : 2 < q.sd := by omega
    have hcs := ch_out (sd := q.sd) (es := q.es) (.inr hs2')
    have HI : Hid ((false = true) ↔ (right (pl q) = true ∧ kidsM (pl q))) := by
      unfold Hid; rw [HR.out, HA.out, HKM.out]; simp [hcs]
    go_wp2_with (first | (go_at_call 62; refine (f62 q.op _).mono ?_; rintro e w' ⟨rfl, hw'⟩; have hw2 := hw'.symm; clear hw'; subst hw2) | (go_at_call 138; refine (HBYC.out _ (HL.out.below HB2.out)).mono ?_; rintro e w3 ⟨rfl, hb3⟩; have HB3 := hid (HB2.out.trans (hb3.mono HB2.out.size)); have HH3 := hid (kept HH2.out hb3); obtain ⟨z0, z1, z2, z3, z4, z5, z6, z7, z8, z9, z10, z11, z12, z13, z14⟩ := fifteen HH3.out; clear hb3))
    (try simp only [Exit.inBlock, Exit.then])
    go_ret
    exact ⟨⟨_, rfl, HI.out⟩, HB3.out⟩
  have g0 : ¬ q.sd < 0 := by omega
  have g2 : ¬ 2 < q.sd := by omega
  go_upto_region 25 with (first | (go_at_call 62; refine (f62 q.op _).mono ?_; rintro e w' ⟨rfl, hw'⟩; have hw2 := hw'.symm; clear hw'; subst hw2) | (go_at_call 138; refine (HBYC.out _ (HL.out.below HB2.out)).mono ?_; rintro e w3 ⟨rfl, hb3⟩; have HB3 := hid (HB2.out.trans (hb3.mono HB2.out.size)); have HH3 := hid (kept HH2.out hb3); obtain ⟨z0, z1, z2, z3, z4, z5, z6, z7, z8, z9, z10, z11, z12, z13, z14⟩ := fifteen HH3.out; clear hb3))
  cases hn : namesL q.es
  case false =>
    have hcs := ch_bad (sd := q.sd) hn
    have HI : Hid ((false = true) ↔ (right (pl q) = true ∧ kidsM (pl q))) := by
      unfold Hid; rw [HR.out, HA.out, HKM.out]; simp [hcs]
    go_wp2_with (first | (go_at_call 139; refine (f139 q.ea q.es.length q.ec q.es _ rfl (by have := hs; unfold wt at this; omega) HF.out.es.1 (HL.out.below HB3.out).e).mono ?_; rintro e w5 ⟨rfl, hb5⟩; have HB5 := hid (HB3.out.trans (hb5.mono HB3.out.size)); have HH5 := hid (kept HH3.out hb5); obtain ⟨v0, v1, v2, v3, v4, v5, v6, v7, v8, v9, v10, v11, v12, v13, v14⟩ := fifteen HH5.out; clear hb5))
    (try simp only [Exit.inBlock, Exit.then])
    go_ret
    exact ⟨⟨_, rfl, HI.out⟩, HB5.out⟩
  by_cases hsd : q.sd = 0
  · have e1 : (q.sd != 0) = false := by simp [hsd]
    have e2 : (q.sd == 0) = true := by simp [hsd]
    have hcs : choice q.sd q.es = q.es.isEmpty := by rw [hsd]; exact ch_zero
    by_cases he : q.es.length = 0
    · have he' : ((q.es.length : Int) == 0) = true := by simp [he]
      have hes : q.es = [] := List.length_eq_zero_iff.1 he
      have HI : Hid ((true = true) ↔ (right (pl q) = true ∧ kidsM (pl q))) := by
        unfold Hid; rw [HR.out, HA.out, HKM.out]; simp [ch_zero, hch, h1, h2, hsd, hes, HKC.out, hbo, hcm]
      clear hsd he hes
      go_wp2_with (first | (go_at_call 139; refine (f139 q.ea q.es.length q.ec q.es _ rfl (by have := hs; unfold wt at this; omega) HF.out.es.1 (HL.out.below HB3.out).e).mono ?_; rintro e w5 ⟨rfl, hb5⟩; have HB5 := hid (HB3.out.trans (hb5.mono HB3.out.size)); have HH5 := hid (kept HH3.out hb5); obtain ⟨v0, v1, v2, v3, v4, v5, v6, v7, v8, v9, v10, v11, v12, v13, v14⟩ := fifteen HH5.out; clear hb5))
      (try simp only [Exit.inBlock, Exit.then])
      go_ret
      exact ⟨⟨true, rfl, (by simpa using HI.out)⟩, HB5.out⟩
    · have he' : ((q.es.length : Int) == 0) = false := by simp; intro e; exact he (by simp [e])
      have hes : q.es.isEmpty = false := by cases hq : q.es with | nil => rw [hq] at he; simp at he | cons a l => rfl
      clear hsd he
      have HI : Hid ((false = true) ↔ (right (pl q) = true ∧ kidsM (pl q))) := by
        unfold Hid; rw [HR.out, HA.out, HKM.out]; simp [hcs, hes]
      go_wp2_with (first | (go_at_call 139; refine (f139 q.ea q.es.length q.ec q.es _ rfl (by have := hs; unfold wt at this; omega) HF.out.es.1 (HL.out.below HB3.out).e).mono ?_; rintro e w5 ⟨rfl, hb5⟩; have HB5 := hid (HB3.out.trans (hb5.mono HB3.out.size)); have HH5 := hid (kept HH3.out hb5); obtain ⟨v0, v1, v2, v3, v4, v5, v6, v7, v8, v9, v10, v11, v12, v13, v14⟩ := fifteen HH5.out; clear hb5))
      (try simp only [Exit.inBlock, Exit.then])
      go_ret
      exact ⟨⟨_, rfl, HI.out⟩, HB5.out⟩
  · have e1 : (q.sd != 0) = true := by simp [hsd]
    have e2 : (q.sd == 0) = false := by simp [hsd]
    have hcs := ch_in hsd hs0 hs2 hn
    by_cases hby : q.byy = 0
    · have e3 : (q.byy != 0) = false := by simp [hby]
      have HI : Hid ((false = true) ↔ (right (pl q) = true ∧ kidsM (pl q))) := by
        unfold Hid; rw [HR.out, HA.out, HKM.out]; simp [hsd, hby]
      clear hby hsd
      go_wp2_with (first | (go_at_call 139; refine (f139 q.ea q.es.length q.ec q.es _ rfl (by have := hs; unfold wt at this; omega) HF.out.es.1 (HL.out.below HB3.out).e).mono ?_; rintro e w5 ⟨rfl, hb5⟩; have HB5 := hid (HB3.out.trans (hb5.mono HB3.out.size)); have HH5 := hid (kept HH3.out hb5); obtain ⟨v0, v1, v2, v3, v4, v5, v6, v7, v8, v9, v10, v11, v12, v13, v14⟩ := fifteen HH5.out; clear hb5))
      (try simp only [Exit.inBlock, Exit.then])
      go_ret
      exact ⟨⟨_, rfl, HI.out⟩, HB5.out⟩
    · have e3 : (q.byy != 0) = true := by simp [hby]
      have HI : Hid ((decide (q.op ≤ 11) = true) ↔ (right (pl q) = true ∧ kidsM (pl q))) := by
        unfold Hid; rw [HR.out, HA.out, HKM.out]; simp [hcs, hch, h1, h2, hsd, hby, HKC.out, hbo, hcm]
      clear hby hsd
      go_wp2_with (first | (go_at_call 139; refine (f139 q.ea q.es.length q.ec q.es _ rfl (by have := hs; unfold wt at this; omega) HF.out.es.1 (HL.out.below HB3.out).e).mono ?_; rintro e w5 ⟨rfl, hb5⟩; have HB5 := hid (HB3.out.trans (hb5.mono HB3.out.size)); have HH5 := hid (kept HH3.out hb5); obtain ⟨v0, v1, v2, v3, v4, v5, v6, v7, v8, v9, v10, v11, v12, v13, v14⟩ := fifteen HH5.out; clear hb5))
      (try simp only [Exit.inBlock, Exit.then])
      go_ret
      exact ⟨⟨_, rfl, HI.out⟩, HB5.out⟩
end Go.Proofs.YtbdlahhejfamhaaGreatDoor.Qry
/- What the model asks of a node by itself (selections). -/
namespace Go.Proofs.YtbdlahhejfamhaaGreatDoor.Qry
open Go.RowKit
open Go.Proofs.YtbdlahhejfamhaaGreatDoor.Pat (ret_bool Mt m0 HasM nameL printL goodM)
open Go.Proofs.YtbdlahhejfamhaaGreatDoor.Fil (HasT FitT)

set_option maxHeartbeats 8000000 in
set_option maxRecDepth 100000 in
theorem nd_3 (q : R) (w : World) (h : q.kd = 3) (ht : told (pl q)) (hl : Lst w q) (hf : Ft q) (hs : wt q ≤ 1048576) : Calls Tryz.prog 101 #[.agg #[.int .i64 q.kd, .int .i64 q.nu, .int .i64 q.st, .string q.tx, .int .i64 q.op, .slice q.ma q.ms.length q.mc, .int .i64 q.off, .bool q.fx, .int .i64 q.att, .bool q.bo, .int .i64 q.byy, .slice q.na q.ns.length q.nc, .int .i64 q.sd, .slice q.ea q.es.length q.ec, .int .i64 q.kc]] w fun e w' => NdR q w e w' := by
  have k1 : (q.kd == 1) = false := by simp [h]
  have k2 : (q.kd == 2) = false := by simp [h]
  have k3 : (q.kd == 3) = true := by simp [h]
  have HK := hid h
  clear h
  have HTD := hid ht
  have HL := hid hl
  have HF := hid hf
  obtain ⟨X, hX⟩ : ∃ X, X = w.alloc (.cells #[.int .i64 q.kd, .int .i64 q.nu, .int .i64 q.st, .string q.tx, .int .i64 q.op, .slice q.ma q.ms.length q.mc, .int .i64 q.off, .bool q.fx, .int .i64 q.att, .bool q.bo, .int .i64 q.byy, .slice q.na q.ns.length q.nc, .int .i64 q.sd, .slice q.ea q.es.length q.ec, .int .i64 q.kc] 55) := ⟨_, rfl⟩
  have HGX : Hid (GB w w.heap.size q X) := by rw [hX]; exact GB.of (heap_alloc_new w _) ((Below.refl _ _).alloc (Nat.le_refl _) _)
  have HX := hid hX
  clear hX ht hl hf
  go_enter Tryz.func101, Tryz.ntmps101
  go_upto_region 1 with fail
  rw [← HX.out]
  go_region_held3 (fun w' => GB w w.heap.size q w') (first | exact HGX.out.drew | exact HG1.out | exact HG2.out | exact GB.drew (by assumption) | assumption) (first | (go_at_call 133; refine (f133 q _).mono ?_; rintro e w1 ⟨z, rfl, hz, hzl, hb1⟩; have HG1 := hid (HGX.out.drew.next hb1); have HZ := hid hz; have HZL := hid hzl; clear hb1 hz hzl) | (go_at_call 132; refine (f132 q z _ HZL.out.ms (HL.out.below HG1.out.hb.2) (HZL.out.lst (HL.out.below HG1.out.hb.2)) hs (Nat.le_trans HZL.out.wt hs)).mono ?_; rintro e w2 ⟨⟨bb, rfl, hbb⟩, hb2⟩; have HG2 := hid (HG1.out.next hb2); have hbf : bb = true := hbb.2 (HTD.out.trans HZ.out.symm); subst hbf; clear hb2 hbb))
  have HB2 := hid HG2.out.hb.2
  have HH2 := hid HG2.out.hb.1
  obtain ⟨x0, x1, x2, x3, x4, x5, x6, x7, x8, x9, x10, x11, x12, x13, x14⟩ := fifteen HH2.out
  have HR : Hid (right (pl q) = rSel (pl q)) := by
    unfold Hid right; rw [if_neg, if_neg, if_pos] <;> simp [pl, HK.out]
  have HKM : Hid (kidsM (pl q) ↔ q.kc = 0) := by unfold Hid kidsM pl; simp [HK.out]
  have HA : Hid (rSel (pl q) = ((if q.tx.size = 0 then !q.ms.isEmpty else nameL q.tx.data.toList && !wordM q.tx) && noName q.ms && decide (q.ms.length < 10) && goodM q.ms && moment (pl q))) := rfl
  have hms : q.ms.length ≤ 1048576 := by have := hs; unfold wt at this; omega
  go_wp2
  go_loopw [44] (fun i wr => ∃ k : Nat, k ≤ q.ms.length ∧ i = .int .i64 k ∧ Hid (∀ i, i < k → (q.ms.getD i m0).1 ≠ ⟨#[95, 110, 97, 109, 101]⟩) ∧ Hid (Below w2.heap.size w2 wr)) (fun i _ => q.ms.length - (intOf i).toNat)
  case atStart => exact ⟨0, Nat.zero_le _, rfl, fun i hi => by omega, Below.refl _ _⟩
  case round =>
    obtain ⟨k, hk, rfl, HU, HX2⟩ := hrel
    have HB3 := hid (HB2.out.trans (HX2.out.mono HB2.out.size))
    have HH3 := hid (kept HH2.out HX2.out)
    by_cases hlt : k < q.ms.length
    · obtain ⟨b, off1, ha, hbl, m0', m1', m2'⟩ := hasM_at2 (HL.out.below HB2.out).m k hlt
      have i1 : (k : Int) < (q.ms.length : Int) := by omega
      have e0 := (HX2.out.cell (p := ⟨b, off1 + k * 3, none⟩) hbl).trans m0'
      have e1 := (HX2.out.cell (p := ⟨b, off1 + k * 3 + 1, none⟩) hbl).trans m1'
      have e2 := (HX2.out.cell (p := ⟨b, off1 + k * 3 + 2, none⟩) hbl).trans m2'
      have HX4 := hid (HX2.out.alloc HX2.out.size (.cells #[.string (q.ms.getD k m0).1, .int .i64 (q.ms.getD k m0).2.1, .string (q.ms.getD k m0).2.2] 138))
      clear m0' m1' m2'
      by_cases hnm : (q.ms.getD k m0).1 = ⟨#[95, 110, 97, 109, 101]⟩
      · have hq : ((q.ms.getD k m0).1.toList == [95, 110, 97, 109, 101]) = true := by rw [hnm, ByteArray.toList_eq]; rfl
        have HI : Hid ((false = true) ↔ (right (pl q) = true ∧ kidsM (pl q))) := by
          have hn : noName q.ms = false := decide_eq_false fun h => h k hlt hnm
          unfold Hid; rw [HR.out, HA.out, hn]; simp
        have HB4 := hid (HB2.out.trans (HX4.out.mono HB2.out.size))
        clear hnm
        generalize (q.ms.getD k m0).1 = x0 at *
        generalize (q.ms.getD k m0).2.1 = x1 at *
        generalize (q.ms.getD k m0).2.2 = x2 at *
        go_wp2
        (try simp only [Exit.inBlock, Exit.then])
        go_ret
        exact ⟨⟨_, rfl, HI.out⟩, HB4.out⟩
      · have hq : ((q.ms.getD k m0).1.toList == [95, 110, 97, 109, 101]) = false := by
          rw [beq_eq_false_iff_ne]; intro e; apply hnm; rw [ByteArray.toList_eq] at e; exact WideShapes.bytes_inj (by rw [e])
        have HU2 : Hid (∀ i, i < k + 1 → (q.ms.getD i m0).1 ≠ ⟨#[95, 110, 97, 109, 101]⟩) := fun i hi => by
          by_cases e : i = k
          · subst e; exact hnm
          · exact HU.out i (by omega)
        clear hnm
        generalize hx0 : (q.ms.getD k m0).1 = x0 at e0 hq HX4
        generalize hx1 : (q.ms.getD k m0).2.1 = x1 at e1 HX4
        generalize hx2 : (q.ms.getD k m0).2.2 = x2 at e2 HX4
        clear hx0 hx1 hx2
        go_wp2
        go_roundw
        case rel => exact ⟨k + 1, by omega, by go_num, HU2, HX4⟩
        case measure => simp [intOf]; omega
    · have HNN : Hid (noName q.ms = true) := decide_eq_true fun i hi => HU.out i (by omega)
      clear x0 x1 x2 x3 x4 x5 x6 x7 x8 x9 x10 x11 x12 x13 x14
      obtain ⟨x0, x1, x2, x3, x4, x5, x6, x7, x8, x9, x10, x11, x12, x13, x14⟩ := fifteen HH3.out
      go_upto_region 15 with fail
      by_cases hkc : q.kc = 0
      case neg =>
        have hkc' : (q.kc == 0) = false := by simp [hkc]
        have HI : Hid ((false = true) ↔ (right (pl q) = true ∧ kidsM (pl q))) := by unfold Hid; rw [HKM.out]; simp [hkc]
        clear hkc
        go_wp2
        (try simp only [Exit.inBlock, Exit.then])
        go_ret
        exact ⟨⟨_, rfl, HI.out⟩, HB3.out⟩
      have hkc' : (q.kc == 0) = true := by simp [hkc]
      have HKC := hid hkc
      clear hkc
      by_cases htx : q.tx = ⟨#[]⟩
      · have g2 := empty_str htx
        have hsz : q.tx.size = 0 := by rw [htx]; rfl
        have hnl : nameL q.tx.data.toList = false := by rw [htx]; rfl
        have HSZ := hid hsz
        clear htx hsz
        by_cases hm0 : q.ms.length = 0
        · have hm0' : ¬ (0 : Int) < (q.ms.length : Int) := by omega
          have hme : q.ms.isEmpty = true := by rw [List.isEmpty_iff]; exact List.length_eq_zero_iff.1 hm0
          have hmz : q.ms = [] := List.length_eq_zero_iff.1 hm0
          clear hm0
          have HI : Hid ((false = true) ↔ (right (pl q) = true ∧ kidsM (pl q))) := by
            unfold Hid; rw [HR.out, HA.out, HKM.out]; rw [if_pos HSZ.out, hme]; simp
          go_wp2_with (first | (go_at_call 90; refine (Pat.f90 q.tx _ HF.out.tx).mono ?_; rintro e w' ⟨rfl, hw'⟩; have hw2 := hw'.symm; clear hw'; subst hw2))
          (try simp only [Exit.inBlock, Exit.then])
          go_ret
          exact ⟨⟨_, rfl, HI.out⟩, HB3.out⟩
        have hm0' : (0 : Int) < (q.ms.length : Int) := by omega
        have hme : q.ms.isEmpty = false := by cases hq : q.ms with | nil => rw [hq] at hm0; simp at hm0 | cons a l => rfl
        have hmz : ¬ q.ms = [] := fun e => hm0 (by rw [e]; rfl)
        have hmp : 0 < q.ms.length := by omega
        clear hm0
        cases hgm : goodM q.ms
        case false =>
          have HI : Hid ((false = true) ↔ (right (pl q) = true ∧ kidsM (pl q))) := by
            unfold Hid; rw [HR.out, HA.out, HKM.out]; simp [hgm]
          go_wp2_with (first | (go_at_call 136; refine (Pat.f136 q.ma q.ms.length q.mc q.ms _ rfl HF.out.ms.2 (HL.out.below HB3.out).m HF.out.ms.1).mono ?_; rintro e w5 ⟨rfl, hb5⟩; have HB5 := hid (HB3.out.trans (hb5.mono HB3.out.size)); have HH5 := hid (kept HH3.out hb5); obtain ⟨v0, v1, v2, v3, v4, v5, v6, v7, v8, v9, v10, v11, v12, v13, v14⟩ := fifteen HH5.out; clear hb5) | (go_at_call 137; refine (f137 q _).mono ?_; rintro e w6 ⟨rfl, hb6⟩; have HB6 := hid (HB5.out.trans (hb6.mono HB5.out.size)); clear hb6))
          (try simp only [Exit.inBlock, Exit.then])
          go_ret
          exact ⟨⟨_, rfl, HI.out⟩, HB5.out⟩
        by_cases h10 : q.ms.length < 10
        case neg =>
          have h10' : ¬ (q.ms.length : Int) < 10 := by omega
          have HI : Hid ((false = true) ↔ (right (pl q) = true ∧ kidsM (pl q))) := by
            unfold Hid; rw [HR.out, HA.out, HKM.out]; simp [h10]
          go_wp2_with (first | (go_at_call 136; refine (Pat.f136 q.ma q.ms.length q.mc q.ms _ rfl HF.out.ms.2 (HL.out.below HB3.out).m HF.out.ms.1).mono ?_; rintro e w5 ⟨rfl, hb5⟩; have HB5 := hid (HB3.out.trans (hb5.mono HB3.out.size)); have HH5 := hid (kept HH3.out hb5); obtain ⟨v0, v1, v2, v3, v4, v5, v6, v7, v8, v9, v10, v11, v12, v13, v14⟩ := fifteen HH5.out; clear hb5) | (go_at_call 137; refine (f137 q _).mono ?_; rintro e w6 ⟨rfl, hb6⟩; have HB6 := hid (HB5.out.trans (hb6.mono HB5.out.size)); clear hb6))
          (try simp only [Exit.inBlock, Exit.then])
          go_ret
          exact ⟨⟨_, rfl, HI.out⟩, HB5.out⟩
        have h10' : (q.ms.length : Int) < 10 := by omega
        have HI : Hid ((moment (pl q) = true) ↔ (right (pl q) = true ∧ kidsM (pl q))) := by
          unfold Hid; rw [HR.out, HA.out, HKM.out, HNN.out, hgm, decide_eq_true h10]; simp [HSZ.out, hme, HKC.out]
        go_wp2_with (first | (go_at_call 136; refine (Pat.f136 q.ma q.ms.length q.mc q.ms _ rfl HF.out.ms.2 (HL.out.below HB3.out).m HF.out.ms.1).mono ?_; rintro e w5 ⟨rfl, hb5⟩; have HB5 := hid (HB3.out.trans (hb5.mono HB3.out.size)); have HH5 := hid (kept HH3.out hb5); obtain ⟨v0, v1, v2, v3, v4, v5, v6, v7, v8, v9, v10, v11, v12, v13, v14⟩ := fifteen HH5.out; clear hb5) | (go_at_call 137; refine (f137 q _).mono ?_; rintro e w6 ⟨rfl, hb6⟩; have HB6 := hid (HB5.out.trans (hb6.mono HB5.out.size)); clear hb6))
        (try simp only [Exit.inBlock, Exit.then])
        go_ret
        exact ⟨⟨_, rfl, HI.out⟩, HB6.out⟩
      · have g2 := some_str htx
        have hsz : q.tx.size ≠ 0 := fun e => htx (by apply ByteArray.ext; exact Array.eq_empty_of_size_eq_zero e)
        have HSZ := hid hsz
        clear htx hsz
        cases hnl : nameL q.tx.data.toList
        case false =>
          have HI : Hid ((false = true) ↔ (right (pl q) = true ∧ kidsM (pl q))) := by
            unfold Hid; rw [HR.out, HA.out, HKM.out]; rw [if_neg HSZ.out, hnl]; simp
          go_wp2_with (first | (go_at_call 90; refine (Pat.f90 q.tx _ HF.out.tx).mono ?_; rintro e w' ⟨rfl, hw'⟩; have hw2 := hw'.symm; clear hw'; subst hw2))
          (try simp only [Exit.inBlock, Exit.then])
          go_ret
          exact ⟨⟨_, rfl, HI.out⟩, HB3.out⟩
        cases hwd : wordM q.tx
        case true =>
          have HI : Hid ((false = true) ↔ (right (pl q) = true ∧ kidsM (pl q))) := by
            unfold Hid; rw [HR.out, HA.out, HKM.out]; rw [if_neg HSZ.out, hwd]; simp
          go_wp2_with (first | (go_at_call 90; refine (Pat.f90 q.tx _ HF.out.tx).mono ?_; rintro e w' ⟨rfl, hw'⟩; have hw2 := hw'.symm; clear hw'; subst hw2) | (go_at_call 135; refine (f135 q.tx _).mono ?_; rintro e w4 ⟨rfl, hb4⟩; have HB4 := hid (HB3.out.trans (hb4.mono HB3.out.size)); have HH4 := hid (kept HH3.out hb4); obtain ⟨s0, s1, s2, s3, s4, s5, s6, s7, s8, s9, s10, s11, s12, s13, s14⟩ := fifteen HH4.out; clear hb4))
          (try simp only [Exit.inBlock, Exit.then])
          go_ret
          exact ⟨⟨_, rfl, HI.out⟩, HB4.out⟩
        cases hgm : goodM q.ms
        case false =>
          have HI : Hid ((false = true) ↔ (right (pl q) = true ∧ kidsM (pl q))) := by
            unfold Hid; rw [HR.out, HA.out, HKM.out]; simp [hgm]
          go_wp2_with (first | (go_at_call 90; refine (Pat.f90 q.tx _ HF.out.tx).mono ?_; rintro e w' ⟨rfl, hw'⟩; have hw2 := hw'.symm; clear hw'; subst hw2) | (go_at_call 135; refine (f135 q.tx _).mono ?_; rintro e w4 ⟨rfl, hb4⟩; have HB4 := hid (HB3.out.trans (hb4.mono HB3.out.size)); have HH4 := hid (kept HH3.out hb4); obtain ⟨s0, s1, s2, s3, s4, s5, s6, s7, s8, s9, s10, s11, s12, s13, s14⟩ := fifteen HH4.out; clear hb4) | (go_at_call 136; refine (Pat.f136 q.ma q.ms.length q.mc q.ms _ rfl HF.out.ms.2 (HL.out.below HB4.out).m HF.out.ms.1).mono ?_; rintro e w5 ⟨rfl, hb5⟩; have HB5 := hid (HB4.out.trans (hb5.mono HB4.out.size)); have HH5 := hid (kept HH4.out hb5); obtain ⟨v0, v1, v2, v3, v4, v5, v6, v7, v8, v9, v10, v11, v12, v13, v14⟩ := fifteen HH5.out; clear hb5) | (go_at_call 137; refine (f137 q _).mono ?_; rintro e w6 ⟨rfl, hb6⟩; have HB6 := hid (HB5.out.trans (hb6.mono HB5.out.size)); clear hb6))
          (try simp only [Exit.inBlock, Exit.then])
          go_ret
          exact ⟨⟨_, rfl, HI.out⟩, HB5.out⟩
        by_cases h10 : q.ms.length < 10
        case neg =>
          have h10' : ¬ (q.ms.length : Int) < 10 := by omega
          have HI : Hid ((false = true) ↔ (right (pl q) = true ∧ kidsM (pl q))) := by
            unfold Hid; rw [HR.out, HA.out, HKM.out]; simp [h10]
          go_wp2_with (first | (go_at_call 90; refine (Pat.f90 q.tx _ HF.out.tx).mono ?_; rintro e w' ⟨rfl, hw'⟩; have hw2 := hw'.symm; clear hw'; subst hw2) | (go_at_call 135; refine (f135 q.tx _).mono ?_; rintro e w4 ⟨rfl, hb4⟩; have HB4 := hid (HB3.out.trans (hb4.mono HB3.out.size)); have HH4 := hid (kept HH3.out hb4); obtain ⟨s0, s1, s2, s3, s4, s5, s6, s7, s8, s9, s10, s11, s12, s13, s14⟩ := fifteen HH4.out; clear hb4) | (go_at_call 136; refine (Pat.f136 q.ma q.ms.length q.mc q.ms _ rfl HF.out.ms.2 (HL.out.below HB4.out).m HF.out.ms.1).mono ?_; rintro e w5 ⟨rfl, hb5⟩; have HB5 := hid (HB4.out.trans (hb5.mono HB4.out.size)); have HH5 := hid (kept HH4.out hb5); obtain ⟨v0, v1, v2, v3, v4, v5, v6, v7, v8, v9, v10, v11, v12, v13, v14⟩ := fifteen HH5.out; clear hb5) | (go_at_call 137; refine (f137 q _).mono ?_; rintro e w6 ⟨rfl, hb6⟩; have HB6 := hid (HB5.out.trans (hb6.mono HB5.out.size)); clear hb6))
          (try simp only [Exit.inBlock, Exit.then])
          go_ret
          exact ⟨⟨_, rfl, HI.out⟩, HB5.out⟩
        have h10' : (q.ms.length : Int) < 10 := by omega
        have HI : Hid ((moment (pl q) = true) ↔ (right (pl q) = true ∧ kidsM (pl q))) := by
          unfold Hid; rw [HR.out, HA.out, HKM.out, HNN.out, hgm, decide_eq_true h10]; simp [HSZ.out, hnl, hwd, HKC.out]
        go_wp2_with (first | (go_at_call 90; refine (Pat.f90 q.tx _ HF.out.tx).mono ?_; rintro e w' ⟨rfl, hw'⟩; have hw2 := hw'.symm; clear hw'; subst hw2) | (go_at_call 135; refine (f135 q.tx _).mono ?_; rintro e w4 ⟨rfl, hb4⟩; have HB4 := hid (HB3.out.trans (hb4.mono HB3.out.size)); have HH4 := hid (kept HH3.out hb4); obtain ⟨s0, s1, s2, s3, s4, s5, s6, s7, s8, s9, s10, s11, s12, s13, s14⟩ := fifteen HH4.out; clear hb4) | (go_at_call 136; refine (Pat.f136 q.ma q.ms.length q.mc q.ms _ rfl HF.out.ms.2 (HL.out.below HB4.out).m HF.out.ms.1).mono ?_; rintro e w5 ⟨rfl, hb5⟩; have HB5 := hid (HB4.out.trans (hb5.mono HB4.out.size)); have HH5 := hid (kept HH4.out hb5); obtain ⟨v0, v1, v2, v3, v4, v5, v6, v7, v8, v9, v10, v11, v12, v13, v14⟩ := fifteen HH5.out; clear hb5) | (go_at_call 137; refine (f137 q _).mono ?_; rintro e w6 ⟨rfl, hb6⟩; have HB6 := hid (HB5.out.trans (hb6.mono HB5.out.size)); clear hb6))
        (try simp only [Exit.inBlock, Exit.then])
        go_ret
        exact ⟨⟨_, rfl, HI.out⟩, HB6.out⟩
end Go.Proofs.YtbdlahhejfamhaaGreatDoor.Qry
