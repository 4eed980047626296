/- What the model asks of a node by itself (calls). -/
import Derived.Test.YtbdlahhejfamhaaGreatDoorRC3
namespace Go.Proofs.YtbdlahhejfamhaaGreatDoor.Qry
open Go.RowKit
open Go.Proofs.YtbdlahhejfamhaaGreatDoor.Pat (ret_bool Mt m0 HasM nameL printL goodM)
open Go.Proofs.YtbdlahhejfamhaaGreatDoor.Fil (HasT FitT)
theorem f140b (a : Option Addr) (n c : Nat) (ss : List ByteArray) (x : ByteArray) (b : Bool) (w : World) (hn : ss.length = n) (hb : n ≤ 1048576) (hr : HasT w a ss) (hm : decide (x ∈ ss) = b) : Calls Tryz.prog 140 #[.slice a n c, .string x] w fun e w' => e = .returned (.bool b) ∧ w' = w := by
  subst hm; exact f140 a n c ss x w hn hb hr

set_option maxHeartbeats 8000000 in
set_option maxRecDepth 100000 in
theorem nd_9 (q : R) (w : World) (h : q.kd = 9) (ht : told (pl q)) (hl : Lst w q) (hf : Ft q) (hs : wt q ≤ 1048576) : Calls Tryz.prog 101 #[.agg #[.int .i64 q.kd, .int .i64 q.nu, .int .i64 q.st, .string q.tx, .int .i64 q.op, .slice q.ma q.ms.length q.mc, .int .i64 q.off, .bool q.fx, .int .i64 q.att, .bool q.bo, .int .i64 q.byy, .slice q.na q.ns.length q.nc, .int .i64 q.sd, .slice q.ea q.es.length q.ec, .int .i64 q.kc]] w fun e w' => NdR q w e w' := by
  have k1 : (q.kd == 1) = false := by simp [h]
  have k2 : (q.kd == 2) = false := by simp [h]
  have k3 : (q.kd == 3) = false := by simp [h]
  have k4 : (q.kd == 4) = false := by simp [h]
  have k5 : (q.kd == 5) = false := by simp [h]
  have k6 : (q.kd == 6) = false := by simp [h]
  have k7 : (q.kd == 7) = false := by simp [h]
  have k8 : (q.kd == 8) = false := by simp [h]
  have k9 : (q.kd == 9) = true := by simp [h]
  have HK := hid h
  clear h
  have HTD := hid ht
  have HL := hid hl
  have HF := hid hf
  obtain ⟨X, hX⟩ : ∃ X, X = w.alloc (.cells #[.int .i64 q.kd, .int .i64 q.nu, .int .i64 q.st, .string q.tx, .int .i64 q.op, .slice q.ma q.ms.length q.mc, .int .i64 q.off, .bool q.fx, .int .i64 q.att, .bool q.bo, .int .i64 q.byy, .slice q.na q.ns.length q.nc, .int .i64 q.sd, .slice q.ea q.es.length q.ec, .int .i64 q.kc] 55) := ⟨_, rfl⟩
  have HGX : Hid (GB w w.heap.size q X) := by rw [hX]; exact GB.of (heap_alloc_new w _) ((Below.refl _ _).alloc (Nat.le_refl _) _)
  have HX := hid hX
  clear hX ht hl hf
  go_enter Tryz.func101, Tryz.ntmps101
  go_upto_region 1 with fail
  rw [← HX.out]
  go_region_held3 (fun w' => GB w w.heap.size q w') (first | exact HGX.out.drew | exact HG1.out | exact HG2.out | exact GB.drew (by assumption) | assumption) (first | (go_at_call 133; refine (f133 q _).mono ?_; rintro e w1 ⟨z, rfl, hz, hzl, hb1⟩; have HG1 := hid (HGX.out.drew.next hb1); have HZ := hid hz; have HZL := hid hzl; clear hb1 hz hzl) | (go_at_call 132; refine (f132 q z _ HZL.out.ms (HL.out.below HG1.out.hb.2) (HZL.out.lst (HL.out.below HG1.out.hb.2)) hs (Nat.le_trans HZL.out.wt hs)).mono ?_; rintro e w2 ⟨⟨bb, rfl, hbb⟩, hb2⟩; have HG2 := hid (HG1.out.next hb2); have hbf : bb = true := hbb.2 (HTD.out.trans HZ.out.symm); subst hbf; clear hb2 hbb))
  have HB2 := hid HG2.out.hb.2
  have HH2 := hid HG2.out.hb.1
  obtain ⟨x0, x1, x2, x3, x4, x5, x6, x7, x8, x9, x10, x11, x12, x13, x14⟩ := fifteen HH2.out
  have HR : Hid (right (pl q) = (decide (q.tx ∈ fnN) && decide (q.kc ≤ 10))) := by
    unfold Hid right; rw [if_neg, if_neg, if_neg, if_neg, if_neg, if_neg, if_neg, if_neg, if_pos] <;> simp [pl, HK.out]
  have HKM : Hid (kidsM (pl q) ↔ 0 ≤ q.kc) := by unfold Hid kidsM pl; simp [HK.out]
  have LF : fnN.length = 23 := rfl
  by_cases hm : q.tx ∈ fnN
  case neg =>
    have hm' : decide (q.tx ∈ fnN) = false := decide_eq_false hm
    have HI : Hid ((false = true) ↔ (right (pl q) = true ∧ kidsM (pl q))) := by unfold Hid; rw [HR.out, hm']; simp
    clear hm
    go_upto_region 32 with fail
    refine wp_region_held_drew (S := fun w' => w'.cell? ⟨w.heap.size, 3, none⟩ = some (.string q.tx) ∧ w'.cell? ⟨w.heap.size, 14, none⟩ = some (.int .i64 q.kc)) rfl ⟨x3, x14⟩ (fun hHeld => ?_)
    refine wpAnyH_take (i := 1) (oi := { dst := some 238, op := _, type := _, pos := _, after := _, guard := _ }) (v := .pointer (some ⟨w.heap.size, 3, none⟩)) rfl (by kernel_rfl) (by kernel_rfl) (by kernel_rfl) (fun _ _ _ h => h) (Or.inl ⟨by rfl, fun w hSw => by (try dsimp only at hSw); (try go_split_ands); go_simp⟩) (by first | trivial | assumption) ?_
    try simp only [Act.put, List.setIfInBounds_toArray, List.set_cons_zero, List.set_cons_succ]
    refine wpAnyH_take (i := 2) (oi := { dst := some 239, op := _, type := _, pos := _, after := _, guard := _ }) (v := .string q.tx) rfl (by kernel_rfl) (by kernel_rfl) (by kernel_rfl) (fun _ _ _ h => h) (Or.inl ⟨by rfl, fun w hSw => by (try dsimp only at hSw); (try go_split_ands); go_simp⟩) (by first | trivial | assumption) ?_
    try simp only [Act.put, List.setIfInBounds_toArray, List.set_cons_zero, List.set_cons_succ]
    refine wpAnyH_ready (rs := [0]) (by kernel_rfl) (by simp) (AllReadyH.cons (o := { dst := some 237, op := _, type := _, pos := _, after := _, guard := _ }) rfl ?_ AllReadyH.nil)
    intro KA hKA
    go_simp
    go_wp2_with (go_at_call 141; refine (f141 _).mono ?_; rintro e w4 ⟨rfl, ht4, hb4⟩)
    have HT4 := hid ht4
    have HB4 := hid (HB2.out.drew.trans (hb4.mono HB2.out.size))
    have HH4 := hid (kept (x := w2.drew) HH2.out hb4)
    obtain ⟨z0, z1, z2, z3, z4, z5, z6, z7, z8, z9, z10, z11, z12, z13, z14⟩ := fifteen HH4.out
    clear ht4 hb4
    refine hKA.out _ _ ⟨z3, z14⟩ (fun _ => ?_)
    clear hKA KA
    try simp only [Act.put, List.setIfInBounds_toArray, List.set_cons_zero, List.set_cons_succ]
    refine wpAnyH_ready (rs := [3]) (by kernel_rfl) (by simp) (AllReadyH.cons (o := { dst := some 240, op := _, type := _, pos := _, after := _, guard := _ }) rfl ?_ AllReadyH.nil)
    intro KB hKB
    go_simp
    go_wp2_with (go_at_call 140; refine (f140b _ 23 23 fnN q.tx _ _ LF (by omega) HT4.out hm').mono ?_; rintro e w' ⟨rfl, hw'⟩)
    have hw2 := hw'.symm
    clear hw'
    subst hw2
    refine hKB.out _ _ ⟨z3, z14⟩ (fun _ => ?_)
    clear hKB KB
    try simp only [Act.put, List.setIfInBounds_toArray, List.set_cons_zero, List.set_cons_succ]
    refine wpAnyH_take (i := 4) (oi := { dst := some 241, op := _, type := _, pos := _, after := _, guard := _ }) (v := .bool false) rfl (by kernel_rfl) (by kernel_rfl) (by kernel_rfl) (fun _ _ _ h => h) (Or.inl ⟨by rfl, fun w hSw => by (try dsimp only at hSw); (try go_split_ands); go_simp⟩) (by first | trivial | assumption) ?_
    try simp only [Act.put, List.setIfInBounds_toArray, List.set_cons_zero, List.set_cons_succ]
    refine wpAnyH_take (i := 5) (oi := { dst := some 242, op := _, type := _, pos := _, after := _, guard := _ }) (v := undef) rfl (by kernel_rfl) (by kernel_rfl) (by kernel_rfl) (fun _ _ _ h => h) (Or.inr ⟨by rfl, rfl⟩) (by first | trivial | assumption) ?_
    try simp only [Act.put, List.setIfInBounds_toArray, List.set_cons_zero, List.set_cons_succ]
    refine wpAnyH_take (i := 6) (oi := { dst := some 243, op := _, type := _, pos := _, after := _, guard := _ }) (v := undef) rfl (by kernel_rfl) (by kernel_rfl) (by kernel_rfl) (fun _ _ _ h => h) (Or.inr ⟨by rfl, rfl⟩) (by first | trivial | assumption) ?_
    try simp only [Act.put, List.setIfInBounds_toArray, List.set_cons_zero, List.set_cons_succ]
    refine wpAnyH_take (i := 7) (oi := { dst := some 244, op := _, type := _, pos := _, after := _, guard := _ }) (v := undef) rfl (by kernel_rfl) (by kernel_rfl) (by kernel_rfl) (fun _ _ _ h => h) (Or.inr ⟨by rfl, rfl⟩) (by first | trivial | assumption) ?_
    try simp only [Act.put, List.setIfInBounds_toArray, List.set_cons_zero, List.set_cons_succ]
    refine wpAnyH_take (i := 8) (oi := { dst := some 245, op := _, type := _, pos := _, after := _, guard := _ }) (v := .bool false) rfl (by kernel_rfl) (by kernel_rfl) (by kernel_rfl) (fun _ _ _ h => h) (Or.inl ⟨by rfl, fun w hSw => by (try dsimp only at hSw); (try go_split_ands); go_simp⟩) (by first | trivial | assumption) ?_
    try simp only [Act.put, List.setIfInBounds_toArray, List.set_cons_zero, List.set_cons_succ]
    refine wpAnyH_take (i := 9) (oi := { dst := some 246, op := _, type := _, pos := _, after := _, guard := _ }) (v := .bool false) rfl (by kernel_rfl) (by kernel_rfl) (by kernel_rfl) (fun _ _ _ h => h) (Or.inl ⟨by rfl, fun w hSw => by (try dsimp only at hSw); (try go_split_ands); go_simp⟩) (by first | trivial | assumption) ?_
    try simp only [Act.put, List.setIfInBounds_toArray, List.set_cons_zero, List.set_cons_succ]
    refine wpAnyH_take (i := 10) (oi := { dst := some 247, op := _, type := _, pos := _, after := _, guard := _ }) (v := undef) rfl (by kernel_rfl) (by kernel_rfl) (by kernel_rfl) (fun _ _ _ h => h) (Or.inr ⟨by rfl, rfl⟩) (by first | trivial | assumption) ?_
    try simp only [Act.put, List.setIfInBounds_toArray, List.set_cons_zero, List.set_cons_succ]
    refine wpAnyH_take (i := 11) (oi := { dst := some 248, op := _, type := _, pos := _, after := _, guard := _ }) (v := undef) rfl (by kernel_rfl) (by kernel_rfl) (by kernel_rfl) (fun _ _ _ h => h) (Or.inr ⟨by rfl, rfl⟩) (by first | trivial | assumption) ?_
    try simp only [Act.put, List.setIfInBounds_toArray, List.set_cons_zero, List.set_cons_succ]
    refine wpAnyH_take (i := 12) (oi := { dst := some 249, op := _, type := _, pos := _, after := _, guard := _ }) (v := undef) rfl (by kernel_rfl) (by kernel_rfl) (by kernel_rfl) (fun _ _ _ h => h) (Or.inr ⟨by rfl, rfl⟩) (by first | trivial | assumption) ?_
    try simp only [Act.put, List.setIfInBounds_toArray, List.set_cons_zero, List.set_cons_succ]
    refine wpAnyH_take (i := 13) (oi := { dst := some 250, op := _, type := _, pos := _, after := _, guard := _ }) (v := .bool false) rfl (by kernel_rfl) (by kernel_rfl) (by kernel_rfl) (fun _ _ _ h => h) (Or.inl ⟨by rfl, fun w hSw => by (try dsimp only at hSw); (try go_split_ands); go_simp⟩) (by first | trivial | assumption) ?_
    try simp only [Act.put, List.setIfInBounds_toArray, List.set_cons_zero, List.set_cons_succ]
    refine wpAnyH_take (i := 14) (oi := { dst := some 2, op := _, type := _, pos := _, after := _, guard := _ }) (v := .bool false) rfl (by kernel_rfl) (by kernel_rfl) (by kernel_rfl) (fun _ _ _ h => h) (Or.inl ⟨by rfl, fun w hSw => by (try dsimp only at hSw); (try go_split_ands); go_simp⟩) (by first | trivial | assumption) ?_
    try simp only [Act.put, List.setIfInBounds_toArray, List.set_cons_zero, List.set_cons_succ]
    refine wpAnyH_done (by kernel_rfl) ?_ _
    go_wp2
    (try simp only [Exit.inBlock, Exit.then])
    go_ret
    exact ⟨⟨_, rfl, HI.out⟩, HB4.out⟩
  have hm' : decide (q.tx ∈ fnN) = true := decide_eq_true hm
  clear hm
  by_cases hk0 : 0 ≤ q.kc
  case neg =>
    have HI : Hid ((false = true) ↔ (right (pl q) = true ∧ kidsM (pl q))) := by unfold Hid; rw [HKM.out]; simp [hk0]
    go_upto_region 32 with fail
    refine wp_region_held_drew (S := fun w' => w'.cell? ⟨w.heap.size, 3, none⟩ = some (.string q.tx) ∧ w'.cell? ⟨w.heap.size, 14, none⟩ = some (.int .i64 q.kc)) rfl ⟨x3, x14⟩ (fun hHeld => ?_)
    refine wpAnyH_take (i := 1) (oi := { dst := some 238, op := _, type := _, pos := _, after := _, guard := _ }) (v := .pointer (some ⟨w.heap.size, 3, none⟩)) rfl (by kernel_rfl) (by kernel_rfl) (by kernel_rfl) (fun _ _ _ h => h) (Or.inl ⟨by rfl, fun w hSw => by (try dsimp only at hSw); (try go_split_ands); go_simp⟩) (by first | trivial | assumption) ?_
    try simp only [Act.put, List.setIfInBounds_toArray, List.set_cons_zero, List.set_cons_succ]
    refine wpAnyH_take (i := 2) (oi := { dst := some 239, op := _, type := _, pos := _, after := _, guard := _ }) (v := .string q.tx) rfl (by kernel_rfl) (by kernel_rfl) (by kernel_rfl) (fun _ _ _ h => h) (Or.inl ⟨by rfl, fun w hSw => by (try dsimp only at hSw); (try go_split_ands); go_simp⟩) (by first | trivial | assumption) ?_
    try simp only [Act.put, List.setIfInBounds_toArray, List.set_cons_zero, List.set_cons_succ]
    refine wpAnyH_ready (rs := [0]) (by kernel_rfl) (by simp) (AllReadyH.cons (o := { dst := some 237, op := _, type := _, pos := _, after := _, guard := _ }) rfl ?_ AllReadyH.nil)
    intro KA hKA
    go_simp
    go_wp2_with (go_at_call 141; refine (f141 _).mono ?_; rintro e w4 ⟨rfl, ht4, hb4⟩)
    have HT4 := hid ht4
    have HB4 := hid (HB2.out.drew.trans (hb4.mono HB2.out.size))
    have HH4 := hid (kept (x := w2.drew) HH2.out hb4)
    obtain ⟨z0, z1, z2, z3, z4, z5, z6, z7, z8, z9, z10, z11, z12, z13, z14⟩ := fifteen HH4.out
    clear ht4 hb4
    refine hKA.out _ _ ⟨z3, z14⟩ (fun _ => ?_)
    clear hKA KA
    try simp only [Act.put, List.setIfInBounds_toArray, List.set_cons_zero, List.set_cons_succ]
    refine wpAnyH_ready (rs := [3]) (by kernel_rfl) (by simp) (AllReadyH.cons (o := { dst := some 240, op := _, type := _, pos := _, after := _, guard := _ }) rfl ?_ AllReadyH.nil)
    intro KB hKB
    go_simp
    go_wp2_with (go_at_call 140; refine (f140b _ 23 23 fnN q.tx _ _ LF (by omega) HT4.out hm').mono ?_; rintro e w' ⟨rfl, hw'⟩)
    have hw2 := hw'.symm
    clear hw'
    subst hw2
    refine hKB.out _ _ ⟨z3, z14⟩ (fun _ => ?_)
    clear hKB KB
    try simp only [Act.put, List.setIfInBounds_toArray, List.set_cons_zero, List.set_cons_succ]
    refine wpAnyH_take (i := 4) (oi := { dst := some 241, op := _, type := _, pos := _, after := _, guard := _ }) (v := .bool true) rfl (by kernel_rfl) (by kernel_rfl) (by kernel_rfl) (fun _ _ _ h => h) (Or.inl ⟨by rfl, fun w hSw => by (try dsimp only at hSw); (try go_split_ands); go_simp⟩) (by first | trivial | assumption) ?_
    try simp only [Act.put, List.setIfInBounds_toArray, List.set_cons_zero, List.set_cons_succ]
    refine wpAnyH_take (i := 5) (oi := { dst := some 242, op := _, type := _, pos := _, after := _, guard := _ }) (v := .pointer (some ⟨w.heap.size, 14, none⟩)) rfl (by kernel_rfl) (by kernel_rfl) (by kernel_rfl) (fun _ _ _ h => h) (Or.inl ⟨by rfl, fun w hSw => by (try dsimp only at hSw); (try go_split_ands); go_simp⟩) (by first | trivial | assumption) ?_
    try simp only [Act.put, List.setIfInBounds_toArray, List.set_cons_zero, List.set_cons_succ]
    refine wpAnyH_take (i := 6) (oi := { dst := some 243, op := _, type := _, pos := _, after := _, guard := _ }) (v := .int .i64 q.kc) rfl (by kernel_rfl) (by kernel_rfl) (by kernel_rfl) (fun _ _ _ h => h) (Or.inl ⟨by rfl, fun w hSw => by (try dsimp only at hSw); (try go_split_ands); go_simp⟩) (by first | trivial | assumption) ?_
    try simp only [Act.put, List.setIfInBounds_toArray, List.set_cons_zero, List.set_cons_succ]
    refine wpAnyH_take (i := 7) (oi := { dst := some 244, op := _, type := _, pos := _, after := _, guard := _ }) (v := .bool false) rfl (by kernel_rfl) (by kernel_rfl) (by kernel_rfl) (fun _ _ _ h => h) (Or.inl ⟨by rfl, fun w hSw => by (try dsimp only at hSw); (try go_split_ands); go_simp⟩) (by first | trivial | assumption) ?_
    try simp only [Act.put, List.setIfInBounds_toArray, List.set_cons_zero, List.set_cons_succ]
    refine wpAnyH_take (i := 8) (oi := { dst := some 245, op := _, type := _, pos := _, after := _, guard := _ }) (v := .bool false) rfl (by kernel_rfl) (by kernel_rfl) (by kernel_rfl) (fun _ _ _ h => h) (Or.inl ⟨by rfl, fun w hSw => by (try dsimp only at hSw); (try go_split_ands); go_simp⟩) (by first | trivial | assumption) ?_
    try simp only [Act.put, List.setIfInBounds_toArray, List.set_cons_zero, List.set_cons_succ]
    refine wpAnyH_take (i := 9) (oi := { dst := some 246, op := _, type := _, pos := _, after := _, guard := _ }) (v := .bool false) rfl (by kernel_rfl) (by kernel_rfl) (by kernel_rfl) (fun _ _ _ h => h) (Or.inl ⟨by rfl, fun w hSw => by (try dsimp only at hSw); (try go_split_ands); go_simp⟩) (by first | trivial | assumption) ?_
    try simp only [Act.put, List.setIfInBounds_toArray, List.set_cons_zero, List.set_cons_succ]
    refine wpAnyH_take (i := 10) (oi := { dst := some 247, op := _, type := _, pos := _, after := _, guard := _ }) (v := undef) rfl (by kernel_rfl) (by kernel_rfl) (by kernel_rfl) (fun _ _ _ h => h) (Or.inr ⟨by rfl, rfl⟩) (by first | trivial | assumption) ?_
    try simp only [Act.put, List.setIfInBounds_toArray, List.set_cons_zero, List.set_cons_succ]
    refine wpAnyH_take (i := 11) (oi := { dst := some 248, op := _, type := _, pos := _, after := _, guard := _ }) (v := undef) rfl (by kernel_rfl) (by kernel_rfl) (by kernel_rfl) (fun _ _ _ h => h) (Or.inr ⟨by rfl, rfl⟩) (by first | trivial | assumption) ?_
    try simp only [Act.put, List.setIfInBounds_toArray, List.set_cons_zero, List.set_cons_succ]
    refine wpAnyH_take (i := 12) (oi := { dst := some 249, op := _, type := _, pos := _, after := _, guard := _ }) (v := undef) rfl (by kernel_rfl) (by kernel_rfl) (by kernel_rfl) (fun _ _ _ h => h) (Or.inr ⟨by rfl, rfl⟩) (by first | trivial | assumption) ?_
    try simp only [Act.put, List.setIfInBounds_toArray, List.set_cons_zero, List.set_cons_succ]
    refine wpAnyH_take (i := 13) (oi := { dst := some 250, op := _, type := _, pos := _, after := _, guard := _ }) (v := .bool false) rfl (by kernel_rfl) (by kernel_rfl) (by kernel_rfl) (fun _ _ _ h => h) (Or.inl ⟨by rfl, fun w hSw => by (try dsimp only at hSw); (try go_split_ands); go_simp⟩) (by first | trivial | assumption) ?_
    try simp only [Act.put, List.setIfInBounds_toArray, List.set_cons_zero, List.set_cons_succ]
    refine wpAnyH_take (i := 14) (oi := { dst := some 2, op := _, type := _, pos := _, after := _, guard := _ }) (v := .bool false) rfl (by kernel_rfl) (by kernel_rfl) (by kernel_rfl) (fun _ _ _ h => h) (Or.inl ⟨by rfl, fun w hSw => by (try dsimp only at hSw); (try go_split_ands); go_simp⟩) (by first | trivial | assumption) ?_
    try simp only [Act.put, List.setIfInBounds_toArray, List.set_cons_zero, List.set_cons_succ]
    refine wpAnyH_done (by kernel_rfl) ?_ _
    go_wp2
    (try simp only [Exit.inBlock, Exit.then])
    go_ret
    exact ⟨⟨_, rfl, HI.out⟩, HB4.out⟩
  have HI : Hid ((decide (q.kc ≤ 10) = true) ↔ (right (pl q) = true ∧ kidsM (pl q))) := by unfold Hid; rw [HKM.out, HR.out, hm']; simp [hk0]
  go_upto_region 32 with fail
  go_region_with (first | (go_at_call 141; refine (f141 _).mono ?_; rintro e w4 ⟨rfl, ht4, hb4⟩; have HT4 := hid ht4; have HB4 := hid (HB2.out.drew.trans (hb4.mono HB2.out.size)); have HH4 := hid (kept (x := w2.drew) HH2.out hb4); obtain ⟨z0, z1, z2, z3, z4, z5, z6, z7, z8, z9, z10, z11, z12, z13, z14⟩ := fifteen HH4.out; clear ht4 hb4) | (go_at_call 140; refine (f140 _ 23 23 fnN q.tx _ LF (by omega) HT4.out).mono ?_; rintro e w' ⟨he, hw'⟩; rw [hm'] at he; subst he; have hw2 := hw'.symm; clear hw'; subst hw2))
  all_goals
    go_wp2
    (try simp only [Exit.inBlock, Exit.then])
    go_ret
    exact ⟨⟨_, rfl, HI.out⟩, HB4.out⟩
end Go.Proofs.YtbdlahhejfamhaaGreatDoor.Qry
/- What the model asks of a node by itself (operations without bool). -/
namespace Go.Proofs.YtbdlahhejfamhaaGreatDoor.Qry
open Go.RowKit
open Go.Proofs.YtbdlahhejfamhaaGreatDoor.Pat (ret_bool Mt m0 HasM nameL printL goodM)
open Go.Proofs.YtbdlahhejfamhaaGreatDoor.Fil (HasT FitT)
theorem ch_out {sd : Int} {es : List ByteArray} (h : sd < 0 ∨ 2 < sd) : choice sd es = false := by
  unfold choice
  rw [if_neg (by omega), decide_eq_false (by omega)]; rfl
theorem ch_bad {sd : Int} {es : List ByteArray} (h : namesL es = false) : choice sd es = false := by
  unfold choice
  split
  · cases es with
    | nil => exact absurd h (by decide)
    | cons a l => rfl
  · rw [h]; simp
theorem ch_zero {es : List ByteArray} : choice 0 es = es.isEmpty := by unfold choice; rw [if_pos rfl]
theorem ch_in {sd : Int} {es : List ByteArray} (h0 : sd ≠ 0) (h1 : 0 ≤ sd) (h2 : sd ≤ 2) (hn : namesL es = true) : choice sd es = true := by
  unfold choice
  rw [if_neg h0, decide_eq_true (by omega), hn]; rfl

set_option maxHeartbeats 8000000 in
set_option maxRecDepth 100000 in
theorem nd_7n (q : R) (w : World) (h : q.kd = 7) (hbo : q.bo = false) (ht : told (pl q)) (hl : Lst w q) (hf : Ft q) (hs : wt q ≤ 1048576) : Calls Tryz.prog 101 #[.agg #[.int .i64 q.kd, .int .i64 q.nu, .int .i64 q.st, .string q.tx, .int .i64 q.op, .slice q.ma q.ms.length q.mc, .int .i64 q.off, .bool q.fx, .int .i64 q.att, .bool q.bo, .int .i64 q.byy, .slice q.na q.ns.length q.nc, .int .i64 q.sd, .slice q.ea q.es.length q.ec, .int .i64 q.kc]] w fun e w' => NdR q w e w' := by
  have k1 : (q.kd == 1) = false := by simp [h]
  have k2 : (q.kd == 2) = false := by simp [h]
  have k3 : (q.kd == 3) = false := by simp [h]
  have k4 : (q.kd == 4) = false := by simp [h]
  have k5 : (q.kd == 5) = false := by simp [h]
  have k6 : (q.kd == 6) = false := by simp [h]
  have k7 : (q.kd == 7) = true := by simp [h]
  have HK := hid h
  clear h
  have HBO := hid hbo
  clear hbo
  have HTD := hid ht
  have HL := hid hl
  have HF := hid hf
  obtain ⟨X, hX⟩ : ∃ X, X = w.alloc (.cells #[.int .i64 q.kd, .int .i64 q.nu, .int .i64 q.st, .string q.tx, .int .i64 q.op, .slice q.ma q.ms.length q.mc, .int .i64 q.off, .bool q.fx, .int .i64 q.att, .bool q.bo, .int .i64 q.byy, .slice q.na q.ns.length q.nc, .int .i64 q.sd, .slice q.ea q.es.length q.ec, .int .i64 q.kc] 55) := ⟨_, rfl⟩
  have HGX : Hid (GB w w.heap.size q X) := by rw [hX]; exact GB.of (heap_alloc_new w _) ((Below.refl _ _).alloc (Nat.le_refl _) _)
  have HX := hid hX
  clear hX ht hl hf
  go_enter Tryz.func101, Tryz.ntmps101
  go_upto_region 1 with fail
  rw [← HX.out]
  go_region_held3 (fun w' => GB w w.heap.size q w') (first | exact HGX.out.drew | exact HG1.out | exact HG2.out | exact GB.drew (by assumption) | assumption) (first | (go_at_call 133; refine (f133 q _).mono ?_; rintro e w1 ⟨z, rfl, hz, hzl, hb1⟩; have HG1 := hid (HGX.out.drew.next hb1); have HZ := hid hz; have HZL := hid hzl; clear hb1 hz hzl) | (go_at_call 132; refine (f132 q z _ HZL.out.ms (HL.out.below HG1.out.hb.2) (HZL.out.lst (HL.out.below HG1.out.hb.2)) hs (Nat.le_trans HZL.out.wt hs)).mono ?_; rintro e w2 ⟨⟨bb, rfl, hbb⟩, hb2⟩; have HG2 := hid (HG1.out.next hb2); have hbf : bb = true := hbb.2 (HTD.out.trans HZ.out.symm); subst hbf; clear hb2 hbb))
  have HB2 := hid HG2.out.hb.2
  have HH2 := hid HG2.out.hb.1
  obtain ⟨x0, x1, x2, x3, x4, x5, x6, x7, x8, x9, x10, x11, x12, x13, x14⟩ := fifteen HH2.out
  have HBYC : Hid (∀ wx, Lst wx q → Calls Tryz.prog 138 #[.agg #[.int .i64 q.kd, .int .i64 q.nu, .int .i64 q.st, .string q.tx, .int .i64 q.op, .slice q.ma q.ms.length q.mc, .int .i64 q.off, .bool q.fx, .int .i64 q.att, .bool false, .int .i64 q.byy, .slice q.na q.ns.length q.nc, .int .i64 q.sd, .slice q.ea q.es.length q.ec, .int .i64 q.kc]] wx fun e w' => e = .returned (.bool (choice q.byy q.ns)) ∧ Below wx.heap.size wx w') := fun wx hx => by
    rw [show (Value.bool false) = .bool q.bo from by rw [HBO.out]]
    exact f138 q wx hx HF.out hs
  have hbo := HBO.out
  have HR : Hid (right (pl q) = rOp (pl q)) := by
    unfold Hid right; rw [if_neg, if_neg, if_neg, if_neg, if_neg, if_neg, if_pos] <;> simp [pl, HK.out]
  have HKM : Hid (kidsM (pl q) ↔ q.kc = 2) := by unfold Hid kidsM pl; simp [HK.out]
  have HA : Hid (rOp (pl q) = (decide (1 ≤ q.op ∧ q.op ≤ 14) && choice q.byy q.ns && choice q.sd q.es && (!q.bo || decide (6 ≤ q.op ∧ q.op ≤ 11)) && (decide (q.sd = 0) || (!decide (q.byy = 0) && decide (q.op ≤ 11))))) := rfl
  by_cases hkc : q.kc = 2
  case neg =>
    have hkc' : (q.kc != 2) = true := by simp [hkc]
    have HI : Hid ((false = true) ↔ (right (pl q) = true ∧ kidsM (pl q))) := by unfold Hid; rw [HKM.out]; simp [hkc]
    clear hkc
    go_wp2
    (try simp only [Exit.inBlock, Exit.then])
    go_ret
    exact ⟨⟨_, rfl, HI.out⟩, HB2.out⟩
  have hkc' : (q.kc != 2) = false := by simp [hkc]
  have HKC := hid hkc
  clear hkc
  by_cases h1 : 1 ≤ q.op
  case neg =>
    have h1' : q.op < 1 := by omega
    have HI : Hid ((false = true) ↔ (right (pl q) = true ∧ kidsM (pl q))) := by
      unfold Hid; rw [HR.out, HA.out, HKM.out]; rw [decide_eq_false (by omega)]; simp
    go_wp2
    (try simp only [Exit.inBlock, Exit.then])
    go_ret
    exact ⟨⟨_, rfl, HI.out⟩, HB2.out⟩
  by_cases h2 : q.op ≤ 14
  case neg =>
    have h2' : 14 < q.op := by omega
    have HI : Hid ((false = true) ↔ (right (pl q) = true ∧ kidsM (pl q))) := by
      unfold Hid; rw [HR.out, HA.out, HKM.out]; rw [decide_eq_false (by omega)]; simp
    go_wp2
    (try simp only [Exit.inBlock, Exit.then])
    go_ret
    exact ⟨⟨_, rfl, HI.out⟩, HB2.out⟩
  have g1 : ¬ q.op < 1 := by omega
  have g14 : ¬ 14 < q.op := by omega
  cases hch : choice q.byy q.ns
  case false =>
    have HI : Hid ((false = true) ↔ (right (pl q) = true ∧ kidsM (pl q))) := by
      unfold Hid; rw [HR.out, HA.out, HKM.out]; simp [hch]
    go_wp2_with (first | (go_at_call 138; refine (HBYC.out _ (HL.out.below HB2.out)).mono ?_; rintro e w3 ⟨rfl, hb3⟩; have HB3 := hid (HB2.out.trans (hb3.mono HB2.out.size)); have HH3 := hid (kept HH2.out hb3); obtain ⟨z0, z1, z2, z3, z4, z5, z6, z7, z8, z9, z10, z11, z12, z13, z14⟩ := fifteen HH3.out; clear hb3))
    (try simp only [Exit.inBlock, Exit.then])
    go_ret
    exact ⟨⟨_, rfl, HI.out⟩, HB3.out⟩
  by_cases hs0 : 0 ≤ q.sd
  case neg =>
    have hs0' : q.sd < 0 := by omega
    have hcs := ch_out (sd := q.sd) (es := q.es) (.inl hs0')
    have HI : Hid ((false = true) ↔ (right (pl q) = true ∧ kidsM (pl q))) := by
      unfold Hid; rw [HR.out, HA.out, HKM.out]; simp [hcs]
    go_wp2_with (first | (go_at_call 138; refine (HBYC.out _ (HL.out.below HB2.out)).mono ?_; rintro e w3 ⟨rfl, hb3⟩; have HB3 := hid (HB2.out.trans (hb3.mono HB2.out.size)); have HH3 := hid (kept HH2.out hb3); obtain ⟨z0, z1, z2, z3, z4, z5, z6, z7, z8, z9, z10, z11, z12, z13, z14⟩ := fifteen HH3.out; clear hb3))
    (try simp only [Exit.inBlock, Exit.then])
    go_ret
    exact ⟨⟨_, rfl, HI.out⟩, HB3.out⟩
  by_cases hs2 : q.sd ≤ 2
  case neg =>
    have hs2' : 2 < q.sd := by omega
    have hcs := ch_out (sd := q.sd) (es := q.es) (.inr hs2')
    have HI : Hid ((false = true) ↔ (right (pl q) = true ∧ kidsM (pl q))) := by
      unfold Hid; rw [HR.out, HA.out, HKM.out]; simp [hcs]
    go_wp2_with (first | (go_at_call 138; refine (HBYC.out _ (HL.out.below HB2.out)).mono ?_; rintro e w3 ⟨rfl, hb3⟩; have HB3 := hid (HB2.out.trans (hb3.mono HB2.out.size)); have HH3 := hid (kept HH2.out hb3); obtain ⟨z0, z1, z2, z3, z4, z5, z6, z7, z8, z9, z10, z11, z12, z13, z14⟩ := fifteen HH3.out; clear hb3))
    (try simp only [Exit.inBlock, Exit.then])
    go_ret
    exact ⟨⟨_, rfl, HI.out⟩, HB3.out⟩
  have g0 : ¬ q.sd < 0 := by omega
  have g2 : ¬ 2 < q.sd := by omega
  go_upto_region 25 with (first | (go_at_call 138; refine (HBYC.out _ (HL.out.below HB2.out)).mono ?_; rintro e w3 ⟨rfl, hb3⟩; have HB3 := hid (HB2.out.trans (hb3.mono HB2.out.size)); have HH3 := hid (kept HH2.out hb3); obtain ⟨z0, z1, z2, z3, z4, z5, z6, z7, z8, z9, z10, z11, z12, z13, z14⟩ := fifteen HH3.out; clear hb3))
  cases hn : namesL q.es
  case false =>
    have hcs := ch_bad (sd := q.sd) hn
    have HI : Hid ((false = true) ↔ (right (pl q) = true ∧ kidsM (pl q))) := by
      unfold Hid; rw [HR.out, HA.out, HKM.out]; simp [hcs]
    go_wp2_with (first | (go_at_call 139; refine (f139 q.ea q.es.length q.ec q.es _ rfl (by have := hs; unfold wt at this; omega) HF.out.es.1 (HL.out.below HB3.out).e).mono ?_; rintro e w5 ⟨rfl, hb5⟩; have HB5 := hid (HB3.out.trans (hb5.mono HB3.out.size)); have HH5 := hid (kept HH3.out hb5); obtain ⟨v0, v1, v2, v3, v4, v5, v6, v7, v8, v9, v10, v11, v12, v13, v14⟩ := fifteen HH5.out; clear hb5))
    (try simp only [Exit.inBlock, Exit.then])
    go_ret
    exact ⟨⟨_, rfl, HI.out⟩, HB5.out⟩
  by_cases hsd : q.sd = 0
  · have e1 : (q.sd != 0) = false := by simp [hsd]
    have e2 : (q.sd == 0) = true := by simp [hsd]
    have hcs : choice q.sd q.es = q.es.isEmpty := by rw [hsd]; exact ch_zero
    by_cases he : q.es.length = 0
    · have he' : ((q.es.length : Int) == 0) = true := by simp [he]
      have hes : q.es = [] := List.length_eq_zero_iff.1 he
      have HI : Hid ((true = true) ↔ (right (pl q) = true ∧ kidsM (pl q))) := by
        unfold Hid; rw [HR.out, HA.out, HKM.out]; simp [ch_zero, hch, h1, h2, hsd, hes, HKC.out, hbo]
      clear hsd he hes
      go_wp2_with (first | (go_at_call 139; refine (f139 q.ea q.es.length q.ec q.es _ rfl (by have := hs; unfold wt at this; omega) HF.out.es.1 (HL.out.below HB3.out).e).mono ?_; rintro e w5 ⟨rfl, hb5⟩; have HB5 := hid (HB3.out.trans (hb5.mono HB3.out.size)); have HH5 := hid (kept HH3.out hb5); obtain ⟨v0, v1, v2, v3, v4, v5, v6, v7, v8, v9, v10, v11, v12, v13, v14⟩ := fifteen HH5.out; clear hb5))
      (try simp only [Exit.inBlock, Exit.then])
      go_ret
      exact ⟨⟨true, rfl, (by simpa using HI.out)⟩, HB5.out⟩
    · have he' : ((q.es.length : Int) == 0) = false := by simp; intro e; exact he (by simp [e])
      have hes : q.es.isEmpty = false := by cases hq : q.es with | nil => rw [hq] at he; simp at he | cons a l => rfl
      clear hsd he
      have HI : Hid ((false = true) ↔ (right (pl q) = true ∧ kidsM (pl q))) := by
        unfold Hid; rw [HR.out, HA.out, HKM.out]; simp [hcs, hes]
      go_wp2_with (first | (go_at_call 139; refine (f139 q.ea q.es.length q.ec q.es _ rfl (by have := hs; unfold wt at this; omega) HF.out.es.1 (HL.out.below HB3.out).e).mono ?_; rintro e w5 ⟨rfl, hb5⟩; have HB5 := hid (HB3.out.trans (hb5.mono HB3.out.size)); have HH5 := hid (kept HH3.out hb5); obtain ⟨v0, v1, v2, v3, v4, v5, v6, v7, v8, v9, v10, v11, v12, v13, v14⟩ := fifteen HH5.out; clear hb5))
      (try simp only [Exit.inBlock, Exit.then])
      go_ret
      exact ⟨⟨_, rfl, HI.out⟩, HB5.out⟩
  · have e1 : (q.sd != 0) = true := by simp [hsd]
    have e2 : (q.sd == 0) = false := by simp [hsd]
    have hcs := ch_in hsd hs0 hs2 hn
    by_cases hby : q.byy = 0
    · have e3 : (q.byy != 0) = false := by simp [hby]
      have HI : Hid ((false = true) ↔ (right (pl q) = true ∧ kidsM (pl q))) := by
        unfold Hid; rw [HR.out, HA.out, HKM.out]; simp [hsd, hby]
      clear hby hsd
      go_wp2_with (first | (go_at_call 139; refine (f139 q.ea q.es.length q.ec q.es _ rfl (by have := hs; unfold wt at this; omega) HF.out.es.1 (HL.out.below HB3.out).e).mono ?_; rintro e w5 ⟨rfl, hb5⟩; have HB5 := hid (HB3.out.trans (hb5.mono HB3.out.size)); have HH5 := hid (kept HH3.out hb5); obtain ⟨v0, v1, v2, v3, v4, v5, v6, v7, v8, v9, v10, v11, v12, v13, v14⟩ := fifteen HH5.out; clear hb5))
      (try simp only [Exit.inBlock, Exit.then])
      go_ret
      exact ⟨⟨_, rfl, HI.out⟩, HB5.out⟩
    · have e3 : (q.byy != 0) = true := by simp [hby]
      have HI : Hid ((decide (q.op ≤ 11) = true) ↔ (right (pl q) = true ∧ kidsM (pl q))) := by
        unfold Hid; rw [HR.out, HA.out, HKM.out]; simp [hcs, hch, h1, h2, hsd, hby, HKC.out, hbo]
      clear hby hsd
      go_wp2_with (first | (go_at_call 139; refine (f139 q.ea q.es.length q.ec q.es _ rfl (by have := hs; unfold wt at this; omega) HF.out.es.1 (HL.out.below HB3.out).e).mono ?_; rintro e w5 ⟨rfl, hb5⟩; have HB5 := hid (HB3.out.trans (hb5.mono HB3.out.size)); have HH5 := hid (kept HH3.out hb5); obtain ⟨v0, v1, v2, v3, v4, v5, v6, v7, v8, v9, v10, v11, v12, v13, v14⟩ := fifteen HH5.out; clear hb5))
      (try simp only [Exit.inBlock, Exit.then])
      go_ret
      exact ⟨⟨_, rfl, HI.out⟩, HB5.out⟩
end Go.Proofs.YtbdlahhejfamhaaGreatDoor.Qry
