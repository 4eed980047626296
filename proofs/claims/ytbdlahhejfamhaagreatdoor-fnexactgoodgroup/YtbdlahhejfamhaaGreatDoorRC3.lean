/- The words of the language, as the model has them. -/
import Derived.Test.YtbdlahhejfamhaaGreatDoorRA6
import Derived.Test.YtbdlahhejfamhaaGreatDoorRQmw
import Derived.Test.YtbdlahhejfamhaaGreatDoorRC4
namespace Go.Proofs.YtbdlahhejfamhaaGreatDoor.Qry
open Go.RowKit
open Go.Proofs.YtbdlahhejfamhaaGreatDoor.Pat (ret_bool)
open Go.Proofs.YtbdlahhejfamhaaGreatDoor.Fil (HasT FitT)

def agE : List ByteArray := ⟨#[]⟩ :: agN
theorem hasT_new (w : World) (ss : List ByteArray) (cs : Array Value) (h : cs.toList = ss.map Value.string) : HasT (w.alloc (.cells cs 9)) (some ⟨w.heap.size, 0, none⟩) ss := by
  refine .inr ⟨w.heap.size, 0, rfl, by simp, fun i hi => ?_⟩
  rw [Nat.zero_add]
  have hc : cs[i]? = some (.string (ss.getD i ByteArray.empty)) := by
    rw [← Array.getElem?_toList, h, List.getElem?_map, List.getD_eq_getElem?_getD, List.getElem?_eq_getElem hi]; rfl
  simp only [World.cell?, heap_alloc_new]
  simpa using hc
theorem f141 (w : World) : Calls Tryz.prog 141 #[] w fun e w' => e = .returned (.slice (some ⟨w.heap.size, 0, none⟩) 23 23) ∧ HasT w' (some ⟨w.heap.size, 0, none⟩) fnN ∧ Below w.heap.size w w' := by
  have HT := hid (hasT_new w fnN #[.string ⟨#[97, 98, 115]⟩, .string ⟨#[97, 98, 115, 101, 110, 116]⟩, .string ⟨#[97, 118, 103, 95, 111, 118, 101, 114]⟩, .string ⟨#[99, 104, 97, 110, 103, 101, 115]⟩, .string ⟨#[99, 108, 97, 109, 112]⟩, .string ⟨#[99, 111, 117, 110, 116, 95, 111, 118, 101, 114]⟩, .string ⟨#[100, 101, 108, 116, 97]⟩, .string ⟨#[104, 105, 115, 116, 95, 113, 117, 97, 110, 116, 105, 108, 101]⟩, .string ⟨#[108, 97, 98, 101, 108, 95, 106, 111, 105, 110]⟩, .string ⟨#[108, 97, 98, 101, 108, 95, 115, 101, 116]⟩, .string ⟨#[108, 97, 115, 116, 95, 111, 118, 101, 114]⟩, .string ⟨#[109, 97, 120, 95, 111, 118, 101, 114]⟩, .string ⟨#[109, 105, 110, 95, 111, 118, 101, 114]⟩, .string ⟨#[112, 114, 101, 100, 105, 99, 116]⟩, .string ⟨#[113, 117, 97, 110, 116, 105, 108, 101, 95, 111, 118, 101, 114]⟩, .string ⟨#[114, 97, 116, 101]⟩, .string ⟨#[114, 101, 115, 101, 116, 115]⟩, .string ⟨#[114, 105, 115, 101]⟩, .string ⟨#[115, 99, 97, 108, 97, 114]⟩, .string ⟨#[115, 117, 109, 95, 111, 118, 101, 114]⟩, .string ⟨#[116, 105, 109, 101]⟩, .string ⟨#[116, 105, 109, 101, 115, 116, 97, 109, 112]⟩, .string ⟨#[118, 101, 99, 116, 111, 114]⟩] rfl)
  have HB := hid ((Below.refl w.heap.size w).alloc (Nat.le_refl _) (.cells #[.string ⟨#[97, 98, 115]⟩, .string ⟨#[97, 98, 115, 101, 110, 116]⟩, .string ⟨#[97, 118, 103, 95, 111, 118, 101, 114]⟩, .string ⟨#[99, 104, 97, 110, 103, 101, 115]⟩, .string ⟨#[99, 108, 97, 109, 112]⟩, .string ⟨#[99, 111, 117, 110, 116, 95, 111, 118, 101, 114]⟩, .string ⟨#[100, 101, 108, 116, 97]⟩, .string ⟨#[104, 105, 115, 116, 95, 113, 117, 97, 110, 116, 105, 108, 101]⟩, .string ⟨#[108, 97, 98, 101, 108, 95, 106, 111, 105, 110]⟩, .string ⟨#[108, 97, 98, 101, 108, 95, 115, 101, 116]⟩, .string ⟨#[108, 97, 115, 116, 95, 111, 118, 101, 114]⟩, .string ⟨#[109, 97, 120, 95, 111, 118, 101, 114]⟩, .string ⟨#[109, 105, 110, 95, 111, 118, 101, 114]⟩, .string ⟨#[112, 114, 101, 100, 105, 99, 116]⟩, .string ⟨#[113, 117, 97, 110, 116, 105, 108, 101, 95, 111, 118, 101, 114]⟩, .string ⟨#[114, 97, 116, 101]⟩, .string ⟨#[114, 101, 115, 101, 116, 115]⟩, .string ⟨#[114, 105, 115, 101]⟩, .string ⟨#[115, 99, 97, 108, 97, 114]⟩, .string ⟨#[115, 117, 109, 95, 111, 118, 101, 114]⟩, .string ⟨#[116, 105, 109, 101]⟩, .string ⟨#[116, 105, 109, 101, 115, 116, 97, 109, 112]⟩, .string ⟨#[118, 101, 99, 116, 111, 114]⟩] 9))
  go_enter Tryz.func141, Tryz.ntmps141
  go_wp2
  go_ret
  exact ⟨rfl, HT.out, HB.out⟩
theorem f160 (w : World) : Calls Tryz.prog 160 #[] w fun e w' => e = .returned (.slice (some ⟨w.heap.size, 0, none⟩) 9 9) ∧ HasT w' (some ⟨w.heap.size, 0, none⟩) agE ∧ Below w.heap.size w w' := by
  have HT := hid (hasT_new w agE #[.string ⟨#[]⟩, .string ⟨#[115, 117, 109]⟩, .string ⟨#[109, 105, 110]⟩, .string ⟨#[109, 97, 120]⟩, .string ⟨#[97, 118, 103]⟩, .string ⟨#[99, 111, 117, 110, 116]⟩, .string ⟨#[116, 111, 112, 107]⟩, .string ⟨#[98, 111, 116, 116, 111, 109, 107]⟩, .string ⟨#[113, 117, 97, 110, 116, 105, 108, 101]⟩] rfl)
  have HB := hid ((Below.refl w.heap.size w).alloc (Nat.le_refl _) (.cells #[.string ⟨#[]⟩, .string ⟨#[115, 117, 109]⟩, .string ⟨#[109, 105, 110]⟩, .string ⟨#[109, 97, 120]⟩, .string ⟨#[97, 118, 103]⟩, .string ⟨#[99, 111, 117, 110, 116]⟩, .string ⟨#[116, 111, 112, 107]⟩, .string ⟨#[98, 111, 116, 116, 111, 109, 107]⟩, .string ⟨#[113, 117, 97, 110, 116, 105, 108, 101]⟩] 9))
  go_enter Tryz.func160, Tryz.ntmps160
  go_wp2
  go_ret
  exact ⟨rfl, HT.out, HB.out⟩
theorem hasT_wd (w : World) : HasT (w.alloc (.cells #[.string ⟨#[97, 110, 100]⟩, .string ⟨#[98, 111, 111, 108]⟩, .string ⟨#[98, 121]⟩, .string ⟨#[103, 114, 111, 117, 112, 95, 108, 101, 102, 116]⟩, .string ⟨#[103, 114, 111, 117, 112, 95, 114, 105, 103, 104, 116]⟩, .string ⟨#[105, 103, 110, 111, 114, 105, 110, 103]⟩, .string ⟨#[111, 102, 102, 115, 101, 116]⟩, .string ⟨#[111, 110]⟩, .string ⟨#[111, 114]⟩, .string ⟨#[117, 110, 108, 101, 115, 115]⟩, .string ⟨#[119, 105, 116, 104, 111, 117, 116]⟩] 9)) (some ⟨w.heap.size, 0, none⟩) wdN := hasT_new w wdN #[.string ⟨#[97, 110, 100]⟩, .string ⟨#[98, 111, 111, 108]⟩, .string ⟨#[98, 121]⟩, .string ⟨#[103, 114, 111, 117, 112, 95, 108, 101, 102, 116]⟩, .string ⟨#[103, 114, 111, 117, 112, 95, 114, 105, 103, 104, 116]⟩, .string ⟨#[105, 103, 110, 111, 114, 105, 110, 103]⟩, .string ⟨#[111, 102, 102, 115, 101, 116]⟩, .string ⟨#[111, 110]⟩, .string ⟨#[111, 114]⟩, .string ⟨#[117, 110, 108, 101, 115, 115]⟩, .string ⟨#[119, 105, 116, 104, 111, 117, 116]⟩] rfl
theorem ag_mem {s : ByteArray} (h : s ≠ ⟨#[]⟩) : s ∈ agE ↔ s ∈ agN := by
  unfold agE; rw [List.mem_cons]; constructor
  · rintro (e | e)
    · exact absurd e h
    · exact e
  · exact .inr
theorem ag_none : (⟨#[]⟩ : ByteArray) ∉ agN := by decide
theorem empty_str {s : ByteArray} (h : s = ⟨#[]⟩) : s.toList.isEmpty = true := by rw [h, ByteArray.toList_eq]; rfl
theorem some_str {s : ByteArray} (h : s ≠ ⟨#[]⟩) : s.toList.isEmpty = false := by
  cases e : s.toList.isEmpty
  · rfl
  · exfalso
    apply h
    rw [ByteArray.toList_eq] at e
    exact WideShapes.bytes_inj (by rw [List.isEmpty_iff.1 e])

set_option maxHeartbeats 4000000 in
set_option maxRecDepth 100000 in
theorem f135 (s : ByteArray) (w : World) : Calls Tryz.prog 135 #[.string s] w fun e w' => e = .returned (.bool (wordM s)) ∧ Below w.heap.size w w' := by
  have L1 : fnN.length = 23 := rfl
  have L2 : agE.length = 9 := rfl
  have L3 : wdN.length = 11 := rfl
  by_cases h1 : s ∈ fnN
  · have d1 : decide (s ∈ fnN) = true := decide_eq_true h1
    have HE : Hid (wordM s = true) := by unfold Hid wordM; rw [d1]; rfl
    clear h1
    go_enter Tryz.func135, Tryz.ntmps135
    go_wp2_with fail
    refine (f141 _).mono ?_
    rintro e w1 ⟨rfl, ht1, hb1⟩
    have HT1 := hid ht1
    have HB1 := hid hb1
    clear ht1 hb1
    go_wp2_with fail
    refine (f140 (some ⟨w.heap.size, 0, none⟩) 23 23 fnN s _ L1 (by omega) HT1.out).mono ?_
    rintro e w' ⟨rfl, hw'⟩
    have hw2 := hw'.symm
    clear hw'
    subst hw2
    go_wp2
    go_ret
    exact ⟨ret_bool HE.out.symm, HB1.out⟩
  have d1 : decide (s ∈ fnN) = false := decide_eq_false h1
  clear h1
  by_cases h2 : s = ⟨#[]⟩
  · have g2 := empty_str h2
    have HE : Hid (wordM s = decide (s ∈ wdN)) := by unfold Hid wordM; rw [d1, h2, decide_eq_false ag_none]; rfl
    clear h2
    go_enter Tryz.func135, Tryz.ntmps135
    go_wp2_with fail
    refine (f141 _).mono ?_
    rintro e w1 ⟨rfl, ht1, hb1⟩
    have HT1 := hid ht1
    have HB1 := hid hb1
    clear ht1 hb1
    go_wp2_with fail
    refine (f140 (some ⟨w.heap.size, 0, none⟩) 23 23 fnN s _ L1 (by omega) HT1.out).mono ?_
    rintro e w' ⟨rfl, hw'⟩
    have hw2 := hw'.symm
    clear hw'
    subst hw2
    go_wp2_with fail
    refine (f140 (some ⟨w1.heap.size, 0, none⟩) 11 11 wdN s _ L3 (by omega) (hasT_wd w1)).mono ?_
    rintro e w' ⟨rfl, hw'⟩
    have hw2 := hw'.symm
    clear hw'
    subst hw2
    go_wp2
    go_ret
    exact ⟨ret_bool HE.out.symm, HB1.out.alloc HB1.out.size _⟩
  have g2 := some_str h2
  have HAG := hid (ag_mem h2)
  clear h2
  by_cases h3 : s ∈ agE
  · have d3 : decide (s ∈ agE) = true := decide_eq_true h3
    have HE : Hid (wordM s = true) := by unfold Hid wordM; rw [d1, decide_eq_true (HAG.out.1 h3)]; rfl
    clear h3
    go_enter Tryz.func135, Tryz.ntmps135
    go_wp2_with fail
    refine (f141 _).mono ?_
    rintro e w1 ⟨rfl, ht1, hb1⟩
    have HT1 := hid ht1
    have HB1 := hid hb1
    clear ht1 hb1
    go_wp2_with fail
    refine (f140 (some ⟨w.heap.size, 0, none⟩) 23 23 fnN s _ L1 (by omega) HT1.out).mono ?_
    rintro e w' ⟨rfl, hw'⟩
    have hw2 := hw'.symm
    clear hw'
    subst hw2
    go_wp2_with fail
    refine (f160 _).mono ?_
    rintro e w2 ⟨rfl, ht2, hb2⟩
    have HT2 := hid ht2
    have HB2 := hid (HB1.out.trans (hb2.mono HB1.out.size))
    clear ht2 hb2
    go_wp2_with fail
    refine (f140 (some ⟨w1.heap.size, 0, none⟩) 9 9 agE s _ L2 (by omega) HT2.out).mono ?_
    rintro e w' ⟨rfl, hw'⟩
    have hw2 := hw'.symm
    clear hw'
    subst hw2
    go_wp2
    go_ret
    exact ⟨ret_bool HE.out.symm, HB2.out⟩
  have d3 : decide (s ∈ agE) = false := decide_eq_false h3
  have HE : Hid (wordM s = decide (s ∈ wdN)) := by unfold Hid wordM; rw [d1, decide_eq_false (fun h => h3 (HAG.out.2 h))]; rfl
  clear h3
  go_enter Tryz.func135, Tryz.ntmps135
  go_wp2_with fail
  refine (f141 _).mono ?_
  rintro e w1 ⟨rfl, ht1, hb1⟩
  have HT1 := hid ht1
  have HB1 := hid hb1
  clear ht1 hb1
  go_wp2_with fail
  refine (f140 (some ⟨w.heap.size, 0, none⟩) 23 23 fnN s _ L1 (by omega) HT1.out).mono ?_
  rintro e w' ⟨rfl, hw'⟩
  have hw2 := hw'.symm
  clear hw'
  subst hw2
  go_wp2_with fail
  refine (f160 _).mono ?_
  rintro e w2 ⟨rfl, ht2, hb2⟩
  have HT2 := hid ht2
  have HB2 := hid (HB1.out.trans (hb2.mono HB1.out.size))
  clear ht2 hb2
  go_wp2_with fail
  refine (f140 (some ⟨w1.heap.size, 0, none⟩) 9 9 agE s _ L2 (by omega) HT2.out).mono ?_
  rintro e w' ⟨rfl, hw'⟩
  have hw2 := hw'.symm
  clear hw'
  subst hw2
  go_wp2_with fail
  refine (f140 (some ⟨w2.heap.size, 0, none⟩) 11 11 wdN s _ L3 (by omega) (hasT_wd w2)).mono ?_
  rintro e w' ⟨rfl, hw'⟩
  have hw2 := hw'.symm
  clear hw'
  subst hw2
  go_wp2
  go_ret
  exact ⟨ret_bool HE.out.symm, HB2.out.alloc HB2.out.size _⟩
end Go.Proofs.YtbdlahhejfamhaaGreatDoor.Qry
/- What the model asks of a node by itself (not told; numbers, negations, ranges). -/
namespace Go.Proofs.YtbdlahhejfamhaaGreatDoor.Qry
open Go.RowKit
open Go.Proofs.YtbdlahhejfamhaaGreatDoor.Pat (ret_bool Mt m0 HasM nameL printL goodM)
open Go.Proofs.YtbdlahhejfamhaaGreatDoor.Fil (HasT FitT)
/-- What the call of l15Node leaves. -/
def NdR (q : R) (w : World) (e : Ending) (w' : World) : Prop := (∃ b, e = .returned (.bool b) ∧ (b = true ↔ (right (pl q) = true ∧ kidsM (pl q)))) ∧ Below w.heap.size w w'

set_option maxHeartbeats 8000000 in
set_option maxRecDepth 100000 in
theorem nd_not (q : R) (w : World) (ht : ¬ told (pl q)) (hl : Lst w q) (hf : Ft q) (hs : wt q ≤ 1048576) : Calls Tryz.prog 101 #[.agg #[.int .i64 q.kd, .int .i64 q.nu, .int .i64 q.st, .string q.tx, .int .i64 q.op, .slice q.ma q.ms.length q.mc, .int .i64 q.off, .bool q.fx, .int .i64 q.att, .bool q.bo, .int .i64 q.byy, .slice q.na q.ns.length q.nc, .int .i64 q.sd, .slice q.ea q.es.length q.ec, .int .i64 q.kc]] w fun e w' => e = .returned (.bool false) ∧ Below w.heap.size w w' := by
  have HTD := hid ht
  have HL := hid hl
  have HF := hid hf
  obtain ⟨X, hX⟩ : ∃ X, X = w.alloc (.cells #[.int .i64 q.kd, .int .i64 q.nu, .int .i64 q.st, .string q.tx, .int .i64 q.op, .slice q.ma q.ms.length q.mc, .int .i64 q.off, .bool q.fx, .int .i64 q.att, .bool q.bo, .int .i64 q.byy, .slice q.na q.ns.length q.nc, .int .i64 q.sd, .slice q.ea q.es.length q.ec, .int .i64 q.kc] 55) := ⟨_, rfl⟩
  have HGX : Hid (GB w w.heap.size q X) := by rw [hX]; exact GB.of (heap_alloc_new w _) ((Below.refl _ _).alloc (Nat.le_refl _) _)
  have HX := hid hX
  clear hX ht hl hf
  go_enter Tryz.func101, Tryz.ntmps101
  go_upto_region 1 with fail
  rw [← HX.out]
  go_region_held3 (fun w' => GB w w.heap.size q w') (first | exact HGX.out.drew | exact HG1.out | exact HG2.out | exact GB.drew (by assumption) | assumption) (first | (go_at_call 133; refine (f133 q _).mono ?_; rintro e w1 ⟨z, rfl, hz, hzl, hb1⟩; have HG1 := hid (HGX.out.drew.next hb1); have HZ := hid hz; have HZL := hid hzl; clear hb1 hz hzl) | (go_at_call 132; refine (f132 q z _ HZL.out.ms (HL.out.below HG1.out.hb.2) (HZL.out.lst (HL.out.below HG1.out.hb.2)) hs (Nat.le_trans HZL.out.wt hs)).mono ?_; rintro e w2 ⟨⟨bb, rfl, hbb⟩, hb2⟩; have HG2 := hid (HG1.out.next hb2); have hbf : bb = false := (by cases bb; rfl; exact absurd ((hbb.1 rfl).trans HZ.out) HTD.out); subst hbf; clear hb2 hbb))
  have HB2 := hid HG2.out.hb.2
  have HH2 := hid HG2.out.hb.1
  obtain ⟨x0, x1, x2, x3, x4, x5, x6, x7, x8, x9, x10, x11, x12, x13, x14⟩ := fifteen HH2.out
  go_wp2
  go_ret
  exact ⟨rfl, HB2.out⟩

set_option maxHeartbeats 8000000 in
set_option maxRecDepth 100000 in
theorem nd_1 (q : R) (w : World) (h : q.kd = 1) (ht : told (pl q)) (hl : Lst w q) (hf : Ft q) (hs : wt q ≤ 1048576) : Calls Tryz.prog 101 #[.agg #[.int .i64 q.kd, .int .i64 q.nu, .int .i64 q.st, .string q.tx, .int .i64 q.op, .slice q.ma q.ms.length q.mc, .int .i64 q.off, .bool q.fx, .int .i64 q.att, .bool q.bo, .int .i64 q.byy, .slice q.na q.ns.length q.nc, .int .i64 q.sd, .slice q.ea q.es.length q.ec, .int .i64 q.kc]] w fun e w' => NdR q w e w' := by
  have k1 : (q.kd == 1) = true := by simp [h]
  have HK := hid h
  clear h
  have HTD := hid ht
  have HL := hid hl
  have HF := hid hf
  obtain ⟨X, hX⟩ : ∃ X, X = w.alloc (.cells #[.int .i64 q.kd, .int .i64 q.nu, .int .i64 q.st, .string q.tx, .int .i64 q.op, .slice q.ma q.ms.length q.mc, .int .i64 q.off, .bool q.fx, .int .i64 q.att, .bool q.bo, .int .i64 q.byy, .slice q.na q.ns.length q.nc, .int .i64 q.sd, .slice q.ea q.es.length q.ec, .int .i64 q.kc] 55) := ⟨_, rfl⟩
  have HGX : Hid (GB w w.heap.size q X) := by rw [hX]; exact GB.of (heap_alloc_new w _) ((Below.refl _ _).alloc (Nat.le_refl _) _)
  have HX := hid hX
  clear hX ht hl hf
  go_enter Tryz.func101, Tryz.ntmps101
  go_upto_region 1 with fail
  rw [← HX.out]
  go_region_held3 (fun w' => GB w w.heap.size q w') (first | exact HGX.out.drew | exact HG1.out | exact HG2.out | exact GB.drew (by assumption) | assumption) (first | (go_at_call 133; refine (f133 q _).mono ?_; rintro e w1 ⟨z, rfl, hz, hzl, hb1⟩; have HG1 := hid (HGX.out.drew.next hb1); have HZ := hid hz; have HZL := hid hzl; clear hb1 hz hzl) | (go_at_call 132; refine (f132 q z _ HZL.out.ms (HL.out.below HG1.out.hb.2) (HZL.out.lst (HL.out.below HG1.out.hb.2)) hs (Nat.le_trans HZL.out.wt hs)).mono ?_; rintro e w2 ⟨⟨bb, rfl, hbb⟩, hb2⟩; have HG2 := hid (HG1.out.next hb2); have hbf : bb = true := hbb.2 (HTD.out.trans HZ.out.symm); subst hbf; clear hb2 hbb))
  have HB2 := hid HG2.out.hb.2
  have HH2 := hid HG2.out.hb.1
  obtain ⟨x0, x1, x2, x3, x4, x5, x6, x7, x8, x9, x10, x11, x12, x13, x14⟩ := fifteen HH2.out
  by_cases hnu : 0 ≤ q.nu
  · have HI : Hid (((q.kc == 0) = true) ↔ (right (pl q) = true ∧ kidsM (pl q))) := by unfold Hid right kidsM pl; simp [HK.out, hnu]
    go_wp2
    (try simp only [Exit.inBlock, Exit.then])
    go_ret
    exact ⟨⟨_, rfl, HI.out⟩, HB2.out⟩
  · have HI : Hid ((false = true) ↔ (right (pl q) = true ∧ kidsM (pl q))) := by unfold Hid right kidsM pl; simp [HK.out, hnu]
    go_wp2
    (try simp only [Exit.inBlock, Exit.then])
    go_ret
    exact ⟨⟨_, rfl, HI.out⟩, HB2.out⟩

set_option maxHeartbeats 8000000 in
set_option maxRecDepth 100000 in
theorem nd_6 (q : R) (w : World) (h : q.kd = 6) (ht : told (pl q)) (hl : Lst w q) (hf : Ft q) (hs : wt q ≤ 1048576) : Calls Tryz.prog 101 #[.agg #[.int .i64 q.kd, .int .i64 q.nu, .int .i64 q.st, .string q.tx, .int .i64 q.op, .slice q.ma q.ms.length q.mc, .int .i64 q.off, .bool q.fx, .int .i64 q.att, .bool q.bo, .int .i64 q.byy, .slice q.na q.ns.length q.nc, .int .i64 q.sd, .slice q.ea q.es.length q.ec, .int .i64 q.kc]] w fun e w' => NdR q w e w' := by
  have k1 : (q.kd == 1) = false := by simp [h]
  have k2 : (q.kd == 2) = false := by simp [h]
  have k3 : (q.kd == 3) = false := by simp [h]
  have k4 : (q.kd == 4) = false := by simp [h]
  have k5 : (q.kd == 5) = false := by simp [h]
  have k6 : (q.kd == 6) = true := by simp [h]
  have HK := hid h
  clear h
  have HTD := hid ht
  have HL := hid hl
  have HF := hid hf
  obtain ⟨X, hX⟩ : ∃ X, X = w.alloc (.cells #[.int .i64 q.kd, .int .i64 q.nu, .int .i64 q.st, .string q.tx, .int .i64 q.op, .slice q.ma q.ms.length q.mc, .int .i64 q.off, .bool q.fx, .int .i64 q.att, .bool q.bo, .int .i64 q.byy, .slice q.na q.ns.length q.nc, .int .i64 q.sd, .slice q.ea q.es.length q.ec, .int .i64 q.kc] 55) := ⟨_, rfl⟩
  have HGX : Hid (GB w w.heap.size q X) := by rw [hX]; exact GB.of (heap_alloc_new w _) ((Below.refl _ _).alloc (Nat.le_refl _) _)
  have HX := hid hX
  clear hX ht hl hf
  go_enter Tryz.func101, Tryz.ntmps101
  go_upto_region 1 with fail
  rw [← HX.out]
  go_region_held3 (fun w' => GB w w.heap.size q w') (first | exact HGX.out.drew | exact HG1.out | exact HG2.out | exact GB.drew (by assumption) | assumption) (first | (go_at_call 133; refine (f133 q _).mono ?_; rintro e w1 ⟨z, rfl, hz, hzl, hb1⟩; have HG1 := hid (HGX.out.drew.next hb1); have HZ := hid hz; have HZL := hid hzl; clear hb1 hz hzl) | (go_at_call 132; refine (f132 q z _ HZL.out.ms (HL.out.below HG1.out.hb.2) (HZL.out.lst (HL.out.below HG1.out.hb.2)) hs (Nat.le_trans HZL.out.wt hs)).mono ?_; rintro e w2 ⟨⟨bb, rfl, hbb⟩, hb2⟩; have HG2 := hid (HG1.out.next hb2); have hbf : bb = true := hbb.2 (HTD.out.trans HZ.out.symm); subst hbf; clear hb2 hbb))
  have HB2 := hid HG2.out.hb.2
  have HH2 := hid HG2.out.hb.1
  obtain ⟨x0, x1, x2, x3, x4, x5, x6, x7, x8, x9, x10, x11, x12, x13, x14⟩ := fifteen HH2.out
  have HI : Hid (((q.kc == 1) = true) ↔ (right (pl q) = true ∧ kidsM (pl q))) := by unfold Hid right kidsM pl; simp [HK.out]
  go_wp2
  (try simp only [Exit.inBlock, Exit.then])
  go_ret
  exact ⟨⟨_, rfl, HI.out⟩, HB2.out⟩

set_option maxHeartbeats 8000000 in
set_option maxRecDepth 100000 in
theorem nd_4 (q : R) (w : World) (h : q.kd = 4) (ht : told (pl q)) (hl : Lst w q) (hf : Ft q) (hs : wt q ≤ 1048576) : Calls Tryz.prog 101 #[.agg #[.int .i64 q.kd, .int .i64 q.nu, .int .i64 q.st, .string q.tx, .int .i64 q.op, .slice q.ma q.ms.length q.mc, .int .i64 q.off, .bool q.fx, .int .i64 q.att, .bool q.bo, .int .i64 q.byy, .slice q.na q.ns.length q.nc, .int .i64 q.sd, .slice q.ea q.es.length q.ec, .int .i64 q.kc]] w fun e w' => NdR q w e w' := by
  have k1 : (q.kd == 1) = false := by simp [h]
  have k2 : (q.kd == 2) = false := by simp [h]
  have k3 : (q.kd == 3) = false := by simp [h]
  have k4 : (q.kd == 4) = true := by simp [h]
  have HK := hid h
  clear h
  have HTD := hid ht
  have HL := hid hl
  have HF := hid hf
  obtain ⟨X, hX⟩ : ∃ X, X = w.alloc (.cells #[.int .i64 q.kd, .int .i64 q.nu, .int .i64 q.st, .string q.tx, .int .i64 q.op, .slice q.ma q.ms.length q.mc, .int .i64 q.off, .bool q.fx, .int .i64 q.att, .bool q.bo, .int .i64 q.byy, .slice q.na q.ns.length q.nc, .int .i64 q.sd, .slice q.ea q.es.length q.ec, .int .i64 q.kc] 55) := ⟨_, rfl⟩
  have HGX : Hid (GB w w.heap.size q X) := by rw [hX]; exact GB.of (heap_alloc_new w _) ((Below.refl _ _).alloc (Nat.le_refl _) _)
  have HX := hid hX
  clear hX ht hl hf
  go_enter Tryz.func101, Tryz.ntmps101
  go_upto_region 1 with fail
  rw [← HX.out]
  go_region_held3 (fun w' => GB w w.heap.size q w') (first | exact HGX.out.drew | exact HG1.out | exact HG2.out | exact GB.drew (by assumption) | assumption) (first | (go_at_call 133; refine (f133 q _).mono ?_; rintro e w1 ⟨z, rfl, hz, hzl, hb1⟩; have HG1 := hid (HGX.out.drew.next hb1); have HZ := hid hz; have HZL := hid hzl; clear hb1 hz hzl) | (go_at_call 132; refine (f132 q z _ HZL.out.ms (HL.out.below HG1.out.hb.2) (HZL.out.lst (HL.out.below HG1.out.hb.2)) hs (Nat.le_trans HZL.out.wt hs)).mono ?_; rintro e w2 ⟨⟨bb, rfl, hbb⟩, hb2⟩; have HG2 := hid (HG1.out.next hb2); have hbf : bb = true := hbb.2 (HTD.out.trans HZ.out.symm); subst hbf; clear hb2 hbb))
  have HB2 := hid HG2.out.hb.2
  have HH2 := hid HG2.out.hb.1
  obtain ⟨x0, x1, x2, x3, x4, x5, x6, x7, x8, x9, x10, x11, x12, x13, x14⟩ := fifteen HH2.out
  by_cases hkc : q.kc = 1
  · have hkc' : (q.kc == 1) = true := by simp [hkc]
    by_cases h1 : 1 ≤ q.nu
    · by_cases h2 : q.nu ≤ 1000000000000
      · have HI : Hid ((true = true) ↔ (right (pl q) = true ∧ kidsM (pl q))) := by unfold Hid right kidsM pl; simp [HK.out, hkc, h1, h2]
        clear hkc
        go_wp2
        (try simp only [Exit.inBlock, Exit.then])
        go_ret
        exact ⟨⟨true, rfl, (by simpa using HI.out)⟩, HB2.out⟩
      · have HI : Hid ((false = true) ↔ (right (pl q) = true ∧ kidsM (pl q))) := by unfold Hid right kidsM pl; simp [HK.out, h2]
        clear hkc
        go_wp2
        (try simp only [Exit.inBlock, Exit.then])
        go_ret
        exact ⟨⟨_, rfl, HI.out⟩, HB2.out⟩
    · have HI : Hid ((false = true) ↔ (right (pl q) = true ∧ kidsM (pl q))) := by unfold Hid right kidsM pl; simp [HK.out, h1]
      clear hkc
      go_wp2
      (try simp only [Exit.inBlock, Exit.then])
      go_ret
      exact ⟨⟨_, rfl, HI.out⟩, HB2.out⟩
  · have hkc' : (q.kc == 1) = false := by simp [hkc]
    have HI : Hid ((false = true) ↔ (right (pl q) = true ∧ kidsM (pl q))) := by unfold Hid right kidsM pl; simp [HK.out, hkc]
    clear hkc
    go_wp2
    (try simp only [Exit.inBlock, Exit.then])
    go_ret
    exact ⟨⟨_, rfl, HI.out⟩, HB2.out⟩
end Go.Proofs.YtbdlahhejfamhaaGreatDoor.Qry
