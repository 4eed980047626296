/- What is asked of a route by itself: isGoodRoute, l20Route. -/
import Derived.Test.YtkjodikccehmkaaRoo
import Derived.Test.YtkjodikccehmkaaMgd
import Derived.Test.YtkjodikccehmkaaNrn
import Derived.Test.YtkjodikccehmkaaNcq
import Derived.Test.YtkjodikccehmkaaFrn
namespace Go.Proofs.Ytkjodikccehmkaa.Rou
open Go.RowKit
open Go.Proofs.Ytkjodikccehmkaa.Pat (Mt HasM FitM goodM nameL)
open Go.Proofs.Ytkjodikccehmkaa.Fil (HasT)
open Go.Proofs.Ytkjodikccehmkaa.Rwc
open Go.Proofs.Ytkjodikccehmkaa.Nmt (namesL isT two)
open Go.Proofs.Ytkjodikccehmkaa.Ino (riseI num)

/-- A time above 0. -/
def isP (z : Int) : Bool := isT z && !(z == 0)
theorem isP_low {z : Int} (h : z < 1) : isP z = false := by unfold isP isT; rw [Bool.eq_iff_iff]; simp; omega
theorem isP_high {z : Int} (h : z > 1000000000000) : isP z = false := by unfold isP isT; rw [Bool.eq_iff_iff]; simp; omega
theorem isP_mid {z : Int} (h : ¬ z < 1) (h' : ¬ z > 1000000000000) : isP z = true := by unfold isP isT; simp; omega
/-- What is asked of a route by itself. -/
def okP (q : Pl) : Bool := nameL q.rv.data.toList && goodM q.ms && namesL q.ds && isT q.wa && isP q.ev && isP q.ag && decide (Ino.frb 20 19 q.us)
abbrev okR (q : T) : Bool := okP (pl q)
abbrev BX (q : T) : Obj := .cells (arT q) 79
theorem wt_lists {q : T} (h : wt q ≤ 1048576) : q.ms.length ≤ 1048576 ∧ q.ds.length ≤ 1048576 ∧ q.us.length ≤ 1048576 := by unfold wt at h; omega
set_option maxHeartbeats 8000000 in
theorem f80 (q : T) (w : World) (hl : Lst w q) (hf : Ft q) (hs : wt q ≤ 1048576) :
    Calls Try.prog 80 #[agT q] w fun e w' => e = .returned (.bool (okR q && decide (0 ≤ q.kd))) ∧ Below w.heap.size w w' := by
  obtain ⟨s1, s2, s3⟩ := wt_lists hs
  have HL := hid hl
  have HF := hid hf
  clear hl hf
  have HB0 := hid ((Below.refl w.heap.size w).alloc (Nat.le_refl _) (BX q))
  have HX0 := hid (heap_alloc_new w (BX q))
  have H1 := fun x => hid (Pat.f71 q.rv x HF.out.rv)
  have H2 := fun x a => hid (Pat.f91 q.ma q.ms.length q.mc q.ms x rfl HF.out.m.2 a HF.out.m.1)
  have H3 := fun x a => hid (Nmt.f64 q.da q.dc q.ds x s2 HF.out.d.1 a)
  have H4 := fun x => hid (Nmt.f106 q.wa x)
  have H5 := fun x => hid (Nmt.f106 q.ev x)
  have H6 := fun x => hid (Nmt.f106 q.ag x)
  have H7 := fun x a => hid (Ino.f107 q.ua q.uc q.us 20 19 x s3 a)
  have HO : Hid ((okR q && decide (0 ≤ q.kd)) = (nameL q.rv.data.toList && goodM q.ms && namesL q.ds && isT q.wa && (isT q.ev && !(q.ev == 0)) && (isT q.ag && !(q.ag == 0)) && decide (Ino.frb 20 19 q.us) && decide (0 ≤ q.kd))) := rfl
  obtain ⟨W0, hW⟩ : ∃ W, W = w.alloc (BX q) := ⟨_, rfl⟩
  rw [← hW] at HB0 HX0
  have HW := hid hW
  clear hW s1 s2 s3 hs
  generalize (okR q && decide (0 ≤ q.kd)) = R at *
  generalize nameL q.rv.data.toList = b1 at *
  generalize goodM q.ms = b2 at *
  generalize namesL q.ds = b3 at *
  generalize isT q.wa = b4 at *
  generalize isT q.ev = b5 at *
  generalize isT q.ag = b6 at *
  generalize decide (Ino.frb 20 19 q.us) = b7 at *
  simp only [agT]
  go_enter Try.func80, Try.ntmps80
  go_upto_region 1 with fail
  rw [← HW.out]
  clear HW
  obtain ⟨x0, x1, x2, x3, x4, x5, x6, x7, x8⟩ := cellsN HX0.out
  cases b1
  · have HY : Hid (R = false) := by unfold Hid; rw [HO.out]; simp
    go_wp2_with fail
    refine (H1 _).out.mono ?_
    rintro e w1 ⟨rfl, hw⟩
    have hb : Below W0.heap.size W0 w1 := by rw [hw]; exact Below.refl _ _
    clear hw
    have HB1 := hid (HB0.out.trans (hb.mono HB0.out.size))
    clear hb
    go_wp2
    go_ret
    exact ⟨by rw [HY.out]; first | rfl | simp, HB1.out⟩
  go_wp2_with fail
  refine (H1 _).out.mono ?_
  rintro e w1 ⟨rfl, hw⟩
  have hb : Below W0.heap.size W0 w1 := by rw [hw]; exact Below.refl _ _
  clear hw
  have HB1 := hid (HB0.out.trans (hb.mono HB0.out.size))
  have HX1 := hid (kept HX0.out hb)
  clear hb HB0 HX0 x0 x1 x2 x3 x4 x5 x6 x7 x8 H1
  obtain ⟨x0, x1, x2, x3, x4, x5, x6, x7, x8⟩ := cellsN HX1.out
  cases b2
  · have HY : Hid (R = false) := by unfold Hid; rw [HO.out]; simp
    go_wp2_with fail
    refine (H2 _ (HL.out.m.below HB1.out)).out.mono ?_
    rintro e w2 ⟨rfl, hb⟩
    have HB2 := hid (HB1.out.trans (hb.mono HB1.out.size))
    clear hb
    go_wp2
    go_ret
    exact ⟨by rw [HY.out]; first | rfl | simp, HB2.out⟩
  go_wp2_with fail
  refine (H2 _ (HL.out.m.below HB1.out)).out.mono ?_
  rintro e w2 ⟨rfl, hb⟩
  have HB2 := hid (HB1.out.trans (hb.mono HB1.out.size))
  have HX2 := hid (kept HX1.out hb)
  clear hb HB1 HX1 x0 x1 x2 x3 x4 x5 x6 x7 x8 H2
  obtain ⟨x0, x1, x2, x3, x4, x5, x6, x7, x8⟩ := cellsN HX2.out
  cases b3
  · have HY : Hid (R = false) := by unfold Hid; rw [HO.out]; simp
    go_wp2_with fail
    refine (H3 _ (HL.out.d.below HB2.out)).out.mono ?_
    rintro e w3 ⟨rfl, hb⟩
    have HB3 := hid (HB2.out.trans (hb.mono HB2.out.size))
    clear hb
    go_wp2
    go_ret
    exact ⟨by rw [HY.out]; first | rfl | simp, HB3.out⟩
  go_wp2_with fail
  refine (H3 _ (HL.out.d.below HB2.out)).out.mono ?_
  rintro e w3 ⟨rfl, hb⟩
  have HB3 := hid (HB2.out.trans (hb.mono HB2.out.size))
  have HX3 := hid (kept HX2.out hb)
  clear hb HB2 HX2 x0 x1 x2 x3 x4 x5 x6 x7 x8 H3
  obtain ⟨x0, x1, x2, x3, x4, x5, x6, x7, x8⟩ := cellsN HX3.out
  by_cases g : q.kd < 0
  · have HY : Hid (R = false) := by unfold Hid; rw [HO.out, decide_eq_false (show ¬ 0 ≤ q.kd by omega)]; simp
    go_wp2_with fail
    go_ret
    exact ⟨by rw [HY.out]; first | rfl | simp, HB3.out⟩
  have HG := hid (decide_eq_true (show 0 ≤ q.kd by omega))
  rw [HG.out, Bool.and_true] at HO
  clear x0 x1 x2 x3 x4 x5 x6 x7 x8
  obtain ⟨x0, x1, x2, x3, x4, x5, x6, x7, x8⟩ := cellsN HX3.out
  cases b4
  · have HY : Hid (R = false) := by unfold Hid; rw [HO.out]; simp
    go_wp2_with fail
    refine (H4 _).out.mono ?_
    rintro e w4 ⟨rfl, hw⟩
    have hb : Below w3.heap.size w3 w4 := by rw [hw]; exact Below.refl _ _
    clear hw
    have HB4 := hid (HB3.out.trans (hb.mono HB3.out.size))
    clear hb
    go_wp2
    go_ret
    exact ⟨by rw [HY.out]; first | rfl | simp, HB4.out⟩
  go_wp2_with fail
  refine (H4 _).out.mono ?_
  rintro e w4 ⟨rfl, hw⟩
  have hb : Below w3.heap.size w3 w4 := by rw [hw]; exact Below.refl _ _
  clear hw
  have HB4 := hid (HB3.out.trans (hb.mono HB3.out.size))
  have HX4 := hid (kept HX3.out hb)
  clear hb HB3 HX3 x0 x1 x2 x3 x4 x5 x6 x7 x8 H4
  obtain ⟨x0, x1, x2, x3, x4, x5, x6, x7, x8⟩ := cellsN HX4.out
  cases b5
  · have HY : Hid (R = false) := by unfold Hid; rw [HO.out]; simp
    go_wp2_with fail
    refine (H5 _).out.mono ?_
    rintro e w5 ⟨rfl, hw⟩
    have hb : Below w4.heap.size w4 w5 := by rw [hw]; exact Below.refl _ _
    clear hw
    have HB5 := hid (HB4.out.trans (hb.mono HB4.out.size))
    clear hb
    go_wp2
    go_ret
    exact ⟨by rw [HY.out]; first | rfl | simp, HB5.out⟩
  go_wp2_with fail
  refine (H5 _).out.mono ?_
  rintro e w5 ⟨rfl, hw⟩
  have hb : Below w4.heap.size w4 w5 := by rw [hw]; exact Below.refl _ _
  clear hw
  have HB5 := hid (HB4.out.trans (hb.mono HB4.out.size))
  have HX5 := hid (kept HX4.out hb)
  clear hb HB4 HX4 x0 x1 x2 x3 x4 x5 x6 x7 x8 H5
  obtain ⟨x0, x1, x2, x3, x4, x5, x6, x7, x8⟩ := cellsN HX5.out
  cases b6
  · have HY : Hid (R = false) := by unfold Hid; rw [HO.out]; simp
    go_wp2_with fail
    refine (H6 _).out.mono ?_
    rintro e w6 ⟨rfl, hw⟩
    have hb : Below w5.heap.size w5 w6 := by rw [hw]; exact Below.refl _ _
    clear hw
    have HB6 := hid (HB5.out.trans (hb.mono HB5.out.size))
    clear hb
    go_wp2
    go_ret
    exact ⟨by rw [HY.out]; first | rfl | simp, HB6.out⟩
  go_wp2_with fail
  refine (H6 _).out.mono ?_
  rintro e w6 ⟨rfl, hw⟩
  have hb : Below w5.heap.size w5 w6 := by rw [hw]; exact Below.refl _ _
  clear hw
  have HB6 := hid (HB5.out.trans (hb.mono HB5.out.size))
  have HX6 := hid (kept HX5.out hb)
  clear hb HB5 HX5 x0 x1 x2 x3 x4 x5 x6 x7 x8 H6
  obtain ⟨x0, x1, x2, x3, x4, x5, x6, x7, x8⟩ := cellsN HX6.out
  cases g1 : (q.ev == 0)
  rotate_left
  · have HY : Hid (R = false) := by unfold Hid; rw [HO.out, g1]; simp
    go_wp2_with fail
    go_ret
    exact ⟨by rw [HY.out]; first | rfl | simp, HB6.out⟩
  rw [g1] at HO
  have g1h : (q.ev == 0) = false := g1
  clear x0 x1 x2 x3 x4 x5 x6 x7 x8
  obtain ⟨x0, x1, x2, x3, x4, x5, x6, x7, x8⟩ := cellsN HX6.out
  cases g2 : (q.ag == 0)
  rotate_left
  · have HY : Hid (R = false) := by unfold Hid; rw [HO.out, g2]; simp
    go_wp2_with fail
    go_ret
    exact ⟨by rw [HY.out]; first | rfl | simp, HB6.out⟩
  rw [g2] at HO
  have g2h : (q.ag == 0) = false := g2
  clear x0 x1 x2 x3 x4 x5 x6 x7 x8
  obtain ⟨x0, x1, x2, x3, x4, x5, x6, x7, x8⟩ := cellsN HX6.out
  have HY : Hid (R = b7) := by unfold Hid; rw [HO.out]; simp
  go_wp2_with fail
  refine (H7 _ (HL.out.u.below HB6.out)).out.mono ?_
  rintro e w7 ⟨rfl, hb⟩
  have HB7 := hid (HB6.out.trans (hb.mono HB6.out.size))
  clear hb
  go_wp2
  go_ret
  exact ⟨by rw [HY.out]; first | rfl | simp, HB7.out⟩
set_option maxHeartbeats 8000000 in
theorem f78 (q : T) (w : World) (hl : Lst w q) (hf : Ft q) (hs : wt q ≤ 1048576) :
    Calls Try.prog 78 #[agT q] w fun e w' => e = .returned (.bool (okR q)) ∧ Below w.heap.size w w' := by
  obtain ⟨s1, s2, s3⟩ := wt_lists hs
  have HL := hid hl
  have HF := hid hf
  clear hl hf
  have HB0 := hid ((Below.refl w.heap.size w).alloc (Nat.le_refl _) (BX q))
  have HX0 := hid (heap_alloc_new w (BX q))
  have H1 := fun x => hid (Pat.f57 q.rv x HF.out.rv)
  have H2 := fun x a => hid (Pat.f31 q.ma q.ms.length q.mc q.ms x rfl HF.out.m.2 a HF.out.m.1)
  have H3 := fun x a => hid (Nmt.f32 q.da q.ds.length q.dc q.ds x rfl s2 HF.out.d.1 a)
  have H4 := fun x => hid (Nmt.f104 q.wa x)
  have H7 := fun x a => hid (Ino.f105 q.ua q.us.length q.uc q.us x rfl s3 a)
  have HO : Hid (okR q = (nameL q.rv.data.toList && goodM q.ms && namesL q.ds && isT q.wa && isP q.ev && isP q.ag && decide (Ino.frb 20 19 q.us))) := rfl
  obtain ⟨W0, hW⟩ : ∃ W, W = w.alloc (BX q) := ⟨_, rfl⟩
  rw [← hW] at HB0 HX0
  have HW := hid hW
  clear hW s1 s2 s3 hs
  generalize okR q = R at *
  generalize nameL q.rv.data.toList = b1 at *
  generalize goodM q.ms = b2 at *
  generalize namesL q.ds = b3 at *
  generalize isT q.wa = b4 at *
  simp only [agT]
  go_enter Try.func78, Try.ntmps78
  go_upto_region 1 with fail
  rw [← HW.out]
  clear HW
  obtain ⟨x0, x1, x2, x3, x4, x5, x6, x7, x8⟩ := cellsN HX0.out
  cases b1
  · have HY : Hid (R = false) := by unfold Hid; rw [HO.out]; simp
    go_wp2_with fail
    refine (H1 _).out.mono ?_
    rintro e w1 ⟨rfl, hw⟩
    have hb : Below W0.heap.size W0 w1 := by rw [hw]; exact Below.refl _ _
    clear hw
    have HB1 := hid (HB0.out.trans (hb.mono HB0.out.size))
    clear hb
    go_wp2
    go_ret
    exact ⟨by rw [HY.out]; first | rfl | simp, HB1.out⟩
  go_wp2_with fail
  refine (H1 _).out.mono ?_
  rintro e w1 ⟨rfl, hw⟩
  have hb : Below W0.heap.size W0 w1 := by rw [hw]; exact Below.refl _ _
  clear hw
  have HB1 := hid (HB0.out.trans (hb.mono HB0.out.size))
  have HX1 := hid (kept HX0.out hb)
  clear hb HB0 HX0 x0 x1 x2 x3 x4 x5 x6 x7 x8 H1
  obtain ⟨x0, x1, x2, x3, x4, x5, x6, x7, x8⟩ := cellsN HX1.out
  cases b2
  · have HY : Hid (R = false) := by unfold Hid; rw [HO.out]; simp
    go_wp2_with fail
    refine (H2 _ (HL.out.m.below HB1.out)).out.mono ?_
    rintro e w2 ⟨rfl, hb⟩
    have HB2 := hid (HB1.out.trans (hb.mono HB1.out.size))
    clear hb
    go_wp2
    go_ret
    exact ⟨by rw [HY.out]; first | rfl | simp, HB2.out⟩
  go_wp2_with fail
  refine (H2 _ (HL.out.m.below HB1.out)).out.mono ?_
  rintro e w2 ⟨rfl, hb⟩
  have HB2 := hid (HB1.out.trans (hb.mono HB1.out.size))
  have HX2 := hid (kept HX1.out hb)
  clear hb HB1 HX1 x0 x1 x2 x3 x4 x5 x6 x7 x8 H2
  obtain ⟨x0, x1, x2, x3, x4, x5, x6, x7, x8⟩ := cellsN HX2.out
  cases b3
  · have HY : Hid (R = false) := by unfold Hid; rw [HO.out]; simp
    go_wp2_with fail
    refine (H3 _ (HL.out.d.below HB2.out)).out.mono ?_
    rintro e w3 ⟨rfl, hb⟩
    have HB3 := hid (HB2.out.trans (hb.mono HB2.out.size))
    clear hb
    go_wp2
    go_ret
    exact ⟨by rw [HY.out]; first | rfl | simp, HB3.out⟩
  go_wp2_with fail
  refine (H3 _ (HL.out.d.below HB2.out)).out.mono ?_
  rintro e w3 ⟨rfl, hb⟩
  have HB3 := hid (HB2.out.trans (hb.mono HB2.out.size))
  have HX3 := hid (kept HX2.out hb)
  clear hb HB2 HX2 x0 x1 x2 x3 x4 x5 x6 x7 x8 H3
  obtain ⟨x0, x1, x2, x3, x4, x5, x6, x7, x8⟩ := cellsN HX3.out
  cases b4
  · have HY : Hid (R = false) := by unfold Hid; rw [HO.out]; simp
    go_wp2_with fail
    refine (H4 _).out.mono ?_
    rintro e w4 ⟨rfl, hw⟩
    have hb : Below w3.heap.size w3 w4 := by rw [hw]; exact Below.refl _ _
    clear hw
    have HB4 := hid (HB3.out.trans (hb.mono HB3.out.size))
    clear hb
    go_wp2
    go_ret
    exact ⟨by rw [HY.out]; first | rfl | simp, HB4.out⟩
  go_wp2_with fail
  refine (H4 _).out.mono ?_
  rintro e w4 ⟨rfl, hw⟩
  have hb : Below w3.heap.size w3 w4 := by rw [hw]; exact Below.refl _ _
  clear hw
  have HB4 := hid (HB3.out.trans (hb.mono HB3.out.size))
  have HX4 := hid (kept HX3.out hb)
  clear hb HB3 HX3 x0 x1 x2 x3 x4 x5 x6 x7 x8 H4
  obtain ⟨x0, x1, x2, x3, x4, x5, x6, x7, x8⟩ := cellsN HX4.out
  by_cases g1 : q.ev < 1
  · have HY : Hid (R = false) := by unfold Hid; rw [HO.out, isP_low g1]; simp
    go_wp2_with fail
    go_ret
    exact ⟨by rw [HY.out]; first | rfl | simp, HB4.out⟩
  clear x0 x1 x2 x3 x4 x5 x6 x7 x8
  obtain ⟨x0, x1, x2, x3, x4, x5, x6, x7, x8⟩ := cellsN HX4.out
  by_cases g2 : q.ev > 1000000000000
  · have HY : Hid (R = false) := by unfold Hid; rw [HO.out, isP_high g2]; simp
    go_wp2_with fail
    go_ret
    exact ⟨by rw [HY.out]; first | rfl | simp, HB4.out⟩
  clear x0 x1 x2 x3 x4 x5 x6 x7 x8
  obtain ⟨x0, x1, x2, x3, x4, x5, x6, x7, x8⟩ := cellsN HX4.out
  by_cases g3 : q.ag < 1
  · have HY : Hid (R = false) := by unfold Hid; rw [HO.out, isP_low g3]; simp
    go_wp2_with fail
    go_ret
    exact ⟨by rw [HY.out]; first | rfl | simp, HB4.out⟩
  clear x0 x1 x2 x3 x4 x5 x6 x7 x8
  obtain ⟨x0, x1, x2, x3, x4, x5, x6, x7, x8⟩ := cellsN HX4.out
  by_cases g4 : q.ag > 1000000000000
  · have HY : Hid (R = false) := by unfold Hid; rw [HO.out, isP_high g4]; simp
    go_wp2_with fail
    go_ret
    exact ⟨by rw [HY.out]; first | rfl | simp, HB4.out⟩
  clear x0 x1 x2 x3 x4 x5 x6 x7 x8
  have HP : Hid (R = (true && true && true && true && true && true && decide (Ino.frb 20 19 q.us))) := by unfold Hid; rw [HO.out, isP_mid g1 g2, isP_mid g3 g4]
  obtain ⟨x0, x1, x2, x3, x4, x5, x6, x7, x8⟩ := cellsN HX4.out
  by_cases g5 : (q.us.length : Int) > 20
  · have HY : Hid (R = false) := by unfold Hid; rw [HP.out, decide_eq_false (show ¬ Ino.frb 20 19 q.us from fun h => by have := h.1; omega)]; simp
    go_wp2_with fail
    go_ret
    exact ⟨by rw [HY.out]; first | rfl | simp, HB4.out⟩
  have g6 : q.us.length ≤ 20 := by omega
  have HN := hid (Ino.num_short (l := q.us) (by omega))
  cases g7 : num q.us
  · have HY : Hid (R = false) := by unfold Hid; rw [HP.out, decide_eq_false (show ¬ Ino.frb 20 19 q.us from fun h => by have := h.2.1; rw [← HN.out, g7] at this; cases this)]; simp
    rw [g7] at H7
    go_wp2_with fail
    refine (H7 _ (HL.out.u.below HB4.out)).out.mono ?_
    rintro e w5 ⟨rfl, hb⟩
    have HB5 := hid (HB4.out.trans (hb.mono HB4.out.size))
    clear hb
    go_wp2
    go_ret
    exact ⟨by rw [HY.out]; first | rfl | simp, HB5.out⟩
  rw [g7] at H7
  have HRI : Hid (riseI q.us = true) := HN.out.symm.trans g7
  clear g7 HN
  go_wp2_with fail
  refine (H7 _ (HL.out.u.below HB4.out)).out.mono ?_
  rintro e w5 ⟨rfl, hb⟩
  have HB5 := hid (HB4.out.trans (hb.mono HB4.out.size))
  have HX5 := hid (kept HX4.out hb)
  clear hb HB4 HX4 x0 x1 x2 x3 x4 x5 x6 x7 x8
  obtain ⟨x0, x1, x2, x3, x4, x5, x6, x7, x8⟩ := cellsN HX5.out
  have HU := hid (HL.out.u.below HB5.out)
  go_wp2
  go_loopw [62] (fun i wr => ∃ k : Nat, k ≤ q.us.length ∧ i = .int .i64 k ∧ Hid (∀ i, i < k → 0 ≤ q.us.getD i 0 ∧ q.us.getD i 0 ≤ 19) ∧ wr = w5) (fun i _ => q.us.length - (intOf i).toNat)
  case atStart => exact ⟨0, Nat.zero_le _, rfl, fun i hi => absurd hi (by omega), rfl⟩
  case round =>
    obtain ⟨k, hk, rfl, HA, rfl⟩ := hrel
    by_cases hlt : k < q.us.length
    · rcases HU.out with hr | ⟨b, off, hr, hbl, hc⟩
      · exact absurd hlt (by rw [hr]; simp)
      have c0 := hc k hlt
      have HAk : Hid (0 ≤ q.us.getD k 0 ∧ q.us.getD k 0 ≤ 19 → ∀ i, i < k + 1 → 0 ≤ q.us.getD i 0 ∧ q.us.getD i 0 ≤ 19) := by
        intro h i hi
        by_cases e : i = k
        · subst e; exact h
        · exact HA.out i (by omega)
      have HNo : Hid (¬ (0 ≤ q.us.getD k 0 ∧ q.us.getD k 0 ≤ 19) → R = false) := by
        intro h; rw [HP.out, decide_eq_false (show ¬ Ino.frb 20 19 q.us from fun g => h (g.2.2 k hlt))]; simp
      clear hc
      have HRA := hid hr
      generalize q.us.getD k 0 = z at *
      rw [hr] at x6
      by_cases ga : z < 0
      · have HY := hid (HNo.out (by omega))
        rw [HRA.out]
        go_wp2
        go_ret
        exact ⟨by rw [HY.out]; first | rfl | simp, HB5.out⟩
      by_cases gb : z ≥ 20
      · have HY := hid (HNo.out (by omega))
        rw [HRA.out]
        go_wp2
        go_ret
        exact ⟨by rw [HY.out]; first | rfl | simp, HB5.out⟩
      have HZ := hid (HAk.out (by omega))
      rw [HRA.out]
      go_wp2
      go_round
      case rel => exact ⟨k + 1, by omega, by go_num, HZ, trivial⟩
      case measure => simp [intOf]; omega
    · have HY : Hid (R = true) := by unfold Hid; rw [HP.out, decide_eq_true (show Ino.frb 20 19 q.us from ⟨g6, HRI.out, fun i hi => HA.out i (by omega)⟩)]; simp
      go_wp2
      go_ret
      exact ⟨by rw [HY.out]; first | rfl | simp, HB5.out⟩
end Go.Proofs.Ytkjodikccehmkaa.Rou
