/- The walk of FnExactMutedAt. -/
import Derived.Test.YthcogkoleiejgaaGreatDoorRNcc
import Derived.Test.YthcogkoleiejgaaGreatDoorRNcf
namespace Go.Proofs.YthcogkoleiejgaaGreatDoor.Ntf
open Go.RowKit
open Go.Proofs.YthcogkoleiejgaaGreatDoor.Rwc

set_option maxHeartbeats 4000000 in
theorem walkMutedAt (c : C) (z t : Int) (w : World) (hr : Has w c) (hm : Fit c) (hM : Cal.Mon w) (hR : Cal.Rgl w) :
    Calls Tryz.prog 5 #[agC c, .int .i64 z, .int .i64 t] w fun e w' => e = .returned (.bool true) ∧ Below w.heap.size w w' := by
  have H0 : Hid (Wa w c (w.alloc (BXL c))) := by
    have hb := (Below.refl w.heap.size w).alloc (Nat.le_refl _) (BXL c)
    exact ⟨heap_alloc_new w _, hr.below hb, hb⟩
  have HF := hid hm
  have HTR := hid hR
  have HTM := hid hM
  clear hr hm hR hM
  simp only [agC]
  go_enter Tryz.func5, Tryz.ntmps5
  obtain ⟨x0, x1, x2, x3⟩ := cells4 H0.out.one
  go_wp2_with fail
  refine (f6 c 1048576 _ (by omega) (by omega) H0.out.arg HF.out).mono ?_
  rintro e w1 ⟨y, rfl, y0, y1, hy, hb1⟩
  have H1 := hid (H0.out.below hb1)
  clear hb1 H0 x0 x1 x2 x3
  by_cases g0 : y < 0
  · go_wp2
    go_ret
    exact ⟨rfl, H1.out.bel⟩
  have HZ := hid (hy (by omega))
  clear hy
  obtain ⟨x0, x1, x2, x3⟩ := cells4 H1.out.one
  go_wp2_with fail
  refine (f8 c _ H1.out.arg HZ.out).mono ?_
  rintro e w2 ⟨t2, rfl, hs2, hh2, hb2⟩
  have H2 := hid (H1.out.below hb2)
  have HS2 := hid hs2
  have HH2 := hid hh2
  clear hb2 hs2 hh2 H1 x0 x1 x2 x3
  go_wp2_with fail
  refine (f16 t2 z t _ HH2.out (HS2.out.fit HF.out) (HS2.out.sml HZ.out)).mono ?_
  rw [mA_same (z := z) (t := t) HS2.out]
  rintro e w3 ⟨rfl, hb3⟩
  have H3 := hid (H2.out.below hb3)
  clear hb3 H2 HH2 HS2
  obtain ⟨x0, x1, x2, x3⟩ := cells4 H3.out.one
  obtain ⟨R, hR⟩ : ∃ R, R = mA c z t := ⟨_, rfl⟩
  have HRR := hid hR
  rw [← hR]
  clear hR
  go_wp2_with fail
  refine (f8 c _ H3.out.arg HZ.out).mono ?_
  rintro e w4 ⟨d, rfl, hs4, hh4, hb4⟩
  have HX4 := hid ((mA_same (z := z) (t := t) hs4).trans HRR.out.symm)
  have H5 := hid ((H3.out.below hb4).wx hh4)
  have HS4 := hid hs4
  clear hb4 hs4 hh4 H3 x0 x1 x2 x3
  have HTR5 := hid (HTR.out.below H5.out.bel)
  obtain ⟨W5, hW5⟩ : ∃ W, W = w4.alloc (BXC d) := ⟨_, rfl⟩
  rw [← hW5] at H5 HTR5
  have HW5 := hid hW5
  clear hW5
  go_upto_region 7 with fail
  rw [← HW5.out]
  clear HW5
  generalize w4.heap.size = BB at *
  obtain ⟨c0, c1, c2, c3⟩ := cells4 H5.out.two
  go_wp2_with fail
  refine (f17 d z t _ H5.out.has (HS4.out.fit HF.out) (HS4.out.sml HZ.out) (HTM.out.below H5.out.bel) HTR5.out).mono ?_
  rw [HX4.out]
  rintro e w6 ⟨rfl, hb6⟩
  have H6 := hid (H5.out.below hb6)
  clear hb6 H5 HTR5 c0 c1 c2 c3
  have HZ4 := hid (HS4.out.sml HZ.out)
  have gR : (R != R) = false := by simp
  clear HRR HX4
  go_wp2_with fail
  go_region_held3 (fun x => WS w c d w.heap.size BB x) (first | exact (H6.out.below (below_drew _)).cells | assumption) (first | (go_at_call 8; refine (f8 c _ (Wx.arg (WS.wx (by assumption))) HZ.out).mono ?_; rintro e w7 ⟨t7, rfl, hs7, hh7, hb7⟩; have hq7 := WS.below (by assumption) hb7; clear hb7) | (go_at_call 10; refine (f10 d t7 _ (Wx.has (WS.wx (by assumption))) (by assumption) HZ4.out (HS4.out.trans' (by assumption))).mono ?_; rintro e w8 ⟨rfl, hb8⟩; have hq8 := WS.below (by assumption) hb8; clear hb8))
  have HX8 := hid hq8.wx
  clear hq8
  go_wp2
  go_ret
  exact ⟨rfl, HX8.out.bel⟩
end Go.Proofs.YthcogkoleiejgaaGreatDoor.Ntf
