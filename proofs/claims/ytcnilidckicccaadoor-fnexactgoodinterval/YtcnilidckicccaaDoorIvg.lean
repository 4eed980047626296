/- The walk of FnExactGoodInterval. -/
import Derived.Test.YtcnilidckicccaaDoorIvf
import Derived.Deep.RegionHeld3
namespace Go.Proofs.YtcnilidckicccaaDoor.Rng
open Go.RowKit

theorem Same.trans' {i j k : Iv} (h : Same i j) (g : Same i k) : Same j k := ⟨g.z.trans h.z.symm, g.e1.trans h.e1.symm, g.e2.trans h.e2.symm, g.e3.trans h.e3.symm, g.e4.trans h.e4.symm, g.e5.trans h.e5.symm, g.e6.trans h.e6.symm⟩
/-- The argument in its box, the copy that was handed in in another one. -/
structure Wx (w : World) (i j : Iv) (B : Nat) (x : World) : Prop where
  one : x.heap[w.heap.size]? = some (.cells (clI i) 38)
  two : x.heap[B]? = some (.cells (clI j) 26)
  arg : Has x i
  has : Has x j
  bel : Below w.heap.size w x
theorem Wx.below {w : World} {i j : Iv} {B : Nat} {x y : World} (h : Wx w i j B x) (hb : Below x.heap.size x y) : Wx w i j B y := ⟨kept h.one hb, kept h.two hb, h.arg.below hb, h.has.below hb, h.bel.trans (hb.mono h.bel.size)⟩
abbrev WS (w : World) (i j : Iv) (B : Nat) (x : World) : Prop :=
  x.cell? ⟨w.heap.size, 0, none⟩ = some (.int .i64 i.z) ∧ x.cell? ⟨w.heap.size, 1, none⟩ = some (.slice i.a1 i.l1.length i.c1) ∧ x.cell? ⟨w.heap.size, 2, none⟩ = some (.slice i.a2 i.l2.length i.c2) ∧ x.cell? ⟨w.heap.size, 3, none⟩ = some (.slice i.a3 i.l3.length i.c3) ∧ x.cell? ⟨w.heap.size, 4, none⟩ = some (.slice i.a4 i.l4.length i.c4) ∧ x.cell? ⟨w.heap.size, 5, none⟩ = some (.slice i.a5 i.l5.length i.c5) ∧ x.cell? ⟨w.heap.size, 6, none⟩ = some (.slice i.a6 i.l6.length i.c6) ∧ x.cell? ⟨B, 0, none⟩ = some (.int .i64 j.z) ∧ x.cell? ⟨B, 1, none⟩ = some (.slice j.a1 j.l1.length j.c1) ∧ x.cell? ⟨B, 2, none⟩ = some (.slice j.a2 j.l2.length j.c2) ∧ x.cell? ⟨B, 3, none⟩ = some (.slice j.a3 j.l3.length j.c3) ∧ x.cell? ⟨B, 4, none⟩ = some (.slice j.a4 j.l4.length j.c4) ∧ x.cell? ⟨B, 5, none⟩ = some (.slice j.a5 j.l5.length j.c5) ∧ x.cell? ⟨B, 6, none⟩ = some (.slice j.a6 j.l6.length j.c6) ∧ Wx w i j B x
theorem Wx.cells {w : World} {i j : Iv} {B : Nat} {x : World} (h : Wx w i j B x) : WS w i j B x := by
  obtain ⟨b0, b1, b2, b3, b4, b5, b6⟩ := cells7 h.one
  obtain ⟨c0, c1, c2, c3, c4, c5, c6⟩ := cells7 h.two
  exact ⟨b0, b1, b2, b3, b4, b5, b6, c0, c1, c2, c3, c4, c5, c6, h⟩
theorem WS.wx {w : World} {i j : Iv} {B : Nat} {x : World} (h : WS w i j B x) : Wx w i j B x := h.2.2.2.2.2.2.2.2.2.2.2.2.2.2
theorem WS.below {w : World} {i j : Iv} {B : Nat} {x y : World} (h : WS w i j B x) (hb : Below x.heap.size x y) : WS w i j B y := (h.wx.below hb).cells
theorem below_drew (w : World) : Below w.heap.size w w.drew := (Below.refl _ _).drew

set_option maxHeartbeats 4000000 in
theorem walkGood (i : Iv)  (w : World) (hr : Has w i) (hm : Max i) (hR : Cal.Rgl w) :
    Calls Tryd.prog 4 #[agI i] w fun e w' => e = .returned (.bool true) ∧ Below w.heap.size w w' := by
  have hbb := (Below.refl w.heap.size w).alloc (Nat.le_refl _) (.cells (clI i) 38)
  have H0 := hid (show (w.alloc (.cells (clI i) 38)).heap[w.heap.size]? = some (.cells (clI i) 38) ∧ Has (w.alloc (.cells (clI i) 38)) i ∧ Below w.heap.size w (w.alloc (.cells (clI i) 38)) from ⟨heap_alloc_new w _, hr.below hbb, hbb⟩)
  have HF := hid hm
  have HTR := hid hR
  clear hr hm hbb hR
  obtain ⟨z, l1, l2, l3, l4, l5, l6, a1, c1, a2, c2, a3, c3, a4, c4, a5, c5, a6, c6⟩ := i
  go_enter Tryd.func4, Tryd.ntmps4
  go_wp2_with fail
  refine (f12 ⟨z, l1, l2, l3, l4, l5, l6, a1, c1, a2, c2, a3, c3, a4, c4, a5, c5, a6, c6⟩ _ HF.out).mono ?_
  rintro e w1 ⟨y, rfl, hy, hb1⟩
  have H1 := hid (show w1.heap[w.heap.size]? = some (.cells (clI ⟨z, l1, l2, l3, l4, l5, l6, a1, c1, a2, c2, a3, c3, a4, c4, a5, c5, a6, c6⟩) 38) ∧ Has w1 ⟨z, l1, l2, l3, l4, l5, l6, a1, c1, a2, c2, a3, c3, a4, c4, a5, c5, a6, c6⟩ ∧ Below w.heap.size w w1 from ⟨kept H0.out.1 hb1, H0.out.2.1.below hb1, H0.out.2.2.trans (hb1.mono H0.out.2.2.size)⟩)
  clear hb1 H0
  by_cases g0 : y < 0
  · go_wp2
    go_ret
    exact ⟨rfl, H1.out.2.2⟩
  have HZ := hid (hy (by omega))
  clear hy
  obtain ⟨b0, b1, b2, b3, b4, b5, b6⟩ := cells7 H1.out.1
  go_wp2_with fail
  refine (f13 ⟨z, l1, l2, l3, l4, l5, l6, a1, c1, a2, c2, a3, c3, a4, c4, a5, c5, a6, c6⟩ _ H1.out.2.1 HZ.out).mono ?_
  rintro e w2 ⟨t2, rfl, hs2, hh2, hb2⟩
  have H2 := hid (show w2.heap[w.heap.size]? = some (.cells (clI ⟨z, l1, l2, l3, l4, l5, l6, a1, c1, a2, c2, a3, c3, a4, c4, a5, c5, a6, c6⟩) 38) ∧ Has w2 ⟨z, l1, l2, l3, l4, l5, l6, a1, c1, a2, c2, a3, c3, a4, c4, a5, c5, a6, c6⟩ ∧ Below w.heap.size w w2 from ⟨kept H1.out.1 hb2, H1.out.2.1.below hb2, H1.out.2.2.trans (hb2.mono H1.out.2.2.size)⟩)
  have HS2 := hid hs2
  have HH2 := hid hh2
  clear hb2 hs2 hh2 H1 b0 b1 b2 b3 b4 b5 b6
  go_wp2_with fail
  refine (f9 t2 _ HH2.out (HS2.out.sml HZ.out)).mono ?_
  rintro e w3 ⟨rfl, hb3⟩
  have H3 := hid (show w3.heap[w.heap.size]? = some (.cells (clI ⟨z, l1, l2, l3, l4, l5, l6, a1, c1, a2, c2, a3, c3, a4, c4, a5, c5, a6, c6⟩) 38) ∧ Has w3 ⟨z, l1, l2, l3, l4, l5, l6, a1, c1, a2, c2, a3, c3, a4, c4, a5, c5, a6, c6⟩ ∧ Below w.heap.size w w3 from ⟨kept H2.out.1 hb3, H2.out.2.1.below hb3, H2.out.2.2.trans (hb3.mono H2.out.2.2.size)⟩)
  rw [gi_same HS2.out]
  clear hb3 H2 HH2 HS2
  obtain ⟨b0, b1, b2, b3, b4, b5, b6⟩ := cells7 H3.out.1
  obtain ⟨R, hR⟩ : ∃ R, R = gi ⟨z, l1, l2, l3, l4, l5, l6, a1, c1, a2, c2, a3, c3, a4, c4, a5, c5, a6, c6⟩ := ⟨_, rfl⟩
  have HRR := hid hR
  rw [← hR]
  clear hR
  go_wp2_with fail
  refine (f13 ⟨z, l1, l2, l3, l4, l5, l6, a1, c1, a2, c2, a3, c3, a4, c4, a5, c5, a6, c6⟩ _ H3.out.2.1 HZ.out).mono ?_
  rintro e w4 ⟨t4, rfl, hs4, hh4, hb4⟩
  have HX4 := hid ((gi_same hs4).trans HRR.out.symm)
  obtain ⟨z4, l1', l2', l3', l4', l5', l6', a1', c1', a2', c2', a3', c3', a4', c4', a5', c5', a6', c6'⟩ := t4
  have H5 : Hid (Wx w ⟨z, l1, l2, l3, l4, l5, l6, a1, c1, a2, c2, a3, c3, a4, c4, a5, c5, a6, c6⟩ ⟨z4, l1', l2', l3', l4', l5', l6', a1', c1', a2', c2', a3', c3', a4', c4', a5', c5', a6', c6'⟩ w4.heap.size (w4.alloc (.cells (clI ⟨z4, l1', l2', l3', l4', l5', l6', a1', c1', a2', c2', a3', c3', a4', c4', a5', c5', a6', c6'⟩) 26))) := by
    have hb := (Below.refl w4.heap.size w4).alloc (Nat.le_refl _) (.cells (clI ⟨z4, l1', l2', l3', l4', l5', l6', a1', c1', a2', c2', a3', c3', a4', c4', a5', c5', a6', c6'⟩) 26)
    have hb5 := H3.out.2.2.trans (hb4.mono H3.out.2.2.size)
    exact ⟨kept (kept H3.out.1 hb4) hb, heap_alloc_new w4 _, (H3.out.2.1.below hb4).below hb, hh4.below hb, hb5.trans (hb.mono hb5.size)⟩
  have HS4 := hid hs4
  clear hb4 hs4 hh4 H3 b0 b1 b2 b3 b4 b5 b6
  obtain ⟨c0x, c1x, c2x, c3x, c4x, c5x, c6x⟩ := cells7 H5.out.two
  have HTR5 := hid (HTR.out.below H5.out.bel)
  generalize hBB : w4.heap.size = BB at *
  go_wp2_with fail
  refine (f14 ⟨z4, l1', l2', l3', l4', l5', l6', a1', c1', a2', c2', a3', c3', a4', c4', a5', c5', a6', c6'⟩ _ H5.out.has (HS4.out.sml HZ.out) HTR5.out).mono ?_
  rw [HX4.out]
  rintro e w6 ⟨rfl, hb6⟩
  have H6 := hid (H5.out.below hb6)
  clear hb6 H5 HTR5 c0x c1x c2x c3x c4x c5x c6x hBB
  have HZ4 := hid (HS4.out.sml HZ.out)
  have gR : (R != R) = false := by simp
  clear HRR HX4
  go_wp2_with fail
  go_region_held3 (fun x => WS w ⟨z, l1, l2, l3, l4, l5, l6, a1, c1, a2, c2, a3, c3, a4, c4, a5, c5, a6, c6⟩ ⟨z4, l1', l2', l3', l4', l5', l6', a1', c1', a2', c2', a3', c3', a4', c4', a5', c5', a6', c6'⟩ BB x) (first | exact (H6.out.below (below_drew _)).cells | assumption) (first | (go_at_call 13; refine (f13 ⟨z, l1, l2, l3, l4, l5, l6, a1, c1, a2, c2, a3, c3, a4, c4, a5, c5, a6, c6⟩ _ (Wx.arg (WS.wx (by assumption))) HZ.out).mono ?_; rintro e w7 ⟨t7, rfl, hs7, hh7, hb7⟩; have hq7 := WS.below (by assumption) hb7; clear hb7) | (go_at_call 15; refine (f15 ⟨z4, l1', l2', l3', l4', l5', l6', a1', c1', a2', c2', a3', c3', a4', c4', a5', c5', a6', c6'⟩ t7 _ (Wx.has (WS.wx (by assumption))) (by assumption) HZ4.out (HS4.out.trans' (by assumption))).mono ?_; rintro e w8 ⟨rfl, hb8⟩; have hq8 := WS.below (by assumption) hb8; clear hb8))
  have HX8 := hid hq8.wx
  clear hq8
  go_wp2
  go_ret
  exact ⟨rfl, HX8.out.bel⟩
end Go.Proofs.YtcnilidckicccaaDoor.Rng
