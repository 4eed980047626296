/- Configurations of telling that came in; the walk of FnExactGoodNotify. -/
import Derived.Test.YthcogkoleiejgaaGreatDoorRNcb
import Derived.Lib.SmallJoins
import Derived.Deep.RegionHeld3
namespace Go.Proofs.YthcogkoleiejgaaGreatDoor.Ntf
open Go.ChangeShapes Go.WideShapes Go.ChangeAt Go.RowKit Go.Deep Go.WideElems Go.Maps
open Go.Proofs.YthcogkoleiejgaaGreatDoor.Rwc

set_option maxRecDepth 100000 in
theorem open_conf {H : Type} {enc : TypeId × Value → H} {W : World} {base : Nat} {v : Value} {d : DataW H} {p : List MemPlace} (hv : Value.okWide Tryz.prog W .any base 27 v) (h : DataW.Trod enc Tryz.prog W 0 (fun _ => true) true 27 v d p) :
    ∃ c : C, v = agC c ∧ Has W c ∧ Fit c := by
  obtain ⟨v0, v1, v2, v3, u0, u1, u2, u3, n, rfl, rfl, rfl, h0, h1, h2, h3⟩ := Go.Joins.open_agg4 Tryz.underlying27 (by kernel_rfl) (by kernel_rfl) hv h
  obtain ⟨a0, n0, c0, rfl⟩ : ∃ a len cap, v0 = .slice a len cap := by
    rcases Deep.open_slice Tryz.underlying22 h0 with ⟨hq, _⟩ | ⟨a, l, c, m, n', D, Pl, hq, _⟩
    · simp only [List.cons.injEq, and_true] at hq; exact ⟨_, _, _, hq⟩
    · simp only [List.cons.injEq, and_true] at hq; exact ⟨_, _, _, hq⟩
  obtain ⟨l0, q0, m0, x0, y0⟩ := Rou.open_list (enc := enc) (a0 := a0) (len0 := n0) (cap0 := c0) (W := W) (d := u0.1) (p := u0.2) ⟨n, by simpa [Value.cells] using h0⟩
  subst q0
  obtain ⟨a1, n1, c1, rfl⟩ : ∃ a len cap, v1 = .slice a len cap := by
    rcases Deep.open_slice Tryz.underlying23 h1 with ⟨hq, _⟩ | ⟨a, l, c, m, n', D, Pl, hq, _⟩
    · simp only [List.cons.injEq, and_true] at hq; exact ⟨_, _, _, hq⟩
    · simp only [List.cons.injEq, and_true] at hq; exact ⟨_, _, _, hq⟩
  obtain ⟨l1, q1, m1, x1, y1⟩ := Ivn.open_list (enc := enc) (a0 := a1) (len0 := n1) (cap0 := c1) (W := W) (d := u1.1) (p := u1.2) ⟨n, by simpa [Value.cells] using h1⟩
  subst q1
  obtain ⟨a2, n2, c2, rfl⟩ : ∃ a len cap, v2 = .slice a len cap := by
    rcases Deep.open_slice Tryz.underlying24 h2 with ⟨hq, _⟩ | ⟨a, l, c, m, n', D, Pl, hq, _⟩
    · simp only [List.cons.injEq, and_true] at hq; exact ⟨_, _, _, hq⟩
    · simp only [List.cons.injEq, and_true] at hq; exact ⟨_, _, _, hq⟩
  obtain ⟨l2, q2, m2, x2, y2⟩ := Sln.open_list (enc := enc) (a0 := a2) (len0 := n2) (cap0 := c2) (W := W) (d := u2.1) (p := u2.2) ⟨n, by simpa [Value.cells] using h2⟩
  subst q2
  obtain ⟨a3, n3, c3, rfl⟩ : ∃ a len cap, v3 = .slice a len cap := by
    rcases Deep.open_slice Tryz.underlying25 h3 with ⟨hq, _⟩ | ⟨a, l, c, m, n', D, Pl, hq, _⟩
    · simp only [List.cons.injEq, and_true] at hq; exact ⟨_, _, _, hq⟩
    · simp only [List.cons.injEq, and_true] at hq; exact ⟨_, _, _, hq⟩
  obtain ⟨l3, q3, m3, x3, y3⟩ := Inh.open_list (enc := enc) (a0 := a3) (len0 := n3) (cap0 := c3) (W := W) (d := u3.1) (p := u3.2) ⟨n, by simpa [Value.cells] using h3⟩
  subst q3
  exact ⟨⟨l0, a0, c0, l1, a1, c1, l2, a2, c2, l3, a3, c3⟩, rfl, ⟨x0, x1, x2, x3⟩, ⟨⟨y0, m0⟩, ⟨y1, m1⟩, ⟨y2, m2⟩, ⟨y3, m3⟩⟩⟩

/-- The argument in its box, the copy that was handed in in another one. -/
structure Wx (w : World) (c d : C) (A B : Nat) (x : World) : Prop where
  one : x.heap[A]? = some (.cells (arC c) 27)
  two : x.heap[B]? = some (.cells (arC d) 35)
  arg : Has x c
  has : Has x d
  bel : Below w.heap.size w x
theorem Wx.below {w : World} {c d : C} {A B : Nat} {x y : World} (h : Wx w c d A B x) (hb : Below x.heap.size x y) : Wx w c d A B y := ⟨kept h.one hb, kept h.two hb, h.arg.below hb, h.has.below hb, h.bel.trans (hb.mono h.bel.size)⟩
abbrev WS (w : World) (c d : C) (A B : Nat) (x : World) : Prop :=
  x.cell? ⟨A, 0, none⟩ = some (.slice c.ra c.r.length c.rc) ∧ x.cell? ⟨A, 1, none⟩ = some (.slice c.ia c.i.length c.ic) ∧ x.cell? ⟨A, 2, none⟩ = some (.slice c.sa c.s.length c.sc) ∧ x.cell? ⟨A, 3, none⟩ = some (.slice c.xa c.x.length c.xc) ∧ x.cell? ⟨B, 0, none⟩ = some (.slice d.ra d.r.length d.rc) ∧ x.cell? ⟨B, 1, none⟩ = some (.slice d.ia d.i.length d.ic) ∧ x.cell? ⟨B, 2, none⟩ = some (.slice d.sa d.s.length d.sc) ∧ x.cell? ⟨B, 3, none⟩ = some (.slice d.xa d.x.length d.xc) ∧ Wx w c d A B x
theorem Wx.cells {w : World} {c d : C} {A B : Nat} {x : World} (h : Wx w c d A B x) : WS w c d A B x := by
  obtain ⟨b0, b1, b2, b3⟩ := cells4 h.one
  obtain ⟨c0, c1, c2, c3⟩ := cells4 h.two
  exact ⟨b0, b1, b2, b3, c0, c1, c2, c3, h⟩
theorem WS.wx {w : World} {c d : C} {A B : Nat} {x : World} (h : WS w c d A B x) : Wx w c d A B x := h.2.2.2.2.2.2.2.2
theorem WS.below {w : World} {c d : C} {A B : Nat} {x y : World} (h : WS w c d A B x) (hb : Below x.heap.size x y) : WS w c d A B y := (h.wx.below hb).cells
abbrev BXL (c : C) : Obj := .cells (arC c) 27
/-- The argument's box. -/
structure Wa (w : World) (c : C) (x : World) : Prop where
  one : x.heap[w.heap.size]? = some (BXL c)
  arg : Has x c
  bel : Below w.heap.size w x
theorem Wa.below {w : World} {c : C} {x y : World} (h : Wa w c x) (hb : Below x.heap.size x y) : Wa w c y := ⟨kept h.one hb, h.arg.below hb, h.bel.trans (hb.mono h.bel.size)⟩
theorem Wa.wx {w : World} {c d : C} {x : World} (h : Wa w c x) (hd : Has x d) : Wx w c d w.heap.size x.heap.size (x.alloc (BXC d)) := by
  have hb := (Below.refl x.heap.size x).alloc (Nat.le_refl _) (BXC d)
  exact ⟨kept h.one hb, heap_alloc_new x _, h.arg.below hb, hd.below hb, h.bel.trans (hb.mono h.bel.size)⟩

set_option maxHeartbeats 4000000 in
theorem walkGoodNotify (c : C) (w : World) (hr : Has w c) (hm : Fit c) (hR : Cal.Rgl w) :
    Calls Tryz.prog 3 #[agC c] w fun e w' => e = .returned (.bool true) ∧ Below w.heap.size w w' := by
  have H0 : Hid (Wa w c (w.alloc (BXL c))) := by
    have hb := (Below.refl w.heap.size w).alloc (Nat.le_refl _) (BXL c)
    exact ⟨heap_alloc_new w _, hr.below hb, hb⟩
  have HF := hid hm
  have HTR := hid hR
  clear hr hm hR
  simp only [agC]
  go_enter Tryz.func3, Tryz.ntmps3
  obtain ⟨x0, x1, x2, x3⟩ := cells4 H0.out.one
  go_wp2_with fail
  refine (f6 c 1048576 _ (by omega) (by omega) H0.out.arg HF.out).mono ?_
  rintro e w1 ⟨y, rfl, y0, y1, hy, hb1⟩
  have H1 := hid (H0.out.below hb1)
  clear hb1 H0 x0 x1 x2 x3
  by_cases g0 : y < 0
  · go_wp2
    go_ret
    exact ⟨rfl, H1.out.bel⟩
  have HZ := hid (hy (by omega))
  clear hy
  obtain ⟨x0, x1, x2, x3⟩ := cells4 H1.out.one
  go_wp2_with fail
  refine (f8 c _ H1.out.arg HZ.out).mono ?_
  rintro e w2 ⟨t2, rfl, hs2, hh2, hb2⟩
  have H2 := hid (H1.out.below hb2)
  have HS2 := hid hs2
  have HH2 := hid hh2
  clear hb2 hs2 hh2 H1 x0 x1 x2 x3
  go_wp2_with fail
  refine (f7 t2 _ HH2.out (HS2.out.fit HF.out) (HS2.out.sml HZ.out)).mono ?_
  rw [gN_same HS2.out]
  rintro e w3 ⟨rfl, hb3⟩
  have H3 := hid (H2.out.below hb3)
  clear hb3 H2 HH2 HS2
  obtain ⟨x0, x1, x2, x3⟩ := cells4 H3.out.one
  obtain ⟨R, hR⟩ : ∃ R, R = gN c := ⟨_, rfl⟩
  have HRR := hid hR
  rw [← hR]
  clear hR
  go_wp2_with fail
  refine (f8 c _ H3.out.arg HZ.out).mono ?_
  rintro e w4 ⟨d, rfl, hs4, hh4, hb4⟩
  have HX4 := hid ((gN_same hs4).trans HRR.out.symm)
  have H5 := hid ((H3.out.below hb4).wx hh4)
  have HS4 := hid hs4
  clear hb4 hs4 hh4 H3 x0 x1 x2 x3
  have HTR5 := hid (HTR.out.below H5.out.bel)
  obtain ⟨W5, hW5⟩ : ∃ W, W = w4.alloc (BXC d) := ⟨_, rfl⟩
  rw [← hW5] at H5 HTR5
  have HW5 := hid hW5
  clear hW5
  go_upto_region 7 with fail
  rw [← HW5.out]
  clear HW5
  generalize w4.heap.size = BB at *
  obtain ⟨c0, c1, c2, c3⟩ := cells4 H5.out.two
  go_wp2_with fail
  refine (f9 d _ H5.out.has (HS4.out.fit HF.out) (HS4.out.sml HZ.out) HTR5.out).mono ?_
  rw [HX4.out]
  rintro e w6 ⟨rfl, hb6⟩
  have H6 := hid (H5.out.below hb6)
  clear hb6 H5 HTR5 c0 c1 c2 c3
  have HZ4 := hid (HS4.out.sml HZ.out)
  have gR : (R != R) = false := by simp
  clear HRR HX4
  go_wp2_with fail
  go_region_held3 (fun x => WS w c d w.heap.size BB x) (first | exact (H6.out.below (below_drew _)).cells | assumption) (first | (go_at_call 8; refine (f8 c _ (Wx.arg (WS.wx (by assumption))) HZ.out).mono ?_; rintro e w7 ⟨t7, rfl, hs7, hh7, hb7⟩; have hq7 := WS.below (by assumption) hb7; clear hb7) | (go_at_call 10; refine (f10 d t7 _ (Wx.has (WS.wx (by assumption))) (by assumption) HZ4.out (HS4.out.trans' (by assumption))).mono ?_; rintro e w8 ⟨rfl, hb8⟩; have hq8 := WS.below (by assumption) hb8; clear hb8))
  have HX8 := hid hq8.wx
  clear hq8
  go_wp2
  go_ret
  exact ⟨rfl, HX8.out.bel⟩
end Go.Proofs.YthcogkoleiejgaaGreatDoor.Ntf
