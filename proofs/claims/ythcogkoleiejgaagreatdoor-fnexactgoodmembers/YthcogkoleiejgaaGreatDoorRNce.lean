/- Members that came in; the walk of FnExactGoodMembers. -/
import Derived.Test.YthcogkoleiejgaaGreatDoorRNcc
import Derived.Test.YthcogkoleiejgaaGreatDoorRNcd
import Derived.Test.YthcogkoleiejgaaGreatDoorRCte
import Derived.OrdersHeld
namespace Go.Proofs.YthcogkoleiejgaaGreatDoor.Ntf
open Go.ChangeShapes Go.WideShapes Go.ChangeAt Go.RowKit Go.Deep Go.WideElems Go.Maps
open Go.Proofs.YthcogkoleiejgaaGreatDoor.Rwc

set_option maxRecDepth 100000 in
theorem open_mems {H : Type} {enc : TypeId × Value → H} {W : World} {base : Nat} {v : Value} {d : DataW H} {p : List MemPlace} (hv : Value.okWide Tryz.prog W .any base 41 v) (h : DataW.Trod enc Tryz.prog W 0 (fun _ => true) true 41 v d p) :
    ∃ m : Mcf.T, v = Mcf.agT m ∧ Mcf.Lst W m ∧ Mcf.Ft m := by
  obtain ⟨v0, v1, v2, v3, u0, u1, u2, u3, n, rfl, rfl, rfl, h0, h1, h2, h3⟩ := Go.Joins.open_agg4 Tryz.underlying41 (by kernel_rfl) (by kernel_rfl) hv h
  obtain ⟨A0, ea0, _, w0⟩ := DataW.trod_int Tryz.underlying3 h0
  simp only [List.cons.injEq, and_true] at ea0
  subst ea0
  simp only [Lit.wf, Bool.and_eq_true, decide_eq_true_eq] at w0
  obtain ⟨A1, ea1, _, w1⟩ := DataW.trod_int Tryz.underlying3 h1
  simp only [List.cons.injEq, and_true] at ea1
  subst ea1
  simp only [Lit.wf, Bool.and_eq_true, decide_eq_true_eq] at w1
  obtain ⟨a2, n2, c2, rfl⟩ : ∃ a len cap, v2 = .slice a len cap := by
    rcases Deep.open_slice Tryz.underlying39 h2 with ⟨hq, _⟩ | ⟨a, l, c, m, n', D, Pl, hq, _⟩
    · simp only [List.cons.injEq, and_true] at hq; exact ⟨_, _, _, hq⟩
    · simp only [List.cons.injEq, and_true] at hq; exact ⟨_, _, _, hq⟩
  obtain ⟨l2, q2, m2, x2, y2⟩ := Ctl.open_cuts (enc := enc) (a1 := a2) (len0 := n2) (cap0 := c2) (W := W) (d := u2.1) (p := u2.2) ⟨n, by simpa [Value.cells] using h2⟩
  subst q2
  obtain ⟨a3, n3, c3, rfl⟩ : ∃ a len cap, v3 = .slice a len cap := by
    rcases Deep.open_slice Tryz.underlying39 h3 with ⟨hq, _⟩ | ⟨a, l, c, m, n', D, Pl, hq, _⟩
    · simp only [List.cons.injEq, and_true] at hq; exact ⟨_, _, _, hq⟩
    · simp only [List.cons.injEq, and_true] at hq; exact ⟨_, _, _, hq⟩
  obtain ⟨l3, q3, m3, x3, y3⟩ := Ctl.open_cuts (enc := enc) (a1 := a3) (len0 := n3) (cap0 := c3) (W := W) (d := u3.1) (p := u3.2) ⟨n, by simpa [Value.cells] using h3⟩
  subst q3
  exact ⟨⟨A0, A1, l2, a2, c2, l3, a3, c3⟩, rfl, ⟨x2, x3⟩, ⟨⟨w0.1, w0.2⟩, ⟨w1.1, w1.2⟩, ⟨y2, m2⟩, ⟨y3, m3⟩⟩⟩
theorem wt_plM {q q' : Mcf.T} (h : Mcf.pl q' = Mcf.pl q) : Mcf.wt q' = Mcf.wt q := by
  unfold Mcf.wt
  rw [show q'.cs = q.cs from congrArg Mcf.Pl.cs h, show q'.ds = q.ds from congrArg Mcf.Pl.ds h]
abbrev BXK (m : Mcf.T) : Obj := .cells (Mcf.arT m) 41
abbrev C4 (x : World) (b : Nat) (v0 v1 v2 v3 : Value) : Prop := x.cell? ⟨b, 0, none⟩ = some v0 ∧ x.cell? ⟨b, 1, none⟩ = some v1 ∧ x.cell? ⟨b, 2, none⟩ = some v2 ∧ x.cell? ⟨b, 3, none⟩ = some v3
abbrev CC (x : World) (b : Nat) (c : C) : Prop := C4 x b (.slice c.ra c.r.length c.rc) (.slice c.ia c.i.length c.ic) (.slice c.sa c.s.length c.sc) (.slice c.xa c.x.length c.xc)
abbrev CM (x : World) (b : Nat) (m : Mcf.T) : Prop := C4 x b (.int .i64 m.n) (.int .i64 m.p) (.slice m.ca m.cs.length m.cc) (.slice m.da m.ds.length m.dc)
/-- The arguments' boxes. -/
structure Wb (w : World) (c : C) (m : Mcf.T) (x : World) : Prop where
  one : x.heap[w.heap.size]? = some (BXL c)
  two : x.heap[w.heap.size + 1]? = some (BXK m)
  arg : Has x c
  mem : Mcf.Lst x m
  bel : Below w.heap.size w x
theorem Wb.below {w : World} {c : C} {m : Mcf.T} {x y : World} (h : Wb w c m x) (hb : Below x.heap.size x y) : Wb w c m y := ⟨kept h.one hb, kept h.two hb, h.arg.below hb, h.mem.below hb, h.bel.trans (hb.mono h.bel.size)⟩
abbrev SB (w : World) (c : C) (m : Mcf.T) (x : World) : Prop := CC x w.heap.size c ∧ CM x (w.heap.size + 1) m
theorem Wb.cells {w : World} {c : C} {m : Mcf.T} {x : World} (h : Wb w c m x) : SB w c m x := ⟨cells4 h.one, cells4 h.two⟩
theorem Wb.first {w : World} {c : C} {m : Mcf.T} (hr : Has w c) (hm : Mcf.Lst w m) : Wb w c m ((w.alloc (BXL c)).alloc (BXK m)) := by
  have b0 := (Below.refl w.heap.size w).alloc (Nat.le_refl _) (BXL c)
  have b1 := (Below.refl (w.alloc (BXL c)).heap.size (w.alloc (BXL c))).alloc (Nat.le_refl _) (BXK m)
  refine ⟨kept (heap_alloc_new w _) b1, ?_, (hr.below b0).below b1, (hm.below b0).below b1, b0.trans (b1.mono b0.size)⟩
  have := heap_alloc_new (w.alloc (BXL c)) (BXK m)
  simpa using this
/-- .. and the copies' boxes. -/
structure Wz (w : World) (c : C) (m : Mcf.T) (d : C) (e : Mcf.T) (B1 B2 : Nat) (x : World) : Prop where
  b : Wb w c m x
  thr : x.heap[B1]? = some (BXC d)
  fou : x.heap[B2]? = some (BXM e)
  has : Has x d
  lst : Mcf.Lst x e
theorem Wz.below {w : World} {c : C} {m : Mcf.T} {d : C} {e : Mcf.T} {B1 B2 : Nat} {x y : World} (h : Wz w c m d e B1 B2 x) (hb : Below x.heap.size x y) : Wz w c m d e B1 B2 y := ⟨h.b.below hb, kept h.thr hb, kept h.fou hb, h.has.below hb, h.lst.below hb⟩
abbrev WT (w : World) (c : C) (m : Mcf.T) (d : C) (e : Mcf.T) (B1 B2 : Nat) (x : World) : Prop := CC x w.heap.size c ∧ CM x (w.heap.size + 1) m ∧ CC x B1 d ∧ CM x B2 e ∧ Wz w c m d e B1 B2 x
theorem Wz.cells {w : World} {c : C} {m : Mcf.T} {d : C} {e : Mcf.T} {B1 B2 : Nat} {x : World} (h : Wz w c m d e B1 B2 x) : WT w c m d e B1 B2 x := ⟨cells4 h.b.one, cells4 h.b.two, cells4 h.thr, cells4 h.fou, h⟩
theorem WT.wz {w : World} {c : C} {m : Mcf.T} {d : C} {e : Mcf.T} {B1 B2 : Nat} {x : World} (h : WT w c m d e B1 B2 x) : Wz w c m d e B1 B2 x := h.2.2.2.2
theorem WT.below {w : World} {c : C} {m : Mcf.T} {d : C} {e : Mcf.T} {B1 B2 : Nat} {x y : World} (h : WT w c m d e B1 B2 x) (hb : Below x.heap.size x y) : WT w c m d e B1 B2 y := (h.wz.below hb).cells

set_option maxHeartbeats 8000000 in
theorem walkGoodMembers (c : C) (m : Mcf.T) (w : World) (hr : Has w c) (hf : Fit c) (hm : Mcf.Lst w m) (hg : Mcf.Ft m) (hR : Cal.Rgl w) :
    Calls Tryz.prog 4 #[agC c, Mcf.agT m] w fun e w' => e = .returned (.bool true) ∧ Below w.heap.size w w' := by
  have H0 := hid (Wb.first hr hm)
  have HF := hid hf
  have HGm := hid hg
  have HTR := hid hR
  clear hr hm hf hg hR
  obtain ⟨W0, hW0⟩ : ∃ W, W = (w.alloc (BXL c)).alloc (BXK m) := ⟨_, rfl⟩
  rw [← hW0] at H0
  have HW0 := hid hW0
  clear hW0
  simp only [agC, Mcf.agT]
  go_enter Tryz.func4, Tryz.ntmps4
  go_upto_region 2 with fail
  rw [← HW0.out]
  clear HW0
  obtain ⟨⟨x0, x1, x2, x3⟩, ⟨z0, z1, z2, z3⟩⟩ := H0.out.cells
  go_wp2_with fail
  refine (f6 c 1048576 _ (by omega) (by omega) H0.out.arg HF.out).mono ?_
  rintro e w1 ⟨y, rfl, y0, y1, hy, hb1⟩
  have H1 := hid (H0.out.below hb1)
  clear hb1 H0 x0 x1 x2 x3 z0 z1 z2 z3
  by_cases g0 : y < 0
  · go_wp2
    go_ret
    exact ⟨rfl, H1.out.bel⟩
  have HZ := hid (hy (by omega))
  clear hy
  obtain ⟨⟨x0, x1, x2, x3⟩, ⟨z0, z1, z2, z3⟩⟩ := H1.out.cells
  go_wp2_with fail
  refine (Mcf.f11 m y _ (by omega) (by omega) H1.out.mem HGm.out).mono ?_
  rintro e w2 ⟨u, rfl, u0, u1, hu, hb2⟩
  have H2 := hid (H1.out.below hb2)
  clear hb2 H1 x0 x1 x2 x3 z0 z1 z2 z3
  by_cases g1 : u < 0
  · go_wp2
    go_ret
    exact ⟨rfl, H2.out.bel⟩
  have HWt : Hid (Mcf.wt m ≤ 1048576) := by have := hu (by omega); unfold Hid; omega
  clear hu
  have HD := fun x a => hid (f8 c x a HZ.out)
  have HE := fun x a => hid (Mcf.f13 m x a HWt.out)
  go_upto_region 8 with fail
  have hS : SB w c m w2.drew := H2.out.cells
  have hJ0 := H2.out.below (below_drew _)
  refine wp_region_held_drew (S := fun x => SB w c m x) rfl hS (fun hHeld => ?_)
  refine wpAnyH_take (i := 0) (oi := { dst := some 20, op := _, type := _, pos := _, after := _, guard := _ }) (v := .agg #[.slice c.ra c.r.length c.rc, .slice c.ia c.i.length c.ic, .slice c.sa c.s.length c.sc, .slice c.xa c.x.length c.xc]) rfl (by kernel_rfl) (by kernel_rfl) (by kernel_rfl) (fun _ _ _ h => h) (Or.inl ⟨by rfl, fun w hSw => by (try dsimp only at hSw); (try go_split_ands); go_simp⟩) (by first | trivial | assumption) ?_
  try simp only [Act.put, List.setIfInBounds_toArray, List.set_cons_zero, List.set_cons_succ]
  refine wpAnyH_take (i := 2) (oi := { dst := some 22, op := _, type := _, pos := _, after := _, guard := _ }) (v := .agg #[.int .i64 m.n, .int .i64 m.p, .slice m.ca m.cs.length m.cc, .slice m.da m.ds.length m.dc]) rfl (by kernel_rfl) (by kernel_rfl) (by kernel_rfl) (fun _ _ _ h => h) (Or.inl ⟨by rfl, fun w hSw => by (try dsimp only at hSw); (try go_split_ands); go_simp⟩) (by first | trivial | assumption) ?_
  try simp only [Act.put, List.setIfInBounds_toArray, List.set_cons_zero, List.set_cons_succ]
  refine wpAnyH_ready (rs := [1]) (by kernel_rfl) (by simp) (AllReadyH.cons (o := { dst := some 21, op := _, type := _, pos := _, after := _, guard := _ }) rfl ?_ AllReadyH.nil)
  intro K1 hK1
  go_simp
  go_wp2_with (go_at_call 8; refine (HD _ hJ0.arg).out.mono ?_; rintro e w3 ⟨d, rfl, hs, hh, hb⟩)
  have hJ1 := hJ0.below hb
  clear hb
  refine hK1.out _ _ hJ1.cells (fun _ => ?_)
  clear hK1 K1
  try simp only [Act.put, List.setIfInBounds_toArray, List.set_cons_zero, List.set_cons_succ]
  refine wpAnyH_ready (rs := [3]) (by kernel_rfl) (by simp) (AllReadyH.cons (o := { dst := some 23, op := _, type := _, pos := _, after := _, guard := _ }) rfl ?_ AllReadyH.nil)
  intro K2 hK2
  go_simp
  go_wp2_with (go_at_call 13; refine (HE _ hJ1.mem).out.mono ?_; rintro e w4 ⟨m2, rfl, hp, ho, hb⟩)
  have hJ2 := hJ1.below hb
  have hh2 := hh.below hb
  have hl2 := ho.lst
  clear hb ho hh
  refine hK2.out _ _ hJ2.cells (fun _ => ?_)
  clear hK2 K2
  try simp only [Act.put, List.setIfInBounds_toArray, List.set_cons_zero, List.set_cons_succ]
  refine wpAnyH_ready (rs := [4]) (by kernel_rfl) (by simp) (AllReadyH.cons (o := { dst := some 24, op := _, type := _, pos := _, after := _, guard := _ }) rfl ?_ AllReadyH.nil)
  intro K3 hK3
  go_simp
  go_wp2_with (go_at_call 12; refine (f12 d m2 _ hh2 (hs.fit HF.out) (hs.sml HZ.out) hl2 (by rw [wt_plM hp]; exact HWt.out)).mono ?_; rintro e w5 ⟨rfl, hb⟩)
  rw [gM_same hs hp]
  have H5 := hid (hJ2.below hb)
  have hS5 := H5.out.cells
  clear hb hJ2 hJ1 hJ0 hS hs hp hh2 hl2
  refine hK3.out _ _ hS5 (fun _ => ?_)
  clear hK3 K3
  try simp only [Act.put, List.setIfInBounds_toArray, List.set_cons_zero, List.set_cons_succ]
  obtain ⟨R, hR⟩ : ∃ R, R = gM c m := ⟨_, rfl⟩
  have HRR := hid hR
  rw [← hR]
  clear hR
  refine wpAnyH_take (i := 5) (oi := { dst := some 6, op := _, type := _, pos := _, after := _, guard := _ }) (v := .bool R) rfl (by kernel_rfl) (by kernel_rfl) (by kernel_rfl) (fun _ _ _ h => h) (Or.inl ⟨by rfl, fun w hSw => by (try dsimp only at hSw); (try go_split_ands); go_simp⟩) (by first | trivial | assumption) ?_
  try simp only [Act.put, List.setIfInBounds_toArray, List.set_cons_zero, List.set_cons_succ]
  refine wpAnyH_done (by kernel_rfl) ?_ _
  clear hS5
  obtain ⟨⟨x0, x1, x2, x3⟩, ⟨z0, z1, z2, z3⟩⟩ := H5.out.cells
  go_wp2_with fail
  refine (HD _ H5.out.arg).out.mono ?_
  rintro e w6 ⟨d, rfl, hs, hh, hb⟩
  have HSD := hid hs
  have hal := (Below.refl w6.heap.size w6).alloc (Nat.le_refl _) (BXC d)
  have H7 := hid ((H5.out.below hb).below hal)
  have HB1 := hid (heap_alloc_new w6 (BXC d))
  have HHD := hid (hh.below hal)
  obtain ⟨W7, hW7⟩ : ∃ W, W = w6.alloc (BXC d) := ⟨_, rfl⟩
  rw [← hW7] at H7 HB1 HHD
  have HW7 := hid hW7
  clear hW7 hs hh hb hal H5 x0 x1 x2 x3 z0 z1 z2 z3
  go_upto_region 10 with fail
  rw [← HW7.out]
  clear HW7
  generalize w6.heap.size = B1 at *
  obtain ⟨⟨x0, x1, x2, x3⟩, ⟨z0, z1, z2, z3⟩⟩ := H7.out.cells
  go_wp2_with fail
  refine (HE _ H7.out.mem).out.mono ?_
  rintro e w8 ⟨m2, rfl, hp, ho, hb⟩
  have HPM := hid hp
  have hal := (Below.refl w8.heap.size w8).alloc (Nat.le_refl _) (BXM m2)
  have HZ9 : Hid (Wz w c m d m2 B1 w8.heap.size (w8.alloc (BXM m2))) := ⟨(H7.out.below hb).below hal, kept (kept HB1.out hb) hal, heap_alloc_new w8 _, (HHD.out.below hb).below hal, ho.lst.below hal⟩
  obtain ⟨W9, hW9⟩ : ∃ W, W = w8.alloc (BXM m2) := ⟨_, rfl⟩
  rw [← hW9] at HZ9
  have HW9 := hid hW9
  clear hW9 hp ho hb hal H7 HB1 HHD x0 x1 x2 x3 z0 z1 z2 z3
  go_upto_region 11 with fail
  rw [← HW9.out]
  clear HW9
  generalize w8.heap.size = B2 at *
  obtain ⟨_, _, ⟨x0, x1, x2, x3⟩, ⟨z0, z1, z2, z3⟩, _⟩ := HZ9.out.cells
  go_wp2_with fail
  refine (f14 d m2 _ HZ9.out.has (HSD.out.fit HF.out) (HSD.out.sml HZ.out) HZ9.out.lst (by rw [wt_plM HPM.out]; exact HWt.out) (HTR.out.below HZ9.out.b.bel)).mono ?_
  rw [gM_same HSD.out HPM.out, ← HRR.out]
  rintro e w10 ⟨rfl, hb⟩
  have H10 := hid (HZ9.out.below hb)
  clear hb HZ9 x0 x1 x2 x3 z0 z1 z2 z3
  have HZ4 := hid (HSD.out.sml HZ.out)
  have HW4 : Hid (Mcf.wt m2 ≤ 1048576) := by unfold Hid; rw [wt_plM HPM.out]; exact HWt.out
  have gR : (R != R) = false := by simp
  clear HRR
  go_wp2_with fail
  go_region_held3 (fun x => WT w c m d m2 B1 B2 x) (first | exact (H10.out.below (below_drew _)).cells | assumption) (first | (go_at_call 8; refine (HD _ (Wb.arg (Wz.b (WT.wz (by assumption))))).out.mono ?_; rintro e w11 ⟨t7, rfl, hs7, hh7, hb7⟩; have hq7 := WT.below (by assumption) hb7; clear hb7) | (go_at_call 10; refine (f10 d t7 _ (Wz.has (WT.wz (by assumption))) (by assumption) HZ4.out (HSD.out.trans' (by assumption))).mono ?_; rintro e w12 ⟨rfl, hb8⟩; have hq8 := WT.below (by assumption) hb8; clear hb8))
  have H12 := hid hq8.wz
  clear hq8
  go_wp2_with fail
  go_region_held3 (fun x => WT w c m d m2 B1 B2 x) (first | exact (H12.out.below (below_drew _)).cells | assumption) (first | (go_at_call 13; refine (HE _ (Wb.mem (Wz.b (WT.wz (by assumption))))).out.mono ?_; rintro e w13 ⟨t9, rfl, hs9, hh9, hb9⟩; have hl9 := hh9.lst; have hq9 := WT.below (by assumption) hb9; clear hb9 hh9) | (go_at_call 15; refine (Mcf.f15 m2 t9 _ (hs9.trans HPM.out.symm) HW4.out (Wz.lst (WT.wz (by assumption))) (by assumption)).mono ?_; rintro e w14 ⟨rfl, hb10⟩; have hq10 := WT.below (by assumption) hb10; clear hb10))
  have H14 := hid hq10.wz
  clear hq10
  go_wp2
  go_ret
  exact ⟨rfl, H14.out.b.bel⟩
end Go.Proofs.YthcogkoleiejgaaGreatDoor.Ntf
