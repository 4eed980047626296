/- Questions: toQuery, toQueryS: all of it owned. -/
import Derived.Test.YtbdlahhejfamhaaGreatDoorRQya
import Derived.Deep.CutRange
namespace Go.Proofs.YtbdlahhejfamhaaGreatDoor.Qry
open Go.RowKit
open Go.Proofs.YtbdlahhejfamhaaGreatDoor.Pat (Mt HasM)
open Go.Proofs.YtbdlahhejfamhaaGreatDoor.Fil (HasT)

/-- A row whose lists are in memory of their own. -/
structure Own1 (X g1 g2 g3 : Nat) (q : R) (w : World) : Prop where
  h1 : q.ma = some ⟨g1, 0, none⟩
  h2 : q.na = some ⟨g2, 0, none⟩
  h3 : q.ea = some ⟨g3, 0, none⟩
  m : w.ownsRow X 138 3 (.slice (some ⟨g1, 0, none⟩) q.ms.length q.mc) q.ms.length (Pat.flatM q.ms)
  n : w.ownsRow X 9 1 (.slice (some ⟨g2, 0, none⟩) q.ns.length q.nc) q.ns.length (q.ns.map Value.string)
  e : w.ownsRow X 9 1 (.slice (some ⟨g3, 0, none⟩) q.es.length q.ec) q.es.length (q.es.map Value.string)
  l12 : g1 < g2
  l23 : g2 < g3
theorem Own1.below {X g1 g2 g3 : Nat} {q : R} {w w' : World} (h : Own1 X g1 g2 g3 q w) (hb : Below w.heap.size w w') : Own1 X g1 g2 g3 q w' := ⟨h.h1, h.h2, h.h3, own_below h.m hb, own_below h.n hb, own_below h.e hb, h.l12, h.l23⟩
theorem Own1.set {X g1 g2 g3 : Nat} {q : R} {w : World} (h : Own1 X g1 g2 g3 q w) {p : Addr} (k1 : g1 ≠ p.block) (k2 : g2 ≠ p.block) (k3 : g3 ≠ p.block) (v : Value) : Own1 X g1 g2 g3 q (w.setCell p v) := ⟨h.h1, h.h2, h.h3, own_set h.m k1 v, own_set h.n k2 v, own_set h.e k3 v, h.l12, h.l23⟩
theorem Own1.base {X Y g1 g2 g3 : Nat} {q : R} {w : World} (h : Own1 X g1 g2 g3 q w) (hy : Y ≤ X) : Own1 Y g1 g2 g3 q w := ⟨h.h1, h.h2, h.h3, own_base h.m hy, own_base h.n hy, own_base h.e hy, h.l12, h.l23⟩
theorem Own1.lst {X g1 g2 g3 : Nat} {q : R} {w : World} (h : Own1 X g1 g2 g3 q w) : Lst w q := ⟨by rw [h.h1]; exact Pat.HasM.own h.m, by rw [h.h2]; exact Fil.HasT.own h.n, by rw [h.h3]; exact Fil.HasT.own h.e⟩
theorem Own1.lts {X g1 g2 g3 : Nat} {q : R} {w : World} (h : Own1 X g1 g2 g3 q w) : g3 < w.heap.size := (h.e.lt g3 rfl).2
theorem Own1.lo {X g1 g2 g3 : Nat} {q : R} {w : World} (h : Own1 X g1 g2 g3 q w) : X ≤ g1 := (h.m.lt g1 rfl).1
theorem three_new (w : World) (o1 o2 o3 : Obj) : (((w.alloc o1).alloc o2).alloc o3).heap[w.heap.size]? = some o1 ∧ (((w.alloc o1).alloc o2).alloc o3).heap[w.heap.size + 1]? = some o2 ∧ (((w.alloc o1).alloc o2).alloc o3).heap[w.heap.size + 1 + 1]? = some o3 := by
  have h1 := heap_alloc_new w o1
  have h2 := heap_alloc_new (w.alloc o1) o2
  have h3 := heap_alloc_new ((w.alloc o1).alloc o2) o3
  simp only [World.size_alloc] at h2 h3
  have e1 := (Below.heap_alloc (w.alloc o1) o2 w.heap.size (by simp)).trans h1
  have e2 := (Below.heap_alloc ((w.alloc o1).alloc o2) o3 w.heap.size (by simp; omega)).trans e1
  exact ⟨e2, (Below.heap_alloc ((w.alloc o1).alloc o2) o3 (w.heap.size + 1) (by simp)).trans h2, h3⟩
theorem set15 {x : World} {b : Nat} {t : TypeId} {z0 z1 z2 z3 z4 z5 z6 z7 z8 z9 z10 z11 z12 z13 z14 : Value} (h : x.heap[b]? = some (.cells #[z0, z1, z2, z3, z4, z5, z6, z7, z8, z9, z10, z11, z12, z13, z14] t)) (v0 v1 v2 v3 v4 v5 v6 v7 v8 v9 v10 v11 v12 v13 v14 : Value) : ((((((((((((((((x).setCell ⟨b, 0, none⟩ v0).setCell ⟨b, 1, none⟩ v1).setCell ⟨b, 2, none⟩ v2).setCell ⟨b, 3, none⟩ v3).setCell ⟨b, 4, none⟩ v4).setCell ⟨b, 5, none⟩ v5).setCell ⟨b, 6, none⟩ v6).setCell ⟨b, 7, none⟩ v7).setCell ⟨b, 8, none⟩ v8).setCell ⟨b, 9, none⟩ v9).setCell ⟨b, 10, none⟩ v10).setCell ⟨b, 11, none⟩ v11).setCell ⟨b, 12, none⟩ v12).setCell ⟨b, 13, none⟩ v13).setCell ⟨b, 14, none⟩ v14).heap[b]? = some (.cells #[v0, v1, v2, v3, v4, v5, v6, v7, v8, v9, v10, v11, v12, v13, v14] t) := by
  have h0 : (x.setCell ⟨b, 0, none⟩ v0).heap[b]? = some (.cells #[v0, z1, z2, z3, z4, z5, z6, z7, z8, z9, z10, z11, z12, z13, z14] t) := set_at h
  generalize x.setCell ⟨b, 0, none⟩ v0 = x0 at h0 ⊢
  have h1 : (x0.setCell ⟨b, 1, none⟩ v1).heap[b]? = some (.cells #[v0, v1, z2, z3, z4, z5, z6, z7, z8, z9, z10, z11, z12, z13, z14] t) := set_at h0
  generalize x0.setCell ⟨b, 1, none⟩ v1 = x1 at h1 ⊢
  have h2 : (x1.setCell ⟨b, 2, none⟩ v2).heap[b]? = some (.cells #[v0, v1, v2, z3, z4, z5, z6, z7, z8, z9, z10, z11, z12, z13, z14] t) := set_at h1
  generalize x1.setCell ⟨b, 2, none⟩ v2 = x2 at h2 ⊢
  have h3 : (x2.setCell ⟨b, 3, none⟩ v3).heap[b]? = some (.cells #[v0, v1, v2, v3, z4, z5, z6, z7, z8, z9, z10, z11, z12, z13, z14] t) := set_at h2
  generalize x2.setCell ⟨b, 3, none⟩ v3 = x3 at h3 ⊢
  have h4 : (x3.setCell ⟨b, 4, none⟩ v4).heap[b]? = some (.cells #[v0, v1, v2, v3, v4, z5, z6, z7, z8, z9, z10, z11, z12, z13, z14] t) := set_at h3
  generalize x3.setCell ⟨b, 4, none⟩ v4 = x4 at h4 ⊢
  have h5 : (x4.setCell ⟨b, 5, none⟩ v5).heap[b]? = some (.cells #[v0, v1, v2, v3, v4, v5, z6, z7, z8, z9, z10, z11, z12, z13, z14] t) := set_at h4
  generalize x4.setCell ⟨b, 5, none⟩ v5 = x5 at h5 ⊢
  have h6 : (x5.setCell ⟨b, 6, none⟩ v6).heap[b]? = some (.cells #[v0, v1, v2, v3, v4, v5, v6, z7, z8, z9, z10, z11, z12, z13, z14] t) := set_at h5
  generalize x5.setCell ⟨b, 6, none⟩ v6 = x6 at h6 ⊢
  have h7 : (x6.setCell ⟨b, 7, none⟩ v7).heap[b]? = some (.cells #[v0, v1, v2, v3, v4, v5, v6, v7, z8, z9, z10, z11, z12, z13, z14] t) := set_at h6
  generalize x6.setCell ⟨b, 7, none⟩ v7 = x7 at h7 ⊢
  have h8 : (x7.setCell ⟨b, 8, none⟩ v8).heap[b]? = some (.cells #[v0, v1, v2, v3, v4, v5, v6, v7, v8, z9, z10, z11, z12, z13, z14] t) := set_at h7
  generalize x7.setCell ⟨b, 8, none⟩ v8 = x8 at h8 ⊢
  have h9 : (x8.setCell ⟨b, 9, none⟩ v9).heap[b]? = some (.cells #[v0, v1, v2, v3, v4, v5, v6, v7, v8, v9, z10, z11, z12, z13, z14] t) := set_at h8
  generalize x8.setCell ⟨b, 9, none⟩ v9 = x9 at h9 ⊢
  have h10 : (x9.setCell ⟨b, 10, none⟩ v10).heap[b]? = some (.cells #[v0, v1, v2, v3, v4, v5, v6, v7, v8, v9, v10, z11, z12, z13, z14] t) := set_at h9
  generalize x9.setCell ⟨b, 10, none⟩ v10 = x10 at h10 ⊢
  have h11 : (x10.setCell ⟨b, 11, none⟩ v11).heap[b]? = some (.cells #[v0, v1, v2, v3, v4, v5, v6, v7, v8, v9, v10, v11, z12, z13, z14] t) := set_at h10
  generalize x10.setCell ⟨b, 11, none⟩ v11 = x11 at h11 ⊢
  have h12 : (x11.setCell ⟨b, 12, none⟩ v12).heap[b]? = some (.cells #[v0, v1, v2, v3, v4, v5, v6, v7, v8, v9, v10, v11, v12, z13, z14] t) := set_at h11
  generalize x11.setCell ⟨b, 12, none⟩ v12 = x12 at h12 ⊢
  have h13 : (x12.setCell ⟨b, 13, none⟩ v13).heap[b]? = some (.cells #[v0, v1, v2, v3, v4, v5, v6, v7, v8, v9, v10, v11, v12, v13, z14] t) := set_at h12
  generalize x12.setCell ⟨b, 13, none⟩ v13 = x13 at h13 ⊢
  have h14 : (x13.setCell ⟨b, 14, none⟩ v14).heap[b]? = some (.cells #[v0, v1, v2, v3, v4, v5, v6, v7, v8, v9, v10, v11, v12, v13, v14] t) := set_at h13
  exact h14
theorem own15 {x : World} {b base e size n c g : Nat} {xs : List Value} (h : x.ownsRow base e size (.slice (some ⟨g, 0, none⟩) n c) n xs) (hp : g ≠ b) (v0 v1 v2 v3 v4 v5 v6 v7 v8 v9 v10 v11 v12 v13 v14 : Value) : ((((((((((((((((x).setCell ⟨b, 0, none⟩ v0).setCell ⟨b, 1, none⟩ v1).setCell ⟨b, 2, none⟩ v2).setCell ⟨b, 3, none⟩ v3).setCell ⟨b, 4, none⟩ v4).setCell ⟨b, 5, none⟩ v5).setCell ⟨b, 6, none⟩ v6).setCell ⟨b, 7, none⟩ v7).setCell ⟨b, 8, none⟩ v8).setCell ⟨b, 9, none⟩ v9).setCell ⟨b, 10, none⟩ v10).setCell ⟨b, 11, none⟩ v11).setCell ⟨b, 12, none⟩ v12).setCell ⟨b, 13, none⟩ v13).setCell ⟨b, 14, none⟩ v14).ownsRow base e size (.slice (some ⟨g, 0, none⟩) n c) n xs := by
  have h0 := own_set (p := ⟨b, 0, none⟩) h hp v0
  generalize x.setCell ⟨b, 0, none⟩ v0 = x0 at h0 ⊢
  have h1 := own_set (p := ⟨b, 1, none⟩) h0 hp v1
  generalize x0.setCell ⟨b, 1, none⟩ v1 = x1 at h1 ⊢
  have h2 := own_set (p := ⟨b, 2, none⟩) h1 hp v2
  generalize x1.setCell ⟨b, 2, none⟩ v2 = x2 at h2 ⊢
  have h3 := own_set (p := ⟨b, 3, none⟩) h2 hp v3
  generalize x2.setCell ⟨b, 3, none⟩ v3 = x3 at h3 ⊢
  have h4 := own_set (p := ⟨b, 4, none⟩) h3 hp v4
  generalize x3.setCell ⟨b, 4, none⟩ v4 = x4 at h4 ⊢
  have h5 := own_set (p := ⟨b, 5, none⟩) h4 hp v5
  generalize x4.setCell ⟨b, 5, none⟩ v5 = x5 at h5 ⊢
  have h6 := own_set (p := ⟨b, 6, none⟩) h5 hp v6
  generalize x5.setCell ⟨b, 6, none⟩ v6 = x6 at h6 ⊢
  have h7 := own_set (p := ⟨b, 7, none⟩) h6 hp v7
  generalize x6.setCell ⟨b, 7, none⟩ v7 = x7 at h7 ⊢
  have h8 := own_set (p := ⟨b, 8, none⟩) h7 hp v8
  generalize x7.setCell ⟨b, 8, none⟩ v8 = x8 at h8 ⊢
  have h9 := own_set (p := ⟨b, 9, none⟩) h8 hp v9
  generalize x8.setCell ⟨b, 9, none⟩ v9 = x9 at h9 ⊢
  have h10 := own_set (p := ⟨b, 10, none⟩) h9 hp v10
  generalize x9.setCell ⟨b, 10, none⟩ v10 = x10 at h10 ⊢
  have h11 := own_set (p := ⟨b, 11, none⟩) h10 hp v11
  generalize x10.setCell ⟨b, 11, none⟩ v11 = x11 at h11 ⊢
  have h12 := own_set (p := ⟨b, 12, none⟩) h11 hp v12
  generalize x11.setCell ⟨b, 12, none⟩ v12 = x12 at h12 ⊢
  have h13 := own_set (p := ⟨b, 13, none⟩) h12 hp v13
  generalize x12.setCell ⟨b, 13, none⟩ v13 = x13 at h13 ⊢
  have h14 := own_set (p := ⟨b, 14, none⟩) h13 hp v14
  exact h14
theorem below15 {w x : World} {b B : Nat} (h : Below B w x) (hp : B ≤ b) (v0 v1 v2 v3 v4 v5 v6 v7 v8 v9 v10 v11 v12 v13 v14 : Value) : Below B w ((((((((((((((((x).setCell ⟨b, 0, none⟩ v0).setCell ⟨b, 1, none⟩ v1).setCell ⟨b, 2, none⟩ v2).setCell ⟨b, 3, none⟩ v3).setCell ⟨b, 4, none⟩ v4).setCell ⟨b, 5, none⟩ v5).setCell ⟨b, 6, none⟩ v6).setCell ⟨b, 7, none⟩ v7).setCell ⟨b, 8, none⟩ v8).setCell ⟨b, 9, none⟩ v9).setCell ⟨b, 10, none⟩ v10).setCell ⟨b, 11, none⟩ v11).setCell ⟨b, 12, none⟩ v12).setCell ⟨b, 13, none⟩ v13).setCell ⟨b, 14, none⟩ v14) := by
  have h0 := Below.setCell (p := ⟨b, 0, none⟩) h hp v0
  generalize x.setCell ⟨b, 0, none⟩ v0 = x0 at h0 ⊢
  have h1 := Below.setCell (p := ⟨b, 1, none⟩) h0 hp v1
  generalize x0.setCell ⟨b, 1, none⟩ v1 = x1 at h1 ⊢
  have h2 := Below.setCell (p := ⟨b, 2, none⟩) h1 hp v2
  generalize x1.setCell ⟨b, 2, none⟩ v2 = x2 at h2 ⊢
  have h3 := Below.setCell (p := ⟨b, 3, none⟩) h2 hp v3
  generalize x2.setCell ⟨b, 3, none⟩ v3 = x3 at h3 ⊢
  have h4 := Below.setCell (p := ⟨b, 4, none⟩) h3 hp v4
  generalize x3.setCell ⟨b, 4, none⟩ v4 = x4 at h4 ⊢
  have h5 := Below.setCell (p := ⟨b, 5, none⟩) h4 hp v5
  generalize x4.setCell ⟨b, 5, none⟩ v5 = x5 at h5 ⊢
  have h6 := Below.setCell (p := ⟨b, 6, none⟩) h5 hp v6
  generalize x5.setCell ⟨b, 6, none⟩ v6 = x6 at h6 ⊢
  have h7 := Below.setCell (p := ⟨b, 7, none⟩) h6 hp v7
  generalize x6.setCell ⟨b, 7, none⟩ v7 = x7 at h7 ⊢
  have h8 := Below.setCell (p := ⟨b, 8, none⟩) h7 hp v8
  generalize x7.setCell ⟨b, 8, none⟩ v8 = x8 at h8 ⊢
  have h9 := Below.setCell (p := ⟨b, 9, none⟩) h8 hp v9
  generalize x8.setCell ⟨b, 9, none⟩ v9 = x9 at h9 ⊢
  have h10 := Below.setCell (p := ⟨b, 10, none⟩) h9 hp v10
  generalize x9.setCell ⟨b, 10, none⟩ v10 = x10 at h10 ⊢
  have h11 := Below.setCell (p := ⟨b, 11, none⟩) h10 hp v11
  generalize x10.setCell ⟨b, 11, none⟩ v11 = x11 at h11 ⊢
  have h12 := Below.setCell (p := ⟨b, 12, none⟩) h11 hp v12
  generalize x11.setCell ⟨b, 12, none⟩ v12 = x12 at h12 ⊢
  have h13 := Below.setCell (p := ⟨b, 13, none⟩) h12 hp v13
  generalize x12.setCell ⟨b, 13, none⟩ v13 = x13 at h13 ⊢
  have h14 := Below.setCell (p := ⟨b, 14, none⟩) h13 hp v14
  exact h14
abbrev Z15 : Obj := .cells #[.int .i64 0, .int .i64 0, .int .i64 0, .string ⟨#[]⟩, .int .i64 0, .slice none 0 0, .int .i64 0, .bool false, .int .i64 0, .bool false, .int .i64 0, .slice none 0 0, .int .i64 0, .slice none 0 0, .int .i64 0] 55
set_option maxHeartbeats 8000000 in
set_option maxRecDepth 100000 in
theorem f32 (q : R) (w : World) (hl : Lst w q) (n1 : wt q ≤ 1048576) :
    Calls Tryz.prog 32 #[agR q] w fun e w' => ∃ (q' : R) (g1 g2 g3 : Nat), e = .returned (agR q') ∧ pl q' = pl q ∧ (q'.mc = q'.ms.length ∧ q'.nc = q'.ns.length ∧ q'.ec = q'.es.length) ∧ w.heap.size ≤ g1 ∧ Own1 w.heap.size g1 g2 g3 q' w' ∧ Below w.heap.size w w' := by
  have hms : q.ms.length ≤ 1048576 := by unfold wt at n1; omega
  have hns : q.ns.length ≤ 1048576 := by unfold wt at n1; omega
  have hes : q.es.length ≤ 1048576 := by unfold wt at n1; omega
  have HL := hid hl
  clear hl n1
  obtain ⟨W, hW⟩ : ∃ W, W = ((w.alloc (.cells (arR q) 52)).alloc Z15).alloc Z15 := ⟨_, rfl⟩
  have HWb : Hid (Below w.heap.size w W ∧ W.heap[w.heap.size]? = some (.cells (arR q) 52) ∧ W.heap[w.heap.size + 1]? = some Z15 ∧ W.heap[w.heap.size + 1 + 1]? = some Z15 ∧ W.heap.size = w.heap.size + 1 + 1 + 1) := by
    subst hW
    obtain ⟨k1, k2, k3⟩ := three_new w (.cells (arR q) 52) Z15 Z15
    exact ⟨(((Below.refl w.heap.size w).alloc (Nat.le_refl _) _).alloc (by simp) _).alloc (by simp; omega) _, k1, k2, k3, by simp⟩
  have HA0 := hid HWb.out.2.1
  have HZ0 := hid HWb.out.2.2.1
  have HC0 := hid HWb.out.2.2.2.1
  have HB0 := hid HWb.out.1
  have HSZ := hid HWb.out.2.2.2.2
  simp only [agR]
  simp only [arR] at HA0 hW
  go_enter Tryz.func32, Tryz.ntmps32
  go_upto_region 2 with fail
  rw [← hW]
  clear hW HWb
  obtain ⟨b0, b1, b2, b3, b4, b5, b6, b7, b8, b9, b10, b11, b12, b13, b14⟩ := fifteen HA0.out
  obtain ⟨d0, d1, d2, d3, d4, d5, d6, d7, d8, d9, d10, d11, d12, d13, d14⟩ := fifteen HC0.out
  have r0 := fifteen_frz (o := 0) HC0.out
  have r1 := fifteen_frz (o := 1) HC0.out
  have r2 := fifteen_frz (o := 2) HC0.out
  have r3 := fifteen_frz (o := 3) HC0.out
  have r4 := fifteen_frz (o := 4) HC0.out
  clear b6 b7 b8 b9 b10 b11 b12 b13 b14 d5 d6 d7 d8 d9 d10 d11 d12 d13 d14
  go_wp2_with fail
  generalize hwf0 : World.setCell _ _ _ = X0
  have HAx0 : Hid (X0.heap[w.heap.size]? = some (.cells (arR q) 52)) := by rw [← hwf0]; exact set_else (set_else (set_else (set_else (set_else (HA0.out) (by simp only; omega)) (by simp only; omega)) (by simp only; omega)) (by simp only; omega)) (by simp only; omega)
  have HZx0 : Hid (X0.heap[w.heap.size + 1]? = some Z15) := by rw [← hwf0]; exact set_else (set_else (set_else (set_else (set_else (HZ0.out) (by simp only; omega)) (by simp only; omega)) (by simp only; omega)) (by simp only; omega)) (by simp only; omega)
  have HCx0 : Hid (X0.heap[w.heap.size + 1 + 1]? = some (.cells #[.int .i64 q.kd, .int .i64 q.nu, .int .i64 q.st, .string q.tx, .int .i64 q.op, .slice none 0 0, .int .i64 0, .bool false, .int .i64 0, .bool false, .int .i64 0, .slice none 0 0, .int .i64 0, .slice none 0 0, .int .i64 0] 55)) := by rw [← hwf0]; exact set_at (i := 4) (v := .int .i64 q.op) (set_at (i := 3) (v := .string q.tx) (set_at (i := 2) (v := .int .i64 q.st) (set_at (i := 1) (v := .int .i64 q.nu) (set_at (i := 0) (v := .int .i64 q.kd) (HC0.out)))))
  have HBx0 : Hid (Below w.heap.size w X0) := by rw [← hwf0]; exact Below.setCell (Below.setCell (Below.setCell (Below.setCell (Below.setCell (HB0.out) (by simp only; omega) _) (by simp only; omega) _) (by simp only; omega) _) (by simp only; omega) _) (by simp only; omega) _
  clear b0 b1 b2 b3 b4 b5 d0 d1 d2 d3 d4 r0 r1 r2 r3 r4 hwf0
  refine (Pat.f64 q.ma q.ms.length q.mc q.ms _ rfl hms (HL.out.below HBx0.out).m).mono ?_
  rintro e w1 ⟨rfl, ho1, hb1⟩
  have HSz1 : Hid (w.heap.size + 1 + 1 < X0.heap.size ∧ X0.heap.size < w1.heap.size) := ⟨lt_at HCx0.out, (ho1.lt _ rfl).2⟩
  have HA1 := hid (kept HAx0.out hb1)
  have HZ1 := hid (kept HZx0.out hb1)
  have HC1 := hid (kept HCx0.out hb1)
  have HB1 := hid (HBx0.out.trans (hb1.mono HBx0.out.size))
  have HM1 := hid (own_base ho1 HBx0.out.size)
  clear ho1 hb1 HAx0 HZx0 HCx0 HBx0 HA0 HZ0 HC0 HB0
  generalize hS1 : X0.heap.size = S1 at *
  have e11 : w.heap.size + 1 + 1 < S1 := HSz1.out.1
  clear hS1
  obtain ⟨b0, b1, b2, b3, b4, b5, b6, b7, b8, b9, b10, b11, b12, b13, b14⟩ := fifteen HA1.out
  obtain ⟨d0, d1, d2, d3, d4, d5, d6, d7, d8, d9, d10, d11, d12, d13, d14⟩ := fifteen HC1.out
  have r5 := fifteen_frz (o := 5) HC1.out
  have r6 := fifteen_frz (o := 6) HC1.out
  have r7 := fifteen_frz (o := 7) HC1.out
  have r8 := fifteen_frz (o := 8) HC1.out
  have r9 := fifteen_frz (o := 9) HC1.out
  have r10 := fifteen_frz (o := 10) HC1.out
  clear b0 b1 b2 b3 b4 b12 b13 b14 d0 d1 d2 d3 d4 d11 d12 d13 d14
  go_wp2_with fail
  generalize hwf1 : World.setCell _ _ _ = X1
  have HAx1 : Hid (X1.heap[w.heap.size]? = some (.cells (arR q) 52)) := by rw [← hwf1]; exact set_else (set_else (set_else (set_else (set_else (set_else (HA1.out) (by simp only; omega)) (by simp only; omega)) (by simp only; omega)) (by simp only; omega)) (by simp only; omega)) (by simp only; omega)
  have HZx1 : Hid (X1.heap[w.heap.size + 1]? = some Z15) := by rw [← hwf1]; exact set_else (set_else (set_else (set_else (set_else (set_else (HZ1.out) (by simp only; omega)) (by simp only; omega)) (by simp only; omega)) (by simp only; omega)) (by simp only; omega)) (by simp only; omega)
  have HCx1 : Hid (X1.heap[w.heap.size + 1 + 1]? = some (.cells #[.int .i64 q.kd, .int .i64 q.nu, .int .i64 q.st, .string q.tx, .int .i64 q.op, .slice (some ⟨S1, 0, none⟩) q.ms.length q.ms.length, .int .i64 q.off, .bool q.fx, .int .i64 q.att, .bool q.bo, .int .i64 q.byy, .slice none 0 0, .int .i64 0, .slice none 0 0, .int .i64 0] 55)) := by rw [← hwf1]; exact set_at (i := 10) (v := .int .i64 q.byy) (set_at (i := 9) (v := .bool q.bo) (set_at (i := 8) (v := .int .i64 q.att) (set_at (i := 7) (v := .bool q.fx) (set_at (i := 6) (v := .int .i64 q.off) (set_at (i := 5) (v := .slice (some ⟨S1, 0, none⟩) q.ms.length q.ms.length) (HC1.out))))))
  have HBx1 : Hid (Below w.heap.size w X1) := by rw [← hwf1]; exact Below.setCell (Below.setCell (Below.setCell (Below.setCell (Below.setCell (Below.setCell (HB1.out) (by simp only; omega) _) (by simp only; omega) _) (by simp only; omega) _) (by simp only; omega) _) (by simp only; omega) _) (by simp only; omega) _
  have HMx1 : Hid (X1.ownsRow w.heap.size 138 3 (.slice (some ⟨S1, 0, none⟩) q.ms.length q.ms.length) q.ms.length (Pat.flatM q.ms)) := by rw [← hwf1]; exact own_set (own_set (own_set (own_set (own_set (own_set (HM1.out) (by simp only; omega) _) (by simp only; omega) _) (by simp only; omega) _) (by simp only; omega) _) (by simp only; omega) _) (by simp only; omega) _
  clear b5 b6 b7 b8 b9 b10 b11 d5 d6 d7 d8 d9 d10 r5 r6 r7 r8 r9 r10 hwf1
  refine (Fil.f65 q.na q.ns.length q.nc q.ns _ rfl hns (HL.out.below HBx1.out).n).mono ?_
  rintro e w2 ⟨rfl, ho2, hb2⟩
  have HSz2 : Hid (w.heap.size + 1 + 1 < X1.heap.size ∧ X1.heap.size < w2.heap.size) := ⟨lt_at HCx1.out, (ho2.lt _ rfl).2⟩
  have HA2 := hid (kept HAx1.out hb2)
  have HZ2 := hid (kept HZx1.out hb2)
  have HC2 := hid (kept HCx1.out hb2)
  have HB2 := hid (HBx1.out.trans (hb2.mono HBx1.out.size))
  have HM2 := hid (own_below HMx1.out hb2)
  have HLs2 : Hid (S1 < X1.heap.size) := (HMx1.out.lt S1 rfl).2
  have HN2 := hid (own_base ho2 HBx1.out.size)
  clear ho2 hb2 HAx1 HZx1 HCx1 HBx1 HA1 HZ1 HC1 HB1 HMx1 HM1
  generalize hS2 : X1.heap.size = S2 at *
  have e21 : w.heap.size + 1 + 1 < S2 := HSz2.out.1
  have e22 : S1 < S2 := HLs2.out
  clear hS2
  obtain ⟨b0, b1, b2, b3, b4, b5, b6, b7, b8, b9, b10, b11, b12, b13, b14⟩ := fifteen HA2.out
  obtain ⟨d0, d1, d2, d3, d4, d5, d6, d7, d8, d9, d10, d11, d12, d13, d14⟩ := fifteen HC2.out
  have r11 := fifteen_frz (o := 11) HC2.out
  have r12 := fifteen_frz (o := 12) HC2.out
  clear b0 b1 b2 b3 b4 b5 b6 b7 b8 b9 b10 b14 d0 d1 d2 d3 d4 d5 d6 d7 d8 d9 d10 d13 d14
  go_wp2_with fail
  generalize hwf2 : World.setCell _ _ _ = X2
  have HAx2 : Hid (X2.heap[w.heap.size]? = some (.cells (arR q) 52)) := by rw [← hwf2]; exact set_else (set_else (HA2.out) (by simp only; omega)) (by simp only; omega)
  have HZx2 : Hid (X2.heap[w.heap.size + 1]? = some Z15) := by rw [← hwf2]; exact set_else (set_else (HZ2.out) (by simp only; omega)) (by simp only; omega)
  have HCx2 : Hid (X2.heap[w.heap.size + 1 + 1]? = some (.cells #[.int .i64 q.kd, .int .i64 q.nu, .int .i64 q.st, .string q.tx, .int .i64 q.op, .slice (some ⟨S1, 0, none⟩) q.ms.length q.ms.length, .int .i64 q.off, .bool q.fx, .int .i64 q.att, .bool q.bo, .int .i64 q.byy, .slice (some ⟨S2, 0, none⟩) q.ns.length q.ns.length, .int .i64 q.sd, .slice none 0 0, .int .i64 0] 55)) := by rw [← hwf2]; exact set_at (i := 12) (v := .int .i64 q.sd) (set_at (i := 11) (v := .slice (some ⟨S2, 0, none⟩) q.ns.length q.ns.length) (HC2.out))
  have HBx2 : Hid (Below w.heap.size w X2) := by rw [← hwf2]; exact Below.setCell (Below.setCell (HB2.out) (by simp only; omega) _) (by simp only; omega) _
  have HMx2 : Hid (X2.ownsRow w.heap.size 138 3 (.slice (some ⟨S1, 0, none⟩) q.ms.length q.ms.length) q.ms.length (Pat.flatM q.ms)) := by rw [← hwf2]; exact own_set (own_set (HM2.out) (by simp only; omega) _) (by simp only; omega) _
  have HNx2 : Hid (X2.ownsRow w.heap.size 9 1 (.slice (some ⟨S2, 0, none⟩) q.ns.length q.ns.length) q.ns.length (q.ns.map Value.string)) := by rw [← hwf2]; exact own_set (own_set (HN2.out) (by simp only; omega) _) (by simp only; omega) _
  clear b11 b12 b13 d11 d12 r11 r12 hwf2
  refine (Fil.f65 q.ea q.es.length q.ec q.es _ rfl hes (HL.out.below HBx2.out).e).mono ?_
  rintro e w3 ⟨rfl, ho3, hb3⟩
  have HSz3 : Hid (w.heap.size + 1 + 1 < X2.heap.size ∧ X2.heap.size < w3.heap.size) := ⟨lt_at HCx2.out, (ho3.lt _ rfl).2⟩
  have HA3 := hid (kept HAx2.out hb3)
  have HZ3 := hid (kept HZx2.out hb3)
  have HC3 := hid (kept HCx2.out hb3)
  have HB3 := hid (HBx2.out.trans (hb3.mono HBx2.out.size))
  have HM3 := hid (own_below HMx2.out hb3)
  have HN3 := hid (own_below HNx2.out hb3)
  have HLs3 : Hid (S2 < X2.heap.size) := (HNx2.out.lt S2 rfl).2
  have HE3 := hid (own_base ho3 HBx2.out.size)
  clear ho3 hb3 HAx2 HZx2 HCx2 HBx2 HA2 HZ2 HC2 HB2 HMx2 HM2 HNx2 HN2
  generalize hS3 : X2.heap.size = S3 at *
  have e31 : w.heap.size + 1 + 1 < S3 := HSz3.out.1
  have e32 : S2 < S3 := HLs3.out
  clear hS3
  obtain ⟨b0, b1, b2, b3, b4, b5, b6, b7, b8, b9, b10, b11, b12, b13, b14⟩ := fifteen HA3.out
  obtain ⟨d0, d1, d2, d3, d4, d5, d6, d7, d8, d9, d10, d11, d12, d13, d14⟩ := fifteen HC3.out
  have r13 := fifteen_frz (o := 13) HC3.out
  have r14 := fifteen_frz (o := 14) HC3.out
  clear b0 b1 b2 b3 b4 b5 b6 b7 b8 b9 b10 b11 b12 d0 d1 d2 d3 d4 d5 d6 d7 d8 d9 d10 d11 d12
  go_upto_region 17 with fail
  generalize hwf3 : World.setCell _ _ _ = X3
  have HZx3 : Hid (X3.heap[w.heap.size + 1]? = some Z15) := by rw [← hwf3]; exact set_else (set_else (HZ3.out) (by simp only; omega)) (by simp only; omega)
  have HCx3 : Hid (X3.heap[w.heap.size + 1 + 1]? = some (.cells #[.int .i64 q.kd, .int .i64 q.nu, .int .i64 q.st, .string q.tx, .int .i64 q.op, .slice (some ⟨S1, 0, none⟩) q.ms.length q.ms.length, .int .i64 q.off, .bool q.fx, .int .i64 q.att, .bool q.bo, .int .i64 q.byy, .slice (some ⟨S2, 0, none⟩) q.ns.length q.ns.length, .int .i64 q.sd, .slice (some ⟨S3, 0, none⟩) q.es.length q.es.length, .int .i64 q.kc] 55)) := by rw [← hwf3]; exact set_at (i := 14) (v := .int .i64 q.kc) (set_at (i := 13) (v := .slice (some ⟨S3, 0, none⟩) q.es.length q.es.length) (HC3.out))
  have HBx3 : Hid (Below w.heap.size w X3) := by rw [← hwf3]; exact Below.setCell (Below.setCell (HB3.out) (by simp only; omega) _) (by simp only; omega) _
  have HMx3 : Hid (X3.ownsRow w.heap.size 138 3 (.slice (some ⟨S1, 0, none⟩) q.ms.length q.ms.length) q.ms.length (Pat.flatM q.ms)) := by rw [← hwf3]; exact own_set (own_set (HM3.out) (by simp only; omega) _) (by simp only; omega) _
  have HNx3 : Hid (X3.ownsRow w.heap.size 9 1 (.slice (some ⟨S2, 0, none⟩) q.ns.length q.ns.length) q.ns.length (q.ns.map Value.string)) := by rw [← hwf3]; exact own_set (own_set (HN3.out) (by simp only; omega) _) (by simp only; omega) _
  have HEx3 : Hid (X3.ownsRow w.heap.size 9 1 (.slice (some ⟨S3, 0, none⟩) q.es.length q.es.length) q.es.length (q.es.map Value.string)) := by rw [← hwf3]; exact own_set (own_set (HE3.out) (by simp only; omega) _) (by simp only; omega) _
  clear b13 b14 d13 d14 r13 r14 hwf3 HA3 HZ3 HC3 HB3 HM3 HN3 HE3
  obtain ⟨d0, d1, d2, d3, d4, d5, d6, d7, d8, d9, d10, d11, d12, d13, d14⟩ := fifteen HCx3.out
  obtain ⟨z0, z1, z2, z3, z4, z5, z6, z7, z8, z9, z10, z11, z12, z13, z14⟩ := fifteen HZx3.out
  have y0 := fifteen_frz (o := 0) HZx3.out
  have y1 := fifteen_frz (o := 1) HZx3.out
  have y2 := fifteen_frz (o := 2) HZx3.out
  have y3 := fifteen_frz (o := 3) HZx3.out
  have y4 := fifteen_frz (o := 4) HZx3.out
  have y5 := fifteen_frz (o := 5) HZx3.out
  have y6 := fifteen_frz (o := 6) HZx3.out
  have y7 := fifteen_frz (o := 7) HZx3.out
  have y8 := fifteen_frz (o := 8) HZx3.out
  have y9 := fifteen_frz (o := 9) HZx3.out
  have y10 := fifteen_frz (o := 10) HZx3.out
  have y11 := fifteen_frz (o := 11) HZx3.out
  have y12 := fifteen_frz (o := 12) HZx3.out
  have y13 := fifteen_frz (o := 13) HZx3.out
  have y14 := fifteen_frz (o := 14) HZx3.out
  have HF : Hid (∀ x, x = (((((((((((((((X3).setCell ⟨w.heap.size + 1, 0, none⟩ (.int .i64 q.kd)).setCell ⟨w.heap.size + 1, 1, none⟩ (.int .i64 q.nu)).setCell ⟨w.heap.size + 1, 2, none⟩ (.int .i64 q.st)).setCell ⟨w.heap.size + 1, 3, none⟩ (.string q.tx)).setCell ⟨w.heap.size + 1, 4, none⟩ (.int .i64 q.op)).setCell ⟨w.heap.size + 1, 5, none⟩ (.slice (some ⟨S1, 0, none⟩) q.ms.length q.ms.length)).setCell ⟨w.heap.size + 1, 6, none⟩ (.int .i64 q.off)).setCell ⟨w.heap.size + 1, 7, none⟩ (.bool q.fx)).setCell ⟨w.heap.size + 1, 8, none⟩ (.int .i64 q.att)).setCell ⟨w.heap.size + 1, 9, none⟩ (.bool q.bo)).setCell ⟨w.heap.size + 1, 10, none⟩ (.int .i64 q.byy)).setCell ⟨w.heap.size + 1, 11, none⟩ (.slice (some ⟨S2, 0, none⟩) q.ns.length q.ns.length)).setCell ⟨w.heap.size + 1, 12, none⟩ (.int .i64 q.sd)).setCell ⟨w.heap.size + 1, 13, none⟩ (.slice (some ⟨S3, 0, none⟩) q.es.length q.es.length)).setCell ⟨w.heap.size + 1, 14, none⟩ (.int .i64 q.kc) →
      x.heap[w.heap.size + 1]? = some (.cells #[.int .i64 q.kd, .int .i64 q.nu, .int .i64 q.st, .string q.tx, .int .i64 q.op, .slice (some ⟨S1, 0, none⟩) q.ms.length q.ms.length, .int .i64 q.off, .bool q.fx, .int .i64 q.att, .bool q.bo, .int .i64 q.byy, .slice (some ⟨S2, 0, none⟩) q.ns.length q.ns.length, .int .i64 q.sd, .slice (some ⟨S3, 0, none⟩) q.es.length q.es.length, .int .i64 q.kc] 55) ∧ Own1 w.heap.size S1 S2 S3 ⟨q.kd, q.nu, q.st, q.tx, q.op, q.ms, some ⟨S1, 0, none⟩, q.ms.length, q.off, q.fx, q.att, q.bo, q.byy, q.ns, some ⟨S2, 0, none⟩, q.ns.length, q.sd, q.es, some ⟨S3, 0, none⟩, q.es.length, q.kc⟩ x ∧ Below w.heap.size w x) := by
    rintro x rfl
    refine ⟨set15 HZx3.out (.int .i64 q.kd) (.int .i64 q.nu) (.int .i64 q.st) (.string q.tx) (.int .i64 q.op) (.slice (some ⟨S1, 0, none⟩) q.ms.length q.ms.length) (.int .i64 q.off) (.bool q.fx) (.int .i64 q.att) (.bool q.bo) (.int .i64 q.byy) (.slice (some ⟨S2, 0, none⟩) q.ns.length q.ns.length) (.int .i64 q.sd) (.slice (some ⟨S3, 0, none⟩) q.es.length q.es.length) (.int .i64 q.kc), ⟨rfl, rfl, rfl, own15 HMx3.out (by omega) (.int .i64 q.kd) (.int .i64 q.nu) (.int .i64 q.st) (.string q.tx) (.int .i64 q.op) (.slice (some ⟨S1, 0, none⟩) q.ms.length q.ms.length) (.int .i64 q.off) (.bool q.fx) (.int .i64 q.att) (.bool q.bo) (.int .i64 q.byy) (.slice (some ⟨S2, 0, none⟩) q.ns.length q.ns.length) (.int .i64 q.sd) (.slice (some ⟨S3, 0, none⟩) q.es.length q.es.length) (.int .i64 q.kc), own15 HNx3.out (by omega) (.int .i64 q.kd) (.int .i64 q.nu) (.int .i64 q.st) (.string q.tx) (.int .i64 q.op) (.slice (some ⟨S1, 0, none⟩) q.ms.length q.ms.length) (.int .i64 q.off) (.bool q.fx) (.int .i64 q.att) (.bool q.bo) (.int .i64 q.byy) (.slice (some ⟨S2, 0, none⟩) q.ns.length q.ns.length) (.int .i64 q.sd) (.slice (some ⟨S3, 0, none⟩) q.es.length q.es.length) (.int .i64 q.kc), own15 HEx3.out (by omega) (.int .i64 q.kd) (.int .i64 q.nu) (.int .i64 q.st) (.string q.tx) (.int .i64 q.op) (.slice (some ⟨S1, 0, none⟩) q.ms.length q.ms.length) (.int .i64 q.off) (.bool q.fx) (.int .i64 q.att) (.bool q.bo) (.int .i64 q.byy) (.slice (some ⟨S2, 0, none⟩) q.ns.length q.ns.length) (.int .i64 q.sd) (.slice (some ⟨S3, 0, none⟩) q.es.length q.es.length) (.int .i64 q.kc), by omega, by omega⟩, below15 HBx3.out (by omega) (.int .i64 q.kd) (.int .i64 q.nu) (.int .i64 q.st) (.string q.tx) (.int .i64 q.op) (.slice (some ⟨S1, 0, none⟩) q.ms.length q.ms.length) (.int .i64 q.off) (.bool q.fx) (.int .i64 q.att) (.bool q.bo) (.int .i64 q.byy) (.slice (some ⟨S2, 0, none⟩) q.ns.length q.ns.length) (.int .i64 q.sd) (.slice (some ⟨S3, 0, none⟩) q.es.length q.es.length) (.int .i64 q.kc)⟩
  have HS1 : Hid (w.heap.size ≤ S1) := by unfold Hid; omega
  clear HZx3 HCx3 HBx3 HMx3 HNx3 HEx3
  go_wp2
  revert HF
  generalize hwf : World.setCell _ _ _ = wf
  intro HF
  obtain ⟨k1, k2, k3⟩ := HF.out wf (by rw [← hwf])
  obtain ⟨u0, u1, u2, u3, u4, u5, u6, u7, u8, u9, u10, u11, u12, u13, u14⟩ := fifteen k1
  refine bodyPost_ret (v := .agg #[.int .i64 q.kd, .int .i64 q.nu, .int .i64 q.st, .string q.tx, .int .i64 q.op, .slice (some ⟨S1, 0, none⟩) q.ms.length q.ms.length, .int .i64 q.off, .bool q.fx, .int .i64 q.att, .bool q.bo, .int .i64 q.byy, .slice (some ⟨S2, 0, none⟩) q.ns.length q.ns.length, .int .i64 q.sd, .slice (some ⟨S3, 0, none⟩) q.es.length q.es.length, .int .i64 q.kc]) (by simp [results, Tryz.results32, go_sem, u0, u1, u2, u3, u4, u5, u6, u7, u8, u9, u10, u11, u12, u13, u14]) rfl ⟨⟨q.kd, q.nu, q.st, q.tx, q.op, q.ms, some ⟨S1, 0, none⟩, q.ms.length, q.off, q.fx, q.att, q.bo, q.byy, q.ns, some ⟨S2, 0, none⟩, q.ns.length, q.sd, q.es, some ⟨S3, 0, none⟩, q.es.length, q.kc⟩, S1, S2, S3, rfl, rfl, ⟨rfl, rfl, rfl⟩, HS1.out, k2, k3⟩
theorem own15o {x : World} {b o base e size n c g : Nat} {xs : List Value} (h : x.ownsRow base e size (.slice (some ⟨g, 0, none⟩) n c) n xs) (hp : g ≠ b) (v0 v1 v2 v3 v4 v5 v6 v7 v8 v9 v10 v11 v12 v13 v14 : Value) : ((((((((((((((((x).setCell ⟨b, o, none⟩ v0).setCell ⟨b, o + 1, none⟩ v1).setCell ⟨b, o + 2, none⟩ v2).setCell ⟨b, o + 3, none⟩ v3).setCell ⟨b, o + 4, none⟩ v4).setCell ⟨b, o + 5, none⟩ v5).setCell ⟨b, o + 6, none⟩ v6).setCell ⟨b, o + 7, none⟩ v7).setCell ⟨b, o + 8, none⟩ v8).setCell ⟨b, o + 9, none⟩ v9).setCell ⟨b, o + 10, none⟩ v10).setCell ⟨b, o + 11, none⟩ v11).setCell ⟨b, o + 12, none⟩ v12).setCell ⟨b, o + 13, none⟩ v13).setCell ⟨b, o + 14, none⟩ v14).ownsRow base e size (.slice (some ⟨g, 0, none⟩) n c) n xs := by
  have h0 := own_set (p := ⟨b, o, none⟩) h hp v0
  generalize x.setCell ⟨b, o, none⟩ v0 = x0 at h0 ⊢
  have h1 := own_set (p := ⟨b, o + 1, none⟩) h0 hp v1
  generalize x0.setCell ⟨b, o + 1, none⟩ v1 = x1 at h1 ⊢
  have h2 := own_set (p := ⟨b, o + 2, none⟩) h1 hp v2
  generalize x1.setCell ⟨b, o + 2, none⟩ v2 = x2 at h2 ⊢
  have h3 := own_set (p := ⟨b, o + 3, none⟩) h2 hp v3
  generalize x2.setCell ⟨b, o + 3, none⟩ v3 = x3 at h3 ⊢
  have h4 := own_set (p := ⟨b, o + 4, none⟩) h3 hp v4
  generalize x3.setCell ⟨b, o + 4, none⟩ v4 = x4 at h4 ⊢
  have h5 := own_set (p := ⟨b, o + 5, none⟩) h4 hp v5
  generalize x4.setCell ⟨b, o + 5, none⟩ v5 = x5 at h5 ⊢
  have h6 := own_set (p := ⟨b, o + 6, none⟩) h5 hp v6
  generalize x5.setCell ⟨b, o + 6, none⟩ v6 = x6 at h6 ⊢
  have h7 := own_set (p := ⟨b, o + 7, none⟩) h6 hp v7
  generalize x6.setCell ⟨b, o + 7, none⟩ v7 = x7 at h7 ⊢
  have h8 := own_set (p := ⟨b, o + 8, none⟩) h7 hp v8
  generalize x7.setCell ⟨b, o + 8, none⟩ v8 = x8 at h8 ⊢
  have h9 := own_set (p := ⟨b, o + 9, none⟩) h8 hp v9
  generalize x8.setCell ⟨b, o + 9, none⟩ v9 = x9 at h9 ⊢
  have h10 := own_set (p := ⟨b, o + 10, none⟩) h9 hp v10
  generalize x9.setCell ⟨b, o + 10, none⟩ v10 = x10 at h10 ⊢
  have h11 := own_set (p := ⟨b, o + 11, none⟩) h10 hp v11
  generalize x10.setCell ⟨b, o + 11, none⟩ v11 = x11 at h11 ⊢
  have h12 := own_set (p := ⟨b, o + 12, none⟩) h11 hp v12
  generalize x11.setCell ⟨b, o + 12, none⟩ v12 = x12 at h12 ⊢
  have h13 := own_set (p := ⟨b, o + 13, none⟩) h12 hp v13
  generalize x12.setCell ⟨b, o + 13, none⟩ v13 = x13 at h13 ⊢
  have h14 := own_set (p := ⟨b, o + 14, none⟩) h13 hp v14
  exact h14
theorem below15o {w x : World} {b o B : Nat} (h : Below B w x) (hp : B ≤ b) (v0 v1 v2 v3 v4 v5 v6 v7 v8 v9 v10 v11 v12 v13 v14 : Value) : Below B w ((((((((((((((((x).setCell ⟨b, o, none⟩ v0).setCell ⟨b, o + 1, none⟩ v1).setCell ⟨b, o + 2, none⟩ v2).setCell ⟨b, o + 3, none⟩ v3).setCell ⟨b, o + 4, none⟩ v4).setCell ⟨b, o + 5, none⟩ v5).setCell ⟨b, o + 6, none⟩ v6).setCell ⟨b, o + 7, none⟩ v7).setCell ⟨b, o + 8, none⟩ v8).setCell ⟨b, o + 9, none⟩ v9).setCell ⟨b, o + 10, none⟩ v10).setCell ⟨b, o + 11, none⟩ v11).setCell ⟨b, o + 12, none⟩ v12).setCell ⟨b, o + 13, none⟩ v13).setCell ⟨b, o + 14, none⟩ v14) := by
  have h0 := Below.setCell (p := ⟨b, o, none⟩) h hp v0
  generalize x.setCell ⟨b, o, none⟩ v0 = x0 at h0 ⊢
  have h1 := Below.setCell (p := ⟨b, o + 1, none⟩) h0 hp v1
  generalize x0.setCell ⟨b, o + 1, none⟩ v1 = x1 at h1 ⊢
  have h2 := Below.setCell (p := ⟨b, o + 2, none⟩) h1 hp v2
  generalize x1.setCell ⟨b, o + 2, none⟩ v2 = x2 at h2 ⊢
  have h3 := Below.setCell (p := ⟨b, o + 3, none⟩) h2 hp v3
  generalize x2.setCell ⟨b, o + 3, none⟩ v3 = x3 at h3 ⊢
  have h4 := Below.setCell (p := ⟨b, o + 4, none⟩) h3 hp v4
  generalize x3.setCell ⟨b, o + 4, none⟩ v4 = x4 at h4 ⊢
  have h5 := Below.setCell (p := ⟨b, o + 5, none⟩) h4 hp v5
  generalize x4.setCell ⟨b, o + 5, none⟩ v5 = x5 at h5 ⊢
  have h6 := Below.setCell (p := ⟨b, o + 6, none⟩) h5 hp v6
  generalize x5.setCell ⟨b, o + 6, none⟩ v6 = x6 at h6 ⊢
  have h7 := Below.setCell (p := ⟨b, o + 7, none⟩) h6 hp v7
  generalize x6.setCell ⟨b, o + 7, none⟩ v7 = x7 at h7 ⊢
  have h8 := Below.setCell (p := ⟨b, o + 8, none⟩) h7 hp v8
  generalize x7.setCell ⟨b, o + 8, none⟩ v8 = x8 at h8 ⊢
  have h9 := Below.setCell (p := ⟨b, o + 9, none⟩) h8 hp v9
  generalize x8.setCell ⟨b, o + 9, none⟩ v9 = x9 at h9 ⊢
  have h10 := Below.setCell (p := ⟨b, o + 10, none⟩) h9 hp v10
  generalize x9.setCell ⟨b, o + 10, none⟩ v10 = x10 at h10 ⊢
  have h11 := Below.setCell (p := ⟨b, o + 11, none⟩) h10 hp v11
  generalize x10.setCell ⟨b, o + 11, none⟩ v11 = x11 at h11 ⊢
  have h12 := Below.setCell (p := ⟨b, o + 12, none⟩) h11 hp v12
  generalize x11.setCell ⟨b, o + 12, none⟩ v12 = x12 at h12 ⊢
  have h13 := Below.setCell (p := ⟨b, o + 13, none⟩) h12 hp v13
  generalize x12.setCell ⟨b, o + 13, none⟩ v13 = x13 at h13 ⊢
  have h14 := Below.setCell (p := ⟨b, o + 14, none⟩) h13 hp v14
  exact h14
theorem row15o {x : World} {b o base e size n c : Nat} {xs : List Value} (h : x.ownsRow base e size (.slice (some ⟨b, 0, none⟩) n c) n xs) (v0 v1 v2 v3 v4 v5 v6 v7 v8 v9 v10 v11 v12 v13 v14 : Value) : ((((((((((((((((x).setCell ⟨b, o, none⟩ v0).setCell ⟨b, o + 1, none⟩ v1).setCell ⟨b, o + 2, none⟩ v2).setCell ⟨b, o + 3, none⟩ v3).setCell ⟨b, o + 4, none⟩ v4).setCell ⟨b, o + 5, none⟩ v5).setCell ⟨b, o + 6, none⟩ v6).setCell ⟨b, o + 7, none⟩ v7).setCell ⟨b, o + 8, none⟩ v8).setCell ⟨b, o + 9, none⟩ v9).setCell ⟨b, o + 10, none⟩ v10).setCell ⟨b, o + 11, none⟩ v11).setCell ⟨b, o + 12, none⟩ v12).setCell ⟨b, o + 13, none⟩ v13).setCell ⟨b, o + 14, none⟩ v14).ownsRow base e size (.slice (some ⟨b, 0, none⟩) n c) n ((((((((((((((((xs).set (o) v0).set (o + 1) v1).set (o + 2) v2).set (o + 3) v3).set (o + 4) v4).set (o + 5) v5).set (o + 6) v6).set (o + 7) v7).set (o + 8) v8).set (o + 9) v9).set (o + 10) v10).set (o + 11) v11).set (o + 12) v12).set (o + 13) v13).set (o + 14) v14) := by
  have h0 := (h.stored (o) v0).1
  generalize x.setCell ⟨b, o, none⟩ v0 = x0 at h0 ⊢
  have h1 := (h0.stored (o + 1) v1).1
  generalize x0.setCell ⟨b, o + 1, none⟩ v1 = x1 at h1 ⊢
  have h2 := (h1.stored (o + 2) v2).1
  generalize x1.setCell ⟨b, o + 2, none⟩ v2 = x2 at h2 ⊢
  have h3 := (h2.stored (o + 3) v3).1
  generalize x2.setCell ⟨b, o + 3, none⟩ v3 = x3 at h3 ⊢
  have h4 := (h3.stored (o + 4) v4).1
  generalize x3.setCell ⟨b, o + 4, none⟩ v4 = x4 at h4 ⊢
  have h5 := (h4.stored (o + 5) v5).1
  generalize x4.setCell ⟨b, o + 5, none⟩ v5 = x5 at h5 ⊢
  have h6 := (h5.stored (o + 6) v6).1
  generalize x5.setCell ⟨b, o + 6, none⟩ v6 = x6 at h6 ⊢
  have h7 := (h6.stored (o + 7) v7).1
  generalize x6.setCell ⟨b, o + 7, none⟩ v7 = x7 at h7 ⊢
  have h8 := (h7.stored (o + 8) v8).1
  generalize x7.setCell ⟨b, o + 8, none⟩ v8 = x8 at h8 ⊢
  have h9 := (h8.stored (o + 9) v9).1
  generalize x8.setCell ⟨b, o + 9, none⟩ v9 = x9 at h9 ⊢
  have h10 := (h9.stored (o + 10) v10).1
  generalize x9.setCell ⟨b, o + 10, none⟩ v10 = x10 at h10 ⊢
  have h11 := (h10.stored (o + 11) v11).1
  generalize x10.setCell ⟨b, o + 11, none⟩ v11 = x11 at h11 ⊢
  have h12 := (h11.stored (o + 12) v12).1
  generalize x11.setCell ⟨b, o + 12, none⟩ v12 = x12 at h12 ⊢
  have h13 := (h12.stored (o + 13) v13).1
  generalize x12.setCell ⟨b, o + 13, none⟩ v13 = x13 at h13 ⊢
  have h14 := (h13.stored (o + 14) v14).1
  exact h14
theorem infoR : (Tryz.prog.info? 55).map (fun i => (i.zero, i.size, i.bytes)) = some (some (.agg #[.int .i64 0, .int .i64 0, .int .i64 0, .string ⟨#[]⟩, .int .i64 0, .slice none 0 0, .int .i64 0, .bool false, .int .i64 0, .bool false, .int .i64 0, .slice none 0 0, .int .i64 0, .slice none 0 0, .int .i64 0]), 15, 176) := by kernel_rfl
theorem step_set (d : List R) (n k : Nat) (q : R) (hd : d.length = k) (hk : k < n) : (d ++ List.replicate (n - k) r0).set k q = (d ++ [q]) ++ List.replicate (n - (k + 1)) r0 := by
  rw [List.set_append_right _ _ (by omega), hd, Nat.sub_self, show n - k = (n - (k + 1)) + 1 from by omega, List.replicate_succ, List.set_cons_zero, List.append_assoc]
  rfl
theorem getD_snoc (d : List R) (q : R) (i : Nat) : (d ++ [q]).getD i r0 = if i = d.length then q else d.getD i r0 := by
  rw [List.getD_eq_getElem?_getD, List.getD_eq_getElem?_getD]
  by_cases h : i < d.length
  · rw [List.getElem?_append_left h, if_neg (by omega)]
  · rw [List.getElem?_append_right (by omega)]
    by_cases e : i = d.length
    · rw [if_pos e, e, Nat.sub_self]; rfl
    · rw [if_neg e, List.getElem?_eq_none (by simp; omega), List.getElem?_eq_none (by omega)]
theorem made15 (n : Nat) : (madeCells #[.int .i64 0, .int .i64 0, .int .i64 0, .string ⟨#[]⟩, .int .i64 0, .slice none 0 0, .int .i64 0, .bool false, .int .i64 0, .bool false, .int .i64 0, .slice none 0 0, .int .i64 0, .slice none 0 0, .int .i64 0] (n * 15)).toList = flat (List.replicate n r0) := by
  apply List.ext_getElem?
  intro j
  by_cases hj : j < n * 15
  · have hl : j / 15 < (List.replicate n r0).length := by simp; omega
    have h2 : (List.replicate n r0).getD (j / 15) r0 = r0 := by
      rw [List.getD_eq_getElem?_getD, List.getElem?_replicate]; split <;> rfl
    have hm : j % 15 < 15 := Nat.mod_lt _ (by omega)
    have g := flat_get _ _ (j % 15) hl hm
    rw [h2, show j / 15 * 15 + j % 15 = j by omega] at g
    rw [g]
    unfold madeCells
    simp [hj]
    generalize j % 15 = r at hm
    match r, hm with
    | 0, _ => rfl
    | 1, _ => rfl
    | 2, _ => rfl
    | 3, _ => rfl
    | 4, _ => rfl
    | 5, _ => rfl
    | 6, _ => rfl
    | 7, _ => rfl
    | 8, _ => rfl
    | 9, _ => rfl
    | 10, _ => rfl
    | 11, _ => rfl
    | 12, _ => rfl
    | 13, _ => rfl
    | 14, _ => rfl
    | r + 15, hm => omega
  · rw [List.getElem?_eq_none (by simp [size_madeCells]; omega), List.getElem?_eq_none (by rw [flat_len]; simp; omega)]
/-- The blocks of a row's lists. -/
def b1 (q : R) : Nat := blk q.ma
def b2 (q : R) : Nat := blk q.na
def b3 (q : R) : Nat := blk q.ea
/-- The first k of a list of rows lie in memory of their own, behind B, one behind the other. -/
structure Owns (X B k : Nat) (d : List R) (w : World) : Prop where
  len : d.length = k
  own : ∀ i, i < k → Own1 X (b1 (d.getD i r0)) (b2 (d.getD i r0)) (b3 (d.getD i r0)) (d.getD i r0) w
  off : ∀ i, i < k → B < b1 (d.getD i r0)
  dis : ∀ i j, i < j → j < k → b3 (d.getD i r0) < b1 (d.getD j r0)
theorem Owns.nil {X B : Nat} {w : World} : Owns X B 0 [] w := ⟨rfl, fun i hi => by omega, fun i hi => by omega, fun i j h1 h2 => by omega⟩
theorem Owns.below {X B k : Nat} {d : List R} {w w' : World} (h : Owns X B k d w) (hb : Below w.heap.size w w') : Owns X B k d w' := ⟨h.len, fun i hi => (h.own i hi).below hb, h.off, h.dis⟩
theorem Own1.set15o {X g1 g2 g3 b o : Nat} {q : R} {x : World} (h : Own1 X g1 g2 g3 q x) (hb : b < g1) (v0 v1 v2 v3 v4 v5 v6 v7 v8 v9 v10 v11 v12 v13 v14 : Value) : Own1 X g1 g2 g3 q ((((((((((((((((x).setCell ⟨b, o, none⟩ v0).setCell ⟨b, o + 1, none⟩ v1).setCell ⟨b, o + 2, none⟩ v2).setCell ⟨b, o + 3, none⟩ v3).setCell ⟨b, o + 4, none⟩ v4).setCell ⟨b, o + 5, none⟩ v5).setCell ⟨b, o + 6, none⟩ v6).setCell ⟨b, o + 7, none⟩ v7).setCell ⟨b, o + 8, none⟩ v8).setCell ⟨b, o + 9, none⟩ v9).setCell ⟨b, o + 10, none⟩ v10).setCell ⟨b, o + 11, none⟩ v11).setCell ⟨b, o + 12, none⟩ v12).setCell ⟨b, o + 13, none⟩ v13).setCell ⟨b, o + 14, none⟩ v14) :=
  ⟨h.h1, h.h2, h.h3, own15o h.m (by omega) v0 v1 v2 v3 v4 v5 v6 v7 v8 v9 v10 v11 v12 v13 v14, own15o h.n (by have := h.l12; omega) v0 v1 v2 v3 v4 v5 v6 v7 v8 v9 v10 v11 v12 v13 v14, own15o h.e (by have := h.l12; have := h.l23; omega) v0 v1 v2 v3 v4 v5 v6 v7 v8 v9 v10 v11 v12 v13 v14, h.l12, h.l23⟩
theorem Owns.set15o {X b o k : Nat} {d : List R} {x : World} (h : Owns X b k d x) (v0 v1 v2 v3 v4 v5 v6 v7 v8 v9 v10 v11 v12 v13 v14 : Value) : Owns X b k d ((((((((((((((((x).setCell ⟨b, o, none⟩ v0).setCell ⟨b, o + 1, none⟩ v1).setCell ⟨b, o + 2, none⟩ v2).setCell ⟨b, o + 3, none⟩ v3).setCell ⟨b, o + 4, none⟩ v4).setCell ⟨b, o + 5, none⟩ v5).setCell ⟨b, o + 6, none⟩ v6).setCell ⟨b, o + 7, none⟩ v7).setCell ⟨b, o + 8, none⟩ v8).setCell ⟨b, o + 9, none⟩ v9).setCell ⟨b, o + 10, none⟩ v10).setCell ⟨b, o + 11, none⟩ v11).setCell ⟨b, o + 12, none⟩ v12).setCell ⟨b, o + 13, none⟩ v13).setCell ⟨b, o + 14, none⟩ v14) :=
  ⟨h.len, fun i hi => (h.own i hi).set15o (h.off i hi) v0 v1 v2 v3 v4 v5 v6 v7 v8 v9 v10 v11 v12 v13 v14, h.off, h.dis⟩
theorem Owns.snoc {X B k : Nat} {d : List R} {w : World} {q : R} (h : Owns X B k d w) (h1 : Own1 X (b1 q) (b2 q) (b3 q) q w) (h2 : B < b1 q) (h3 : ∀ i, i < k → b3 (d.getD i r0) < b1 q) : Owns X B (k + 1) (d ++ [q]) w := by
  have hl := h.len
  refine ⟨by simp [hl], fun i hi => ?_, fun i hi => ?_, fun i j hij hj => ?_⟩
  · rw [getD_snoc]
    by_cases e : i = d.length
    · rw [if_pos e]; exact h1
    · rw [if_neg e]; exact h.own i (by omega)
  · rw [getD_snoc]
    by_cases e : i = d.length
    · rw [if_pos e]; exact h2
    · rw [if_neg e]; exact h.off i (by omega)
  · rw [getD_snoc, getD_snoc, if_neg (show ¬ i = d.length by omega)]
    by_cases e : j = d.length
    · rw [if_pos e]; exact h3 i (by omega)
    · rw [if_neg e]; exact h.dis i j hij (by omega)
theorem Own1.at_blk {X g1 g2 g3 : Nat} {q : R} {w : World} (h : Own1 X g1 g2 g3 q w) : b1 q = g1 ∧ b2 q = g2 ∧ b3 q = g3 := by
  unfold b1 b2 b3; rw [h.h1, h.h2, h.h3]; exact ⟨rfl, rfl, rfl⟩
/-- A list of rows at block g, all of it in memory of its own from X on. -/
structure OwnR (X g n : Nat) (rs : List R) (w : World) : Prop where
  row : w.ownsRow X 55 15 (.slice (some ⟨g, 0, none⟩) n n) n (flat rs)
  kin : Owns X g n rs w
theorem OwnR.below {X g n : Nat} {rs : List R} {w w' : World} (h : OwnR X g n rs w) (hb : Below w.heap.size w w') : OwnR X g n rs w' := ⟨own_below h.row hb, h.kin.below hb⟩
theorem OwnR.has {X g n : Nat} {rs : List R} {w : World} (h : OwnR X g n rs w) : HasR w (some ⟨g, 0, none⟩) rs :=
  own_has h.row fun i hi => (h.kin.own i (by rw [← h.kin.len]; exact hi)).lst
def Tight (q : R) : Prop := q.mc = q.ms.length ∧ q.nc = q.ns.length ∧ q.ec = q.es.length
def SameTo (k : Nat) (rs d : List R) : Prop := ∀ i, i < k → pl (d.getD i r0) = pl (rs.getD i r0) ∧ Tight (d.getD i r0)
theorem SameTo.snoc {k : Nat} {rs d : List R} {q : R} (h : SameTo k rs d) (hd : d.length = k) (h1 : pl q = pl (rs.getD k r0)) (h2 : Tight q) : SameTo (k + 1) rs (d ++ [q]) := by
  intro i hi
  rw [getD_snoc]
  by_cases e : i = d.length
  · rw [if_pos e, e, hd]; exact ⟨h1, h2⟩
  · rw [if_neg e]; exact h i (by omega)

set_option maxHeartbeats 8000000 in
set_option maxRecDepth 100000 in
theorem f10 (a : Option Addr) (n c : Nat) (rs : List R) (w : World) (hn : rs.length = n) (hb : n ≤ 1048576) (hr : HasR w a rs) (hz : SmlR rs) :
    Calls Tryz.prog 10 #[.slice a n c] w fun e w' => ∃ rs' : List R, e = .returned (.slice (some ⟨w.heap.size, 0, none⟩) n n) ∧ SameTo n rs rs' ∧ OwnR w.heap.size w.heap.size n rs' w' ∧ Below w.heap.size w w' := by
  obtain ⟨i0, hi, hz0, hz1, hz2⟩ := info_parts infoR
  have HN := hid hn
  have HR := hid hr
  have HZ := hid hz
  clear hn hr hz
  go_enter Tryz.func10, Tryz.ntmps10
  go_wp2_with (at_make; refine wpList_make_full _ rfl _ _ 25 rfl w.heap.size 55 i0 (.agg #[.int .i64 0, .int .i64 0, .int .i64 0, .string ⟨#[]⟩, .int .i64 0, .slice none 0 0, .int .i64 0, .bool false, .int .i64 0, .bool false, .int .i64 0, .slice none 0 0, .int .i64 0, .slice none 0 0, .int .i64 0]) 15 Tryz.underlying25 hi hz0 hz1 _ _ _ _ n rfl rfl rfl rfl ?b2 ?b3 (Nat.le_refl _) ?_)
  case b2 => rw [hz2]; omega
  case b3 => unfold maxLen; omega
  intro w0 hown0 hgrow0
  have hown1 : Hid (w0.ownsRow w.heap.size 55 15 (.slice (some ⟨w.heap.size, 0, none⟩) n n) n (flat (List.replicate n r0))) := by
    rw [← made15]; exact hown0
  have hb0 := hid ((Below.refl w.heap.size w).grown hgrow0 (Nat.le_refl _) (fun k h => by cases h))
  clear hown0 hgrow0
  go_wp2
  go_loopw [4] (fun i wr => ∃ (k : Nat) (d : List R), k ≤ n ∧ i = .int .i64 k ∧ Hid (SameTo k rs d) ∧ Hid (Owns w.heap.size w.heap.size k d wr) ∧ Hid (wr.ownsRow w.heap.size 55 15 (.slice (some ⟨w.heap.size, 0, none⟩) n n) n (flat (d ++ List.replicate (n - k) r0))) ∧ Hid (Below w.heap.size w wr))
    (fun i _ => n - (intOf i).toNat)
  case atStart => exact ⟨0, [], Nat.zero_le _, rfl, fun i hi => by omega, Owns.nil, by unfold Hid; simpa using hown1.out, hb0.out⟩
  case round =>
    obtain ⟨k, d, hk, rfl, HSm, HD, HO, HX⟩ := hrel
    by_cases hlt : k < n
    · obtain ⟨b, off, rfl, hbl, hc, hT1⟩ := (HR.out).at2 k (by rw [HN.out]; exact hlt)
      obtain ⟨d0, d1, d2, d3, d4, d5, d6, d7, d8, d9, d10, d11, d12, d13, d14⟩ := (hc.below HX.out hbl).all
      have HT1 := hid (hT1.below HX.out)
      have HS := hid (HZ.out k (by rw [HN.out]; exact hlt))
      obtain ⟨q, hq⟩ : ∃ q, q = rs.getD k r0 := ⟨_, rfl⟩
      have HQ := hid hq
      rw [← hq] at d0 d1 d2 d3 d4 d5 d6 d7 d8 d9 d10 d11 d12 d13 d14 HT1 HS
      clear hc hT1 hbl hq
      go_wp2_with fail
      refine (f32 q _ HT1.out HS.out).mono ?_
      rintro e w2 ⟨q', g1, g2, g3, rfl, hp, hc', hg, ho2, hb2⟩
      have HO2 := hid (own_below HO.out hb2)
      have HBq := hid ho2.at_blk
      have HL : Hid ((d ++ List.replicate (n - k) r0).length = n) := by unfold Hid; have := HD.out.len; simp; omega
      have HSn := hid (HSm.out.snoc HD.out.len (hp.trans (by rw [← HQ.out])) hc')
      have HT3 : Hid (Own1 w.heap.size (b1 q') (b2 q') (b3 q') q' w2) := by
        have h := ho2.base HX.out.size
        unfold Hid
        rw [HBq.out.1, HBq.out.2.1, HBq.out.2.2]; exact h
      have HGB : Hid (w.heap.size < b1 q' ∧ ∀ i, i < k → b3 (d.getD i r0) < b1 q') := by
        have h1 := (HO.out.lt w.heap.size rfl).2
        refine ⟨by rw [HBq.out.1]; omega, fun i hi => ?_⟩
        have h2 := (HD.out.own i hi).lts
        rw [HBq.out.1]; omega
      have z0 := (HO2.out.cellAt (k * 15) (by omega)).trans (flat_get _ k 0 (by rw [HL.out]; exact hlt) (by omega))
      have z1 := (HO2.out.cellAt (k * 15 + 1) (by omega)).trans (flat_get _ k 1 (by rw [HL.out]; exact hlt) (by omega))
      have z2 := (HO2.out.cellAt (k * 15 + 2) (by omega)).trans (flat_get _ k 2 (by rw [HL.out]; exact hlt) (by omega))
      have z3 := (HO2.out.cellAt (k * 15 + 3) (by omega)).trans (flat_get _ k 3 (by rw [HL.out]; exact hlt) (by omega))
      have z4 := (HO2.out.cellAt (k * 15 + 4) (by omega)).trans (flat_get _ k 4 (by rw [HL.out]; exact hlt) (by omega))
      have z5 := (HO2.out.cellAt (k * 15 + 5) (by omega)).trans (flat_get _ k 5 (by rw [HL.out]; exact hlt) (by omega))
      have z6 := (HO2.out.cellAt (k * 15 + 6) (by omega)).trans (flat_get _ k 6 (by rw [HL.out]; exact hlt) (by omega))
      have z7 := (HO2.out.cellAt (k * 15 + 7) (by omega)).trans (flat_get _ k 7 (by rw [HL.out]; exact hlt) (by omega))
      have z8 := (HO2.out.cellAt (k * 15 + 8) (by omega)).trans (flat_get _ k 8 (by rw [HL.out]; exact hlt) (by omega))
      have z9 := (HO2.out.cellAt (k * 15 + 9) (by omega)).trans (flat_get _ k 9 (by rw [HL.out]; exact hlt) (by omega))
      have z10 := (HO2.out.cellAt (k * 15 + 10) (by omega)).trans (flat_get _ k 10 (by rw [HL.out]; exact hlt) (by omega))
      have z11 := (HO2.out.cellAt (k * 15 + 11) (by omega)).trans (flat_get _ k 11 (by rw [HL.out]; exact hlt) (by omega))
      have z12 := (HO2.out.cellAt (k * 15 + 12) (by omega)).trans (flat_get _ k 12 (by rw [HL.out]; exact hlt) (by omega))
      have z13 := (HO2.out.cellAt (k * 15 + 13) (by omega)).trans (flat_get _ k 13 (by rw [HL.out]; exact hlt) (by omega))
      have z14 := (HO2.out.cellAt (k * 15 + 14) (by omega)).trans (flat_get _ k 14 (by rw [HL.out]; exact hlt) (by omega))
      have f0 := HO2.out.frozenAt (k * 15)
      have f1 := HO2.out.frozenAt (k * 15 + 1)
      have f2 := HO2.out.frozenAt (k * 15 + 2)
      have f3 := HO2.out.frozenAt (k * 15 + 3)
      have f4 := HO2.out.frozenAt (k * 15 + 4)
      have f5 := HO2.out.frozenAt (k * 15 + 5)
      have f6 := HO2.out.frozenAt (k * 15 + 6)
      have f7 := HO2.out.frozenAt (k * 15 + 7)
      have f8 := HO2.out.frozenAt (k * 15 + 8)
      have f9 := HO2.out.frozenAt (k * 15 + 9)
      have f10 := HO2.out.frozenAt (k * 15 + 10)
      have f11 := HO2.out.frozenAt (k * 15 + 11)
      have f12 := HO2.out.frozenAt (k * 15 + 12)
      have f13 := HO2.out.frozenAt (k * 15 + 13)
      have f14 := HO2.out.frozenAt (k * 15 + 14)
      have HE : Hid (∀ wz, wz = (((((((((((((((w2).setCell ⟨w.heap.size, k * 15, none⟩ (.int .i64 q'.kd)).setCell ⟨w.heap.size, k * 15 + 1, none⟩ (.int .i64 q'.nu)).setCell ⟨w.heap.size, k * 15 + 2, none⟩ (.int .i64 q'.st)).setCell ⟨w.heap.size, k * 15 + 3, none⟩ (.string q'.tx)).setCell ⟨w.heap.size, k * 15 + 4, none⟩ (.int .i64 q'.op)).setCell ⟨w.heap.size, k * 15 + 5, none⟩ (.slice q'.ma q'.ms.length q'.mc)).setCell ⟨w.heap.size, k * 15 + 6, none⟩ (.int .i64 q'.off)).setCell ⟨w.heap.size, k * 15 + 7, none⟩ (.bool q'.fx)).setCell ⟨w.heap.size, k * 15 + 8, none⟩ (.int .i64 q'.att)).setCell ⟨w.heap.size, k * 15 + 9, none⟩ (.bool q'.bo)).setCell ⟨w.heap.size, k * 15 + 10, none⟩ (.int .i64 q'.byy)).setCell ⟨w.heap.size, k * 15 + 11, none⟩ (.slice q'.na q'.ns.length q'.nc)).setCell ⟨w.heap.size, k * 15 + 12, none⟩ (.int .i64 q'.sd)).setCell ⟨w.heap.size, k * 15 + 13, none⟩ (.slice q'.ea q'.es.length q'.ec)).setCell ⟨w.heap.size, k * 15 + 14, none⟩ (.int .i64 q'.kc) → Owns w.heap.size w.heap.size (k + 1) (d ++ [q']) wz ∧ wz.ownsRow w.heap.size 55 15 (.slice (some ⟨w.heap.size, 0, none⟩) n n) n (flat ((d ++ [q']) ++ List.replicate (n - (k + 1)) r0)) ∧ Below w.heap.size w wz) := by
        rintro wz rfl
        have hsn := (HD.out.below hb2).snoc HT3.out HGB.out.1 HGB.out.2
        refine ⟨hsn.set15o (.int .i64 q'.kd) (.int .i64 q'.nu) (.int .i64 q'.st) (.string q'.tx) (.int .i64 q'.op) (.slice q'.ma q'.ms.length q'.mc) (.int .i64 q'.off) (.bool q'.fx) (.int .i64 q'.att) (.bool q'.bo) (.int .i64 q'.byy) (.slice q'.na q'.ns.length q'.nc) (.int .i64 q'.sd) (.slice q'.ea q'.es.length q'.ec) (.int .i64 q'.kc), ?_, below15o (HX.out.trans (hb2.mono HX.out.size)) (Nat.le_refl _) (.int .i64 q'.kd) (.int .i64 q'.nu) (.int .i64 q'.st) (.string q'.tx) (.int .i64 q'.op) (.slice q'.ma q'.ms.length q'.mc) (.int .i64 q'.off) (.bool q'.fx) (.int .i64 q'.att) (.bool q'.bo) (.int .i64 q'.byy) (.slice q'.na q'.ns.length q'.nc) (.int .i64 q'.sd) (.slice q'.ea q'.es.length q'.ec) (.int .i64 q'.kc)⟩
        rw [← step_set d n k _ HD.out.len hlt, ← flat_set _ k _ (by rw [HL.out]; exact hlt)]
        exact row15o HO2.out (.int .i64 q'.kd) (.int .i64 q'.nu) (.int .i64 q'.st) (.string q'.tx) (.int .i64 q'.op) (.slice q'.ma q'.ms.length q'.mc) (.int .i64 q'.off) (.bool q'.fx) (.int .i64 q'.att) (.bool q'.bo) (.int .i64 q'.byy) (.slice q'.na q'.ns.length q'.nc) (.int .i64 q'.sd) (.slice q'.ea q'.es.length q'.ec) (.int .i64 q'.kc)
      clear hb2 hg ho2 hp hc' HO HT1 HO2 HT3 HX HD HSm HBq HGB d0 d1 d2 d3 d4 d5 d6 d7 d8 d9 d10 d11 d12 d13 d14
      simp only [cl, List.getElem?_cons_zero, List.getElem?_cons_succ] at z0 z1 z2 z3 z4 z5 z6 z7 z8 z9 z10 z11 z12 z13 z14
      go_wp2
      go_roundw
      case rel =>
        obtain ⟨e1, e2, e3⟩ := HE.out _ rfl
        exact ⟨k + 1, _, by omega, by go_num, HSn.out, e1, e2, e3⟩
      case measure => simp [intOf]; omega
    · obtain rfl : k = n := by omega
      have HE : Hid (OwnR w.heap.size w.heap.size k d wr) := by
        have h := HO.out
        rw [Nat.sub_self, List.replicate_zero, List.append_nil] at h
        exact ⟨h, HD.out⟩
      go_wp2
      go_ret
      exact ⟨d, rfl, HSm.out, HE.out, HX.out⟩
end Go.Proofs.YtbdlahhejfamhaaGreatDoor.Qry
