/- Two aggs drawn: DrawMergeAgg. -/
import Derived.Test.YtaedgekdhpiieaaUa
import Derived.Test.YtaedgekdhpiieaaAg
namespace Go.Proofs.Ytaedgekdhpiieaa.Agl
open Go.RowKit
open Go.Proofs.Ytaedgekdhpiieaa.Cur (Cu grown_alloc grown_below)
open Go.Proofs.Ytaedgekdhpiieaa.Smp (below_grown grown_trans)

def Byt (w : World) (a : Option Addr) (n : Nat) : Prop := n = 0 ∨ ∃ b off, a = some ⟨b, off, none⟩ ∧ b < w.heap.size ∧ ∀ i, i < n → ∃ z : Int, 0 ≤ z ∧ z ≤ 255 ∧ w.cell? ⟨b, off + i, none⟩ = some (.int .u8 z)
theorem Byt.below {w w' : World} {a : Option Addr} {n : Nat} (h : Byt w a n) (hb : Below w.heap.size w w') : Byt w' a n := by
  rcases h with h | ⟨b, off, h1, h2, h3⟩
  · exact .inl h
  · exact .inr ⟨b, off, h1, Nat.lt_of_lt_of_le h2 hb.size, fun i hi => by obtain ⟨z, z0, z1, hz⟩ := h3 i hi; exact ⟨z, z0, z1, (hb.cell (p := ⟨b, off + i, none⟩) h2).trans hz⟩⟩
theorem grown_box {w w' : World} {b R : Nat} {o : Obj} (h : w.heap[b]? = some o) (hg : w.grownBy w' (some R)) (hne : b ≠ R) : w'.heap[b]? = some o := (hg.block b (lt_block h) (fun e => hne (by cases e; rfl))).trans h
/-- While two aggs are drawn: the cursor, the two boxes of the answer. -/
structure Kd (w : World) (a : Option Addr) (n c lim : Nat) (x : World) : Prop where
  cu : Cu w.heap.size (w.heap.size + 2) a n c lim x
  b0 : x.heap[w.heap.size]? = some (.cells #[.int .i64 0, .int .i64 0, .int .i64 0, .int .i64 0, .int .i64 0, .int .i64 0, .int .i64 0, .int .i64 0] 33)
  b1 : x.heap[w.heap.size + 1]? = some (.cells #[.int .i64 0, .int .i64 0, .int .i64 0, .int .i64 0, .int .i64 0, .int .i64 0, .int .i64 0, .int .i64 0] 33)
  bel : Below w.heap.size w x
theorem Kd.step {w x y : World} {a : Option Addr} {n c lim lim' : Nat} (h : Kd w a n c lim x) (hc : Cu w.heap.size (w.heap.size + 2) a n c lim' y) (hg : x.grownBy y (some (w.heap.size + 2))) : Kd w a n c lim' y :=
  ⟨hc, grown_box h.b0 hg (by omega), grown_box h.b1 hg (by omega), h.bel.grown hg h.bel.size (fun k hk => by cases hk; omega)⟩
theorem Kd.lt {w x : World} {a : Option Addr} {n c lim : Nat} (h : Kd w a n c lim x) : w.heap.size + 2 < x.heap.size := by
  obtain ⟨t, s, _, _, _, h⟩ := h.cu.box
  exact lt_block h
theorem Kd.alloc {w x : World} {a : Option Addr} {n c lim : Nat} (h : Kd w a n c lim x) (o : Obj) : Kd w a n c lim (x.alloc o) := by
  have hb := (Below.refl x.heap.size x).alloc (Nat.le_refl _) o
  obtain ⟨t, s, h1, h2, h3, h4⟩ := h.cu.box
  exact ⟨h.cu.moved (grown_below _ hb) ⟨t, s, h1, h2, h3, box_below h4 hb⟩, box_below h.b0 hb, box_below h.b1 hb, h.bel.alloc h.bel.size _⟩
theorem Kd.new {w : World} {a : Option Addr} {n c : Nat} (h : Byt w a n) : Kd w a n c 0 (((w.alloc (.cells #[.int .i64 0, .int .i64 0, .int .i64 0, .int .i64 0, .int .i64 0, .int .i64 0, .int .i64 0, .int .i64 0] 33)).alloc (.cells #[.int .i64 0, .int .i64 0, .int .i64 0, .int .i64 0, .int .i64 0, .int .i64 0, .int .i64 0, .int .i64 0] 33)).alloc (.cells #[.slice a n c, .int .i64 0, .int .u64 0] 52)) := by
  have b1 := (Below.refl (w.alloc (.cells #[.int .i64 0, .int .i64 0, .int .i64 0, .int .i64 0, .int .i64 0, .int .i64 0, .int .i64 0, .int .i64 0] 33)).heap.size (w.alloc (.cells #[.int .i64 0, .int .i64 0, .int .i64 0, .int .i64 0, .int .i64 0, .int .i64 0, .int .i64 0, .int .i64 0] 33))).alloc (Nat.le_refl _) (.cells #[.int .i64 0, .int .i64 0, .int .i64 0, .int .i64 0, .int .i64 0, .int .i64 0, .int .i64 0, .int .i64 0] 33)
  have b2 := (Below.refl ((w.alloc (.cells #[.int .i64 0, .int .i64 0, .int .i64 0, .int .i64 0, .int .i64 0, .int .i64 0, .int .i64 0, .int .i64 0] 33)).alloc (.cells #[.int .i64 0, .int .i64 0, .int .i64 0, .int .i64 0, .int .i64 0, .int .i64 0, .int .i64 0, .int .i64 0] 33)).heap.size ((w.alloc (.cells #[.int .i64 0, .int .i64 0, .int .i64 0, .int .i64 0, .int .i64 0, .int .i64 0, .int .i64 0, .int .i64 0] 33)).alloc (.cells #[.int .i64 0, .int .i64 0, .int .i64 0, .int .i64 0, .int .i64 0, .int .i64 0, .int .i64 0, .int .i64 0] 33))).alloc (Nat.le_refl _) (.cells #[.slice a n c, .int .i64 0, .int .u64 0] 52)
  have e0 := box_below (box_below (heap_new w (.cells #[.int .i64 0, .int .i64 0, .int .i64 0, .int .i64 0, .int .i64 0, .int .i64 0, .int .i64 0, .int .i64 0] 33)) b1) b2
  have e1 := box_below (heap_new (w.alloc (.cells #[.int .i64 0, .int .i64 0, .int .i64 0, .int .i64 0, .int .i64 0, .int .i64 0, .int .i64 0, .int .i64 0] 33)) (.cells #[.int .i64 0, .int .i64 0, .int .i64 0, .int .i64 0, .int .i64 0, .int .i64 0, .int .i64 0, .int .i64 0] 33)) b2
  have e2 := heap_new ((w.alloc (.cells #[.int .i64 0, .int .i64 0, .int .i64 0, .int .i64 0, .int .i64 0, .int .i64 0, .int .i64 0, .int .i64 0] 33)).alloc (.cells #[.int .i64 0, .int .i64 0, .int .i64 0, .int .i64 0, .int .i64 0, .int .i64 0, .int .i64 0, .int .i64 0] 33)) (.cells #[.slice a n c, .int .i64 0, .int .u64 0] 52)
  have hb : Below w.heap.size w (((w.alloc (.cells #[.int .i64 0, .int .i64 0, .int .i64 0, .int .i64 0, .int .i64 0, .int .i64 0, .int .i64 0, .int .i64 0] 33)).alloc (.cells #[.int .i64 0, .int .i64 0, .int .i64 0, .int .i64 0, .int .i64 0, .int .i64 0, .int .i64 0, .int .i64 0] 33)).alloc (.cells #[.slice a n c, .int .i64 0, .int .u64 0] 52)) := (((Below.refl w.heap.size w).alloc (Nat.le_refl _) _).alloc (by simp) _).alloc (by simp; omega) _
  simp only [World.size_alloc] at e1 e2
  refine ⟨⟨⟨0, 0, Nat.le_refl _, by omega, by omega, e2⟩, ?_, by omega⟩, e0, e1, hb⟩
  rcases h with h | ⟨b, off, h1, h2, h3⟩
  · exact .inl h
  · exact .inr ⟨b, off, h1, h2, Nat.lt_of_lt_of_le h2 hb.size, fun i hi => by obtain ⟨z, z0, z1, hz⟩ := h3 i hi; exact ⟨z, z0, z1, (hb.cell (p := ⟨b, off + i, none⟩) h2).trans hz⟩⟩
theorem set_far {w : World} {b b' o : Nat} {u : Value} {x : Obj} (h : w.heap[b]? = some x) (hne : b' ≠ b) : (w.setCell ⟨b', o, none⟩ u).heap[b]? = some x := (Below.heap_setCell w ⟨b', o, none⟩ u b (by intro e; exact hne (by simpa using e.symm))).trans h
theorem set8_far {w : World} {b d : Nat} {z0 z1 z2 z3 z4 z5 z6 z7 : Int} {x : Obj} (h : w.heap[d]? = some x) (hne : b ≠ d) : ((((((((w.setCell ⟨b, 0, none⟩ (.int .i64 z0)).setCell ⟨b, 1, none⟩ (.int .i64 z1)).setCell ⟨b, 2, none⟩ (.int .i64 z2)).setCell ⟨b, 3, none⟩ (.int .i64 z3)).setCell ⟨b, 4, none⟩ (.int .i64 z4)).setCell ⟨b, 5, none⟩ (.int .i64 z5)).setCell ⟨b, 6, none⟩ (.int .i64 z6)).setCell ⟨b, 7, none⟩ (.int .i64 z7)).heap[d]? = some x := (set_far (o := 7) (u := .int .i64 z7) (set_far (o := 6) (u := .int .i64 z6) (set_far (o := 5) (u := .int .i64 z5) (set_far (o := 4) (u := .int .i64 z4) (set_far (o := 3) (u := .int .i64 z3) (set_far (o := 2) (u := .int .i64 z2) (set_far (o := 1) (u := .int .i64 z1) (set_far (o := 0) (u := .int .i64 z0) h hne) hne) hne) hne) hne) hne) hne) hne)
theorem s16_box {x0 x1 x2 x3 x4 x5 x6 x7 y0 y1 y2 y3 y4 y5 y6 y7 : Int} {A B : Nat} {w : World} (h1 : w.heap[A]? = some (.cells #[.int .i64 x0, .int .i64 x1, .int .i64 x2, .int .i64 x3, .int .i64 x4, .int .i64 x5, .int .i64 x6, .int .i64 x7] 33)) (h2 : w.heap[B]? = some (.cells #[.int .i64 y0, .int .i64 y1, .int .i64 y2, .int .i64 y3, .int .i64 y4, .int .i64 y5, .int .i64 y6, .int .i64 y7] 33)) : S16 A B x0 x1 x2 x3 x4 x5 x6 x7 y0 y1 y2 y3 y4 y5 y6 y7 w := ⟨cell_at h1 0, cell_at h1 1, cell_at h1 2, cell_at h1 3, cell_at h1 4, cell_at h1 5, cell_at h1 6, cell_at h1 7, cell_at h2 0, cell_at h2 1, cell_at h2 2, cell_at h2 3, cell_at h2 4, cell_at h2 5, cell_at h2 6, cell_at h2 7⟩

set_option maxRecDepth 100000 in
set_option maxHeartbeats 4000000 in
theorem f15 (n c : Nat) (a : Option Addr) (w : World) (hn : n ≤ 1048576) (hd : Byt w a n) :
    Calls Try.prog 15 #[.slice a n c] w fun e w' => ∃ x0 x1 x2 x3 x4 x5 x6 x7 y0 y1 y2 y3 y4 y5 y6 y7 : Int, e = .returned (.tuple #[valA ⟨x0, x1, x2, x3, x4, x5, x6, x7⟩, valA ⟨y0, y1, y2, y3, y4, y5, y6, y7⟩]) ∧ Below w.heap.size w w' := by
  obtain ⟨v, hv⟩ : ∃ v, v = ((w.alloc (.cells #[.int .i64 0, .int .i64 0, .int .i64 0, .int .i64 0, .int .i64 0, .int .i64 0, .int .i64 0, .int .i64 0] 33)).alloc (.cells #[.int .i64 0, .int .i64 0, .int .i64 0, .int .i64 0, .int .i64 0, .int .i64 0, .int .i64 0, .int .i64 0] 33)).alloc (.cells #[.slice a n c, .int .i64 0, .int .u64 0] 52) := ⟨_, rfl⟩
  have HK0 := hid (Kd.new (c := c) hd)
  rw [← hv] at HK0
  have HV := hid hv
  clear hd hv
  go_enter Try.func15, Try.ntmps15
  go_wp2_with fail
  simp only [← HV.out]
  clear HV
  refine (Cur.f27 _ _ n c _ a 20 _ HK0.out.cu (by omega) hn (by omega) (by omega)).mono ?_
  rintro e c1 ⟨x0, rfl, -, -, hc1, hg1⟩
  have HK1 := hid (HK0.out.step hc1 hg1)
  clear hc1 hg1 HK0
  go_wp2_with fail
  refine (Cur.f27 _ _ n c _ a 9 _ HK1.out.cu (by omega) hn (by omega) (by omega)).mono ?_
  rintro e c2 ⟨x1, rfl, -, -, hc2, hg2⟩
  have HK2 := hid (HK1.out.step hc2 hg2)
  clear hc2 hg2 HK1
  go_wp2_with fail
  refine (Cur.f44 _ _ n c _ a _ HK2.out.cu (by omega) hn).mono ?_
  rintro e c3 ⟨x2, rfl, -, -, hc3, hg3⟩
  have HK3 := hid (HK2.out.step hc3 hg3)
  clear hc3 hg3 HK2
  go_wp2_with fail
  refine (Cur.f44 _ _ n c _ a _ HK3.out.cu (by omega) hn).mono ?_
  rintro e c4 ⟨x3, rfl, -, -, hc4, hg4⟩
  have HK4 := hid (HK3.out.step hc4 hg4)
  clear hc4 hg4 HK3
  go_wp2_with fail
  refine (Cur.f44 _ _ n c _ a _ HK4.out.cu (by omega) hn).mono ?_
  rintro e c5 ⟨x4, rfl, -, -, hc5, hg5⟩
  have HK5 := hid (HK4.out.step hc5 hg5)
  clear hc5 hg5 HK4
  go_wp2_with fail
  refine (Cur.f44 _ _ n c _ a _ HK5.out.cu (by omega) hn).mono ?_
  rintro e c6 ⟨x5, rfl, -, -, hc6, hg6⟩
  have HK6 := hid (HK5.out.step hc6 hg6)
  clear hc6 hg6 HK5
  go_wp2_with fail
  refine (Cur.f44 _ _ n c _ a _ HK6.out.cu (by omega) hn).mono ?_
  rintro e c7 ⟨x6, rfl, -, -, hc7, hg7⟩
  have HK7 := hid (HK6.out.step hc7 hg7)
  clear hc7 hg7 HK6
  go_wp2_with fail
  refine (Cur.f44 _ _ n c _ a _ HK7.out.cu (by omega) hn).mono ?_
  rintro e c8 ⟨x7, rfl, -, -, hc8, hg8⟩
  have HK8 := hid (HK7.out.step hc8 hg8)
  clear hc8 hg8 HK7
  go_wp2_with fail
  have HA := hid (heap_new c8 (.cells #[.int .i64 x0, .int .i64 x1, .int .i64 x2, .int .i64 x3, .int .i64 x4, .int .i64 x5, .int .i64 x6, .int .i64 x7] 33))
  have HKA := hid (HK8.out.alloc (.cells #[.int .i64 x0, .int .i64 x1, .int .i64 x2, .int .i64 x3, .int .i64 x4, .int .i64 x5, .int .i64 x6, .int .i64 x7] 33))
  have hA : w.heap.size + 2 < c8.heap.size := HK8.out.lt
  generalize c8.alloc (.cells #[.int .i64 x0, .int .i64 x1, .int .i64 x2, .int .i64 x3, .int .i64 x4, .int .i64 x5, .int .i64 x6, .int .i64 x7] 33) = cA at *
  generalize c8.heap.size = A at *
  clear HK8
  refine (Cur.f27 _ _ n c _ a 40 _ HKA.out.cu (by omega) hn (by omega) (by omega)).mono ?_
  rintro e c9 ⟨y0, rfl, -, -, hc9, hg9⟩
  have HK9 := hid (HKA.out.step hc9 hg9)
  have HA9 := hid (grown_box HA.out hg9 (by omega))
  clear HA
  clear hc9 hg9 HKA
  go_wp2_with fail
  refine (Cur.f27 _ _ n c _ a 9 _ HK9.out.cu (by omega) hn (by omega) (by omega)).mono ?_
  rintro e c10 ⟨y1, rfl, -, -, hc10, hg10⟩
  have HK10 := hid (HK9.out.step hc10 hg10)
  have HA10 := hid (grown_box HA9.out hg10 (by omega))
  clear HA9
  clear hc10 hg10 HK9
  go_wp2_with fail
  refine (Cur.f44 _ _ n c _ a _ HK10.out.cu (by omega) hn).mono ?_
  rintro e c11 ⟨y2, rfl, -, -, hc11, hg11⟩
  have HK11 := hid (HK10.out.step hc11 hg11)
  have HA11 := hid (grown_box HA10.out hg11 (by omega))
  clear HA10
  clear hc11 hg11 HK10
  go_wp2_with fail
  refine (Cur.f44 _ _ n c _ a _ HK11.out.cu (by omega) hn).mono ?_
  rintro e c12 ⟨y3, rfl, -, -, hc12, hg12⟩
  have HK12 := hid (HK11.out.step hc12 hg12)
  have HA12 := hid (grown_box HA11.out hg12 (by omega))
  clear HA11
  clear hc12 hg12 HK11
  go_wp2_with fail
  refine (Cur.f44 _ _ n c _ a _ HK12.out.cu (by omega) hn).mono ?_
  rintro e c13 ⟨y4, rfl, -, -, hc13, hg13⟩
  have HK13 := hid (HK12.out.step hc13 hg13)
  have HA13 := hid (grown_box HA12.out hg13 (by omega))
  clear HA12
  clear hc13 hg13 HK12
  go_wp2_with fail
  refine (Cur.f44 _ _ n c _ a _ HK13.out.cu (by omega) hn).mono ?_
  rintro e c14 ⟨y5, rfl, -, -, hc14, hg14⟩
  have HK14 := hid (HK13.out.step hc14 hg14)
  have HA14 := hid (grown_box HA13.out hg14 (by omega))
  clear HA13
  clear hc14 hg14 HK13
  go_wp2_with fail
  refine (Cur.f44 _ _ n c _ a _ HK14.out.cu (by omega) hn).mono ?_
  rintro e c15 ⟨y6, rfl, -, -, hc15, hg15⟩
  have HK15 := hid (HK14.out.step hc15 hg15)
  have HA15 := hid (grown_box HA14.out hg15 (by omega))
  clear HA14
  clear hc15 hg15 HK14
  go_wp2_with fail
  refine (Cur.f44 _ _ n c _ a _ HK15.out.cu (by omega) hn).mono ?_
  rintro e c16 ⟨y7, rfl, -, -, hc16, hg16⟩
  have HK16 := hid (HK15.out.step hc16 hg16)
  have HA16 := hid (grown_box HA15.out hg16 (by omega))
  clear HA15
  clear hc16 hg16 HK15
  go_wp2_with fail
  have HBx := hid (heap_new c16 (.cells #[.int .i64 y0, .int .i64 y1, .int .i64 y2, .int .i64 y3, .int .i64 y4, .int .i64 y5, .int .i64 y6, .int .i64 y7] 33))
  have HKB := hid (HK16.out.alloc (.cells #[.int .i64 y0, .int .i64 y1, .int .i64 y2, .int .i64 y3, .int .i64 y4, .int .i64 y5, .int .i64 y6, .int .i64 y7] 33))
  have hB : w.heap.size + 2 < c16.heap.size := HK16.out.lt
  have HAB := hid (box_below HA16.out ((Below.refl _ c16).alloc (Nat.le_refl _) (.cells #[.int .i64 y0, .int .i64 y1, .int .i64 y2, .int .i64 y3, .int .i64 y4, .int .i64 y5, .int .i64 y6, .int .i64 y7] 33)))
  generalize c16.alloc (.cells #[.int .i64 y0, .int .i64 y1, .int .i64 y2, .int .i64 y3, .int .i64 y4, .int .i64 y5, .int .i64 y6, .int .i64 y7] 33) = cB at *
  generalize c16.heap.size = B at *
  clear HK16 HA16
  have hdr : Below cB.heap.size cB cB.drew := (Below.refl _ _).drew
  refine wp_region_held_drew (S := fun x => S16 A B x0 x1 x2 x3 x4 x5 x6 x7 y0 y1 y2 y3 y4 y5 y6 y7 x) rfl (s16_box (box_below HAB.out hdr) (box_below HBx.out hdr)) (fun hHeld => ?_)
  refine wpAnyH_take (i := 0) (oi := { dst := some 44, op := _, type := _, pos := _, after := _, guard := _ }) (v := .agg #[.int .i64 x0, .int .i64 x1, .int .i64 x2, .int .i64 x3, .int .i64 x4, .int .i64 x5, .int .i64 x6, .int .i64 x7]) rfl (by kernel_rfl) (by kernel_rfl) (by kernel_rfl) (fun _ _ _ h => h) (Or.inl ⟨by rfl, fun w hSw => by (try dsimp only at hSw); go_split_ands; go_simp⟩) (by assumption) ?_
  simp only [Act.put, List.setIfInBounds_toArray, List.set_cons_zero, List.set_cons_succ]
  refine wpAnyH_take (i := 1) (oi := { dst := some 45, op := _, type := _, pos := _, after := _, guard := _ }) (v := .agg #[.int .i64 y0, .int .i64 y1, .int .i64 y2, .int .i64 y3, .int .i64 y4, .int .i64 y5, .int .i64 y6, .int .i64 y7]) rfl (by kernel_rfl) (by kernel_rfl) (by kernel_rfl) (fun _ _ _ h => h) (Or.inl ⟨by rfl, fun w hSw => by (try dsimp only at hSw); go_split_ands; go_simp⟩) (by assumption) ?_
  simp only [Act.put, List.setIfInBounds_toArray, List.set_cons_zero, List.set_cons_succ]
  have h20 := box_below HKB.out.b0 hdr
  have h30 := box_below HKB.out.b1 hdr
  have hA0 := box_below HAB.out hdr
  have hB0 := box_below HBx.out hdr
  have hbel : Below w.heap.size w cB.drew := HKB.out.bel.drew
  generalize cB.drew = d0 at *
  have hx0 := cell_at h20 0
  have hf0 := froz_at h20 0
  have hx1 := cell_at h20 1
  have hf1 := froz_at h20 1
  have hx2 := cell_at h20 2
  have hf2 := froz_at h20 2
  have hx3 := cell_at h20 3
  have hf3 := froz_at h20 3
  have hx4 := cell_at h20 4
  have hf4 := froz_at h20 4
  have hx5 := cell_at h20 5
  have hf5 := froz_at h20 5
  have hx6 := cell_at h20 6
  have hf6 := froz_at h20 6
  have hx7 := cell_at h20 7
  have hf7 := froz_at h20 7
  have HS2 := hid (bx_set (z0 := x0) (z1 := x1) (z2 := x2) (z3 := x3) (z4 := x4) (z5 := x5) (z6 := x6) (z7 := x7) h20 (Nat.le_refl _) hbel)
  have HS3 := hid (set8_far (z0 := x0) (z1 := x1) (z2 := x2) (z3 := x3) (z4 := x4) (z5 := x5) (z6 := x6) (z7 := x7) h30 (show w.heap.size ≠ w.heap.size + 1 by omega))
  have HSA := hid (set8_far (z0 := x0) (z1 := x1) (z2 := x2) (z3 := x3) (z4 := x4) (z5 := x5) (z6 := x6) (z7 := x7) hA0 (show w.heap.size ≠ A by omega))
  have HSB := hid (set8_far (z0 := x0) (z1 := x1) (z2 := x2) (z3 := x3) (z4 := x4) (z5 := x5) (z6 := x6) (z7 := x7) hB0 (show w.heap.size ≠ B by omega))
  refine wpAnyH_ready (rs := [2]) (by kernel_rfl) (by simp) (AllReadyH.cons (o := { dst := none, op := _, type := _, pos := _, after := _, guard := _ }) rfl ?_ AllReadyH.nil)
  intro K1 hK1
  go_simp
  refine hK1.out _ _ (s16_box HSA.out HSB.out) (fun _ => ?_)
  clear hK1 K1
  generalize ((((((((d0.setCell ⟨w.heap.size, 0, none⟩ (.int .i64 x0)).setCell ⟨w.heap.size, 1, none⟩ (.int .i64 x1)).setCell ⟨w.heap.size, 2, none⟩ (.int .i64 x2)).setCell ⟨w.heap.size, 3, none⟩ (.int .i64 x3)).setCell ⟨w.heap.size, 4, none⟩ (.int .i64 x4)).setCell ⟨w.heap.size, 5, none⟩ (.int .i64 x5)).setCell ⟨w.heap.size, 6, none⟩ (.int .i64 x6)).setCell ⟨w.heap.size, 7, none⟩ (.int .i64 x7)) = d1 at *
  clear hx0 hf0 hx1 hf1 hx2 hf2 hx3 hf3 hx4 hf4 hx5 hf5 hx6 hf6 hx7 hf7
  have hx0 := cell_at HS3.out 0
  have hf0 := froz_at HS3.out 0
  have hx1 := cell_at HS3.out 1
  have hf1 := froz_at HS3.out 1
  have hx2 := cell_at HS3.out 2
  have hf2 := froz_at HS3.out 2
  have hx3 := cell_at HS3.out 3
  have hf3 := froz_at HS3.out 3
  have hx4 := cell_at HS3.out 4
  have hf4 := froz_at HS3.out 4
  have hx5 := cell_at HS3.out 5
  have hf5 := froz_at HS3.out 5
  have hx6 := cell_at HS3.out 6
  have hf6 := froz_at HS3.out 6
  have hx7 := cell_at HS3.out 7
  have hf7 := froz_at HS3.out 7
  have HT3 := hid (bx_set (z0 := y0) (z1 := y1) (z2 := y2) (z3 := y3) (z4 := y4) (z5 := y5) (z6 := y6) (z7 := y7) HS3.out (show w.heap.size ≤ w.heap.size + 1 by omega) HS2.out.bel)
  have HT2 := hid (set8_far (z0 := y0) (z1 := y1) (z2 := y2) (z3 := y3) (z4 := y4) (z5 := y5) (z6 := y6) (z7 := y7) HS2.out.x (show w.heap.size + 1 ≠ w.heap.size by omega))
  have HTA := hid (set8_far (z0 := y0) (z1 := y1) (z2 := y2) (z3 := y3) (z4 := y4) (z5 := y5) (z6 := y6) (z7 := y7) HSA.out (show w.heap.size + 1 ≠ A by omega))
  have HTB := hid (set8_far (z0 := y0) (z1 := y1) (z2 := y2) (z3 := y3) (z4 := y4) (z5 := y5) (z6 := y6) (z7 := y7) HSB.out (show w.heap.size + 1 ≠ B by omega))
  refine wpAnyH_ready (rs := [3]) (by kernel_rfl) (by simp) (AllReadyH.cons (o := { dst := none, op := _, type := _, pos := _, after := _, guard := _ }) rfl ?_ AllReadyH.nil)
  intro K2 hK2
  go_simp
  refine hK2.out _ _ (s16_box HTA.out HTB.out) (fun _ => ?_)
  clear hK2 K2
  generalize ((((((((d1.setCell ⟨w.heap.size + 1, 0, none⟩ (.int .i64 y0)).setCell ⟨w.heap.size + 1, 1, none⟩ (.int .i64 y1)).setCell ⟨w.heap.size + 1, 2, none⟩ (.int .i64 y2)).setCell ⟨w.heap.size + 1, 3, none⟩ (.int .i64 y3)).setCell ⟨w.heap.size + 1, 4, none⟩ (.int .i64 y4)).setCell ⟨w.heap.size + 1, 5, none⟩ (.int .i64 y5)).setCell ⟨w.heap.size + 1, 6, none⟩ (.int .i64 y6)).setCell ⟨w.heap.size + 1, 7, none⟩ (.int .i64 y7)) = d2 at *
  clear hx0 hf0 hx1 hf1 hx2 hf2 hx3 hf3 hx4 hf4 hx5 hf5 hx6 hf6 hx7 hf7
  refine wpAnyH_done (by kernel_rfl) ?_ _
  have i0 := cell_at HT2.out 0
  have j0 := cell_at HT3.out.x 0
  have i1 := cell_at HT2.out 1
  have j1 := cell_at HT3.out.x 1
  have i2 := cell_at HT2.out 2
  have j2 := cell_at HT3.out.x 2
  have i3 := cell_at HT2.out 3
  have j3 := cell_at HT3.out.x 3
  have i4 := cell_at HT2.out 4
  have j4 := cell_at HT3.out.x 4
  have i5 := cell_at HT2.out 5
  have j5 := cell_at HT3.out.x 5
  have i6 := cell_at HT2.out 6
  have j6 := cell_at HT3.out.x 6
  have i7 := cell_at HT2.out 7
  have j7 := cell_at HT3.out.x 7
  go_wp2
  refine bodyPost_ret (v := .tuple #[valA ⟨x0, x1, x2, x3, x4, x5, x6, x7⟩, valA ⟨y0, y1, y2, y3, y4, y5, y6, y7⟩]) ?_ rfl ⟨x0, x1, x2, x3, x4, x5, x6, x7, y0, y1, y2, y3, y4, y5, y6, y7, rfl, HT3.out.bel⟩
  simp [results, Try.results15, go_sem, valA, i0, j0, i1, j1, i2, j2, i3, j3, i4, j4, i5, j5, i6, j6, i7, j7]
end Go.Proofs.Ytaedgekdhpiieaa.Agl
