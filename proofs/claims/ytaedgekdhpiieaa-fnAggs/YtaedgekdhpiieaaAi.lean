/- The walk of FnAggs. -/
import Derived.Test.YtaedgekdhpiieaaAh
namespace Go.Proofs.Ytaedgekdhpiieaa.Agl
open Go.RowKit

theorem mrg_assoc (a b c : Ag) : mrg (mrg a b) c = mrg a (mrg b c) := by
  unfold mrg
  simp only [Ag.mk.injEq]
  refine ⟨trivial, ?_, ?_, by omega, by omega, trivial, trivial, ?_⟩
  · unfold wrap64; omega
  · unfold wrap64; omega
  · generalize rise a.l b.f = x
    generalize rise b.l c.f = y
    unfold wrap64; omega
theorem g_agg : Try.prog.eqGuardType Try.prog.depth 33 = false := by kernel_rfl
theorem eqlAgg (x0 x1 x2 x3 x4 x5 x6 x7 : Int) (w : World) : (binOp .eql 33 (.agg #[.int .i64 x0, .int .i64 x1, .int .i64 x2, .int .i64 x3, .int .i64 x4, .int .i64 x5, .int .i64 x6, .int .i64 x7]) (.agg #[.int .i64 x0, .int .i64 x1, .int .i64 x2, .int .i64 x3, .int .i64 x4, .int .i64 x5, .int .i64 x6, .int .i64 x7])).run Try.prog w = .ok (.bool true) w := by
  rw [run_eql_struct, show (10000 : Nat) = 9999 + 1 from rfl, run_equalIn_agg w 9999 33 _ _ (by kernel_rfl) (by kernel_rfl)]
  have hu := Try.underlying33
  have h3 := Try.underlying3
  simp only [Program.fieldsOf, hu]
  simp [go_sem, h3, Op.eqFields, part]
abbrev S24 (A B C : Nat) (x0 x1 x2 x3 x4 x5 x6 x7 y0 y1 y2 y3 y4 y5 y6 y7 u0 u1 u2 u3 u4 u5 u6 u7 : Int) (w' : World) : Prop := w'.cell? ⟨A, 0, none⟩ = some (.int .i64 x0) ∧ w'.cell? ⟨A, 1, none⟩ = some (.int .i64 x1) ∧ w'.cell? ⟨A, 2, none⟩ = some (.int .i64 x2) ∧ w'.cell? ⟨A, 3, none⟩ = some (.int .i64 x3) ∧ w'.cell? ⟨A, 4, none⟩ = some (.int .i64 x4) ∧ w'.cell? ⟨A, 5, none⟩ = some (.int .i64 x5) ∧ w'.cell? ⟨A, 6, none⟩ = some (.int .i64 x6) ∧ w'.cell? ⟨A, 7, none⟩ = some (.int .i64 x7) ∧ w'.cell? ⟨B, 0, none⟩ = some (.int .i64 y0) ∧ w'.cell? ⟨B, 1, none⟩ = some (.int .i64 y1) ∧ w'.cell? ⟨B, 2, none⟩ = some (.int .i64 y2) ∧ w'.cell? ⟨B, 3, none⟩ = some (.int .i64 y3) ∧ w'.cell? ⟨B, 4, none⟩ = some (.int .i64 y4) ∧ w'.cell? ⟨B, 5, none⟩ = some (.int .i64 y5) ∧ w'.cell? ⟨B, 6, none⟩ = some (.int .i64 y6) ∧ w'.cell? ⟨B, 7, none⟩ = some (.int .i64 y7) ∧ w'.cell? ⟨C, 0, none⟩ = some (.int .i64 u0) ∧ w'.cell? ⟨C, 1, none⟩ = some (.int .i64 u1) ∧ w'.cell? ⟨C, 2, none⟩ = some (.int .i64 u2) ∧ w'.cell? ⟨C, 3, none⟩ = some (.int .i64 u3) ∧ w'.cell? ⟨C, 4, none⟩ = some (.int .i64 u4) ∧ w'.cell? ⟨C, 5, none⟩ = some (.int .i64 u5) ∧ w'.cell? ⟨C, 6, none⟩ = some (.int .i64 u6) ∧ w'.cell? ⟨C, 7, none⟩ = some (.int .i64 u7)
theorem s24_of {x0 x1 x2 x3 x4 x5 x6 x7 y0 y1 y2 y3 y4 y5 y6 y7 u0 u1 u2 u3 u4 u5 u6 u7 : Int} {A B C : Nat} {w : World} (h1 : w.heap[A]? = some (.cells #[.int .i64 x0, .int .i64 x1, .int .i64 x2, .int .i64 x3, .int .i64 x4, .int .i64 x5, .int .i64 x6, .int .i64 x7] 33)) (h2 : w.heap[B]? = some (.cells #[.int .i64 y0, .int .i64 y1, .int .i64 y2, .int .i64 y3, .int .i64 y4, .int .i64 y5, .int .i64 y6, .int .i64 y7] 33)) (h3 : w.heap[C]? = some (.cells #[.int .i64 u0, .int .i64 u1, .int .i64 u2, .int .i64 u3, .int .i64 u4, .int .i64 u5, .int .i64 u6, .int .i64 u7] 33)) : S24 A B C x0 x1 x2 x3 x4 x5 x6 x7 y0 y1 y2 y3 y4 y5 y6 y7 u0 u1 u2 u3 u4 u5 u6 u7 w := ⟨cell_at h1 0, cell_at h1 1, cell_at h1 2, cell_at h1 3, cell_at h1 4, cell_at h1 5, cell_at h1 6, cell_at h1 7, cell_at h2 0, cell_at h2 1, cell_at h2 2, cell_at h2 3, cell_at h2 4, cell_at h2 5, cell_at h2 6, cell_at h2 7, cell_at h3 0, cell_at h3 1, cell_at h3 2, cell_at h3 3, cell_at h3 4, cell_at h3 5, cell_at h3 6, cell_at h3 7⟩

set_option maxRecDepth 100000 in
set_option maxHeartbeats 4000000 in
theorem walkAggs (a0 a1 : Option Addr) (n0 n1 c0 c1 : Nat) (w : World) (b0 : Byt w a0 n0) (b1 : Byt w a1 n1) (m0 : n0 ≤ maxLen) (m1 : n1 ≤ maxLen) :
    Calls Try.prog 4 #[.slice a0 n0 c0, .slice a1 n1 c1] w fun e w' => e = .returned (.bool true) ∧ Below w.heap.size w w' := by
  unfold maxLen at m0 m1
  by_cases h0 : n0 ≤ 1048576
  rotate_left
  · go_enter Try.func4, Try.ntmps4
    go_wp2
    go_ret
    exact ⟨rfl, Below.refl _ _⟩
  by_cases h1 : n1 ≤ 1048576
  rotate_left
  · go_enter Try.func4, Try.ntmps4
    go_wp2
    go_ret
    exact ⟨rfl, Below.refl _ _⟩
  have HB1 := hid b1
  clear b1
  go_enter Try.func4, Try.ntmps4
  go_wp2_with fail
  refine (f15 n0 c0 a0 _ h0 b0).mono ?_
  rintro e w1 ⟨x0, x1, x2, x3, x4, x5, x6, x7, y0, y1, y2, y3, y4, y5, y6, y7, rfl, hb1⟩
  have HX1 := hid hb1
  have HB2 := hid (HB1.out.below hb1)
  clear hb1 b0 HB1
  unfold valA
  simp only
  have hA := heap_new w1 (.cells #[.int .i64 x0, .int .i64 x1, .int .i64 x2, .int .i64 x3, .int .i64 x4, .int .i64 x5, .int .i64 x6, .int .i64 x7] 33)
  have hal := (Below.refl _ (w1.alloc (.cells #[.int .i64 x0, .int .i64 x1, .int .i64 x2, .int .i64 x3, .int .i64 x4, .int .i64 x5, .int .i64 x6, .int .i64 x7] 33))).alloc (Nat.le_refl _) (.cells #[.int .i64 y0, .int .i64 y1, .int .i64 y2, .int .i64 y3, .int .i64 y4, .int .i64 y5, .int .i64 y6, .int .i64 y7] 33)
  have HA2 := hid (box_below hA hal)
  have hB := heap_new (w1.alloc (.cells #[.int .i64 x0, .int .i64 x1, .int .i64 x2, .int .i64 x3, .int .i64 x4, .int .i64 x5, .int .i64 x6, .int .i64 x7] 33)) (.cells #[.int .i64 y0, .int .i64 y1, .int .i64 y2, .int .i64 y3, .int .i64 y4, .int .i64 y5, .int .i64 y6, .int .i64 y7] 33)
  simp only [World.size_alloc] at hB
  have HBx2 := hid hB
  have HX2 := hid ((HX1.out.alloc HX1.out.size (.cells #[.int .i64 x0, .int .i64 x1, .int .i64 x2, .int .i64 x3, .int .i64 x4, .int .i64 x5, .int .i64 x6, .int .i64 x7] 33)).alloc (by have := HX1.out.size; simp; omega) (.cells #[.int .i64 y0, .int .i64 y1, .int .i64 y2, .int .i64 y3, .int .i64 y4, .int .i64 y5, .int .i64 y6, .int .i64 y7] 33))
  have HD2 := hid ((HB2.out.below ((Below.refl _ w1).alloc (Nat.le_refl _) (.cells #[.int .i64 x0, .int .i64 x1, .int .i64 x2, .int .i64 x3, .int .i64 x4, .int .i64 x5, .int .i64 x6, .int .i64 x7] 33))).below hal)
  clear hA hal hB HB2 HX1
  obtain ⟨w2, hw2⟩ : ∃ w2, w2 = (w1.alloc (.cells #[.int .i64 x0, .int .i64 x1, .int .i64 x2, .int .i64 x3, .int .i64 x4, .int .i64 x5, .int .i64 x6, .int .i64 x7] 33)).alloc (.cells #[.int .i64 y0, .int .i64 y1, .int .i64 y2, .int .i64 y3, .int .i64 y4, .int .i64 y5, .int .i64 y6, .int .i64 y7] 33) := ⟨_, rfl⟩
  rw [← hw2] at HA2 HBx2 HX2 HD2
  have HW2 := hid hw2
  clear hw2
  go_wp2_with fail
  rw [← HW2.out]
  clear HW2
  refine (f15 n1 c1 a1 _ h1 HD2.out).mono ?_
  rintro e w3 ⟨u0, u1, u2, u3, u4, u5, u6, u7, v0, v1, v2, v3, v4, v5, v6, v7, rfl, hb3⟩
  have HX3 := hid (HX2.out.trans (hb3.mono HX2.out.size))
  have HA3 := hid (box_below HA2.out hb3)
  have HBx3 := hid (box_below HBx2.out hb3)
  clear hb3 HA2 HBx2 HX2 HD2
  unfold valA
  simp only
  have hal1 := (Below.refl _ w3).alloc (Nat.le_refl _) (.cells #[.int .i64 u0, .int .i64 u1, .int .i64 u2, .int .i64 u3, .int .i64 u4, .int .i64 u5, .int .i64 u6, .int .i64 u7] 33)
  have hal2 := (Below.refl _ (w3.alloc (.cells #[.int .i64 u0, .int .i64 u1, .int .i64 u2, .int .i64 u3, .int .i64 u4, .int .i64 u5, .int .i64 u6, .int .i64 u7] 33))).alloc (Nat.le_refl _) (.cells #[.int .i64 v0, .int .i64 v1, .int .i64 v2, .int .i64 v3, .int .i64 v4, .int .i64 v5, .int .i64 v6, .int .i64 v7] 33)
  have HA4 := hid (box_below (box_below HA3.out hal1) hal2)
  have HBx4 := hid (box_below (box_below HBx3.out hal1) hal2)
  have HC4 := hid (box_below (heap_new w3 (.cells #[.int .i64 u0, .int .i64 u1, .int .i64 u2, .int .i64 u3, .int .i64 u4, .int .i64 u5, .int .i64 u6, .int .i64 u7] 33)) hal2)
  have HX4 := hid ((HX3.out.alloc HX3.out.size (.cells #[.int .i64 u0, .int .i64 u1, .int .i64 u2, .int .i64 u3, .int .i64 u4, .int .i64 u5, .int .i64 u6, .int .i64 u7] 33)).alloc (by have := HX3.out.size; simp; omega) (.cells #[.int .i64 v0, .int .i64 v1, .int .i64 v2, .int .i64 v3, .int .i64 v4, .int .i64 v5, .int .i64 v6, .int .i64 v7] 33))
  clear hal1 hal2 HA3 HBx3 HX3
  generalize w1.heap.size = A at *
  obtain ⟨w4, hw4⟩ : ∃ w4, w4 = (w3.alloc (.cells #[.int .i64 u0, .int .i64 u1, .int .i64 u2, .int .i64 u3, .int .i64 u4, .int .i64 u5, .int .i64 u6, .int .i64 u7] 33)).alloc (.cells #[.int .i64 v0, .int .i64 v1, .int .i64 v2, .int .i64 v3, .int .i64 v4, .int .i64 v5, .int .i64 v6, .int .i64 v7] 33) := ⟨_, rfl⟩
  rw [← hw4] at HA4 HBx4 HC4 HX4
  have HW4 := hid hw4
  clear hw4
  have HSB : Hid (∀ x, Below w4.heap.size w4 x → S24 A (A + 1) w3.heap.size x0 x1 x2 x3 x4 x5 x6 x7 y0 y1 y2 y3 y4 y5 y6 y7 u0 u1 u2 u3 u4 u5 u6 u7 x) := fun x hx => s24_of (box_below HA4.out hx) (box_below HBx4.out hx) (box_below HC4.out hx)
  have HI1 := fun x => hid (f16 x0 x1 x2 x3 x4 x5 x6 x7 y0 y1 y2 y3 y4 y5 y6 y7 x)
  have HS1 := fun x => hid (f17 x0 x1 x2 x3 x4 x5 x6 x7 y0 y1 y2 y3 y4 y5 y6 y7 x)
  have HI2 := fun x => hid (f16 y0 y1 y2 y3 y4 y5 y6 y7 u0 u1 u2 u3 u4 u5 u6 u7 x)
  have Hm := hid (mrg_assoc ⟨x0, x1, x2, x3, x4, x5, x6, x7⟩ ⟨y0, y1, y2, y3, y4, y5, y6, y7⟩ ⟨u0, u1, u2, u3, u4, u5, u6, u7⟩)
  generalize mrg ⟨x0, x1, x2, x3, x4, x5, x6, x7⟩ ⟨y0, y1, y2, y3, y4, y5, y6, y7⟩ = p at *
  generalize mrg ⟨y0, y1, y2, y3, y4, y5, y6, y7⟩ ⟨u0, u1, u2, u3, u4, u5, u6, u7⟩ = q at *
  obtain ⟨l0, l1, l2, l3, l4, l5, l6, l7⟩ := p
  obtain ⟨m0, m1, m2, m3, m4, m5, m6, m7⟩ := q
  have HI3 := fun x => hid (f16 l0 l1 l2 l3 l4 l5 l6 l7 u0 u1 u2 u3 u4 u5 u6 u7 x)
  have HI4 := fun x => hid (f16 x0 x1 x2 x3 x4 x5 x6 x7 m0 m1 m2 m3 m4 m5 m6 m7 x)
  rw [← Hm.out] at HI4
  generalize mrg ⟨l0, l1, l2, l3, l4, l5, l6, l7⟩ ⟨u0, u1, u2, u3, u4, u5, u6, u7⟩ = r at *
  obtain ⟨n0, n1, n2, n3, n4, n5, n6, n7⟩ := r
  unfold valA at HI1 HS1 HI2 HI3 HI4
  simp only at HI1 HS1 HI2 HI3 HI4
  have he1 := fun w' => eqlAgg l0 l1 l2 l3 l4 l5 l6 l7 w'
  have he2 := fun w' => eqlAgg n0 n1 n2 n3 n4 n5 n6 n7 w'
  have hg := g_agg
  go_wp2_with fail
  rw [← HW4.out]
  clear HW4
  generalize w3.heap.size = C at *
  refine wp_region_held_drew (S := fun x => S24 A (A + 1) C x0 x1 x2 x3 x4 x5 x6 x7 y0 y1 y2 y3 y4 y5 y6 y7 u0 u1 u2 u3 u4 u5 u6 u7 x) rfl (HSB.out _ (Below.refl _ _).drew) (fun hHeld => ?_)
  have hd0 : Below w4.heap.size w4 w4.drew := (Below.refl _ _).drew
  refine wpAnyH_take (i := 0) (oi := { dst := some 27, op := _, type := _, pos := _, after := _, guard := _ }) (v := .agg #[.int .i64 x0, .int .i64 x1, .int .i64 x2, .int .i64 x3, .int .i64 x4, .int .i64 x5, .int .i64 x6, .int .i64 x7]) rfl (by kernel_rfl) (by kernel_rfl) (by kernel_rfl) (fun _ _ _ h => h) (Or.inl ⟨by rfl, fun w hSw => by (try dsimp only at hSw); go_split_ands; go_simp⟩) (by assumption) ?_
  simp only [Act.put, List.setIfInBounds_toArray, List.set_cons_zero, List.set_cons_succ]
  refine wpAnyH_take (i := 1) (oi := { dst := some 28, op := _, type := _, pos := _, after := _, guard := _ }) (v := .agg #[.int .i64 y0, .int .i64 y1, .int .i64 y2, .int .i64 y3, .int .i64 y4, .int .i64 y5, .int .i64 y6, .int .i64 y7]) rfl (by kernel_rfl) (by kernel_rfl) (by kernel_rfl) (fun _ _ _ h => h) (Or.inl ⟨by rfl, fun w hSw => by (try dsimp only at hSw); go_split_ands; go_simp⟩) (by assumption) ?_
  simp only [Act.put, List.setIfInBounds_toArray, List.set_cons_zero, List.set_cons_succ]
  refine wpAnyH_take (i := 3) (oi := { dst := some 30, op := _, type := _, pos := _, after := _, guard := _ }) (v := .agg #[.int .i64 x0, .int .i64 x1, .int .i64 x2, .int .i64 x3, .int .i64 x4, .int .i64 x5, .int .i64 x6, .int .i64 x7]) rfl (by kernel_rfl) (by kernel_rfl) (by kernel_rfl) (fun _ _ _ h => h) (Or.inl ⟨by rfl, fun w hSw => by (try dsimp only at hSw); go_split_ands; go_simp⟩) (by assumption) ?_
  simp only [Act.put, List.setIfInBounds_toArray, List.set_cons_zero, List.set_cons_succ]
  refine wpAnyH_take (i := 4) (oi := { dst := some 31, op := _, type := _, pos := _, after := _, guard := _ }) (v := .agg #[.int .i64 y0, .int .i64 y1, .int .i64 y2, .int .i64 y3, .int .i64 y4, .int .i64 y5, .int .i64 y6, .int .i64 y7]) rfl (by kernel_rfl) (by kernel_rfl) (by kernel_rfl) (fun _ _ _ h => h) (Or.inl ⟨by rfl, fun w hSw => by (try dsimp only at hSw); go_split_ands; go_simp⟩) (by assumption) ?_
  simp only [Act.put, List.setIfInBounds_toArray, List.set_cons_zero, List.set_cons_succ]
  generalize w4.drew = d0 at *
  refine wpAnyH_ready (rs := [2]) (by kernel_rfl) (by simp) (AllReadyH.cons (o := { dst := some 29, op := _, type := _, pos := _, after := _, guard := _ }) rfl ?_ AllReadyH.nil)
  intro K1 hK1
  go_simp
  go_wp2_with (go_at_call 16; refine (HI1 _).out.mono ?_; rintro e c1 ⟨rfl, hb1⟩)
  have hc1 : Below w4.heap.size w4 c1 := hd0.trans (hb1.mono hd0.size)
  refine hK1.out _ _ (HSB.out _ hc1) (fun hHeld => ?_)
  clear hK1 K1
  refine wpAnyH_ready (rs := [5]) (by kernel_rfl) (by simp) (AllReadyH.cons (o := { dst := some 32, op := _, type := _, pos := _, after := _, guard := _ }) rfl ?_ AllReadyH.nil)
  intro K2 hK2
  go_simp
  go_wp2_with (go_at_call 17; refine (HS1 _).out.mono ?_; rintro e c2 ⟨rfl, hb2⟩)
  have hc2 : Below w4.heap.size w4 c2 := hc1.trans (hb2.mono hc1.size)
  refine hK2.out _ _ (HSB.out _ hc2) (fun hHeld => ?_)
  clear hK2 K2
  refine wpAnyH_take (i := 6) (oi := { dst := some 33, op := _, type := _, pos := _, after := _, guard := _ }) (v := .bool true) rfl (by kernel_rfl) (by kernel_rfl) (by kernel_rfl) (fun _ _ _ h => h) (Or.inl ⟨by rfl, fun w hSw => by (try dsimp only at hSw); go_split_ands; go_simp⟩) (by assumption) ?_
  simp only [Act.put, List.setIfInBounds_toArray, List.set_cons_zero, List.set_cons_succ]
  refine wpAnyH_take (i := 7) (oi := { dst := some 34, op := _, type := _, pos := _, after := _, guard := _ }) (v := .bool true) rfl (by kernel_rfl) (by kernel_rfl) (by kernel_rfl) (fun _ _ _ h => h) (Or.inl ⟨by rfl, fun w hSw => by (try dsimp only at hSw); go_split_ands; go_simp⟩) (by assumption) ?_
  simp only [Act.put, List.setIfInBounds_toArray, List.set_cons_zero, List.set_cons_succ]
  refine wpAnyH_take (i := 8) (oi := { dst := some 35, op := _, type := _, pos := _, after := _, guard := _ }) (v := .agg #[.int .i64 x0, .int .i64 x1, .int .i64 x2, .int .i64 x3, .int .i64 x4, .int .i64 x5, .int .i64 x6, .int .i64 x7]) rfl (by kernel_rfl) (by kernel_rfl) (by kernel_rfl) (fun _ _ _ h => h) (Or.inl ⟨by rfl, fun w hSw => by (try dsimp only at hSw); go_split_ands; go_simp⟩) (by assumption) ?_
  simp only [Act.put, List.setIfInBounds_toArray, List.set_cons_zero, List.set_cons_succ]
  refine wpAnyH_take (i := 9) (oi := { dst := some 36, op := _, type := _, pos := _, after := _, guard := _ }) (v := .agg #[.int .i64 y0, .int .i64 y1, .int .i64 y2, .int .i64 y3, .int .i64 y4, .int .i64 y5, .int .i64 y6, .int .i64 y7]) rfl (by kernel_rfl) (by kernel_rfl) (by kernel_rfl) (fun _ _ _ h => h) (Or.inl ⟨by rfl, fun w hSw => by (try dsimp only at hSw); go_split_ands; go_simp⟩) (by assumption) ?_
  simp only [Act.put, List.setIfInBounds_toArray, List.set_cons_zero, List.set_cons_succ]
  refine wpAnyH_take (i := 11) (oi := { dst := some 38, op := _, type := _, pos := _, after := _, guard := _ }) (v := .agg #[.int .i64 u0, .int .i64 u1, .int .i64 u2, .int .i64 u3, .int .i64 u4, .int .i64 u5, .int .i64 u6, .int .i64 u7]) rfl (by kernel_rfl) (by kernel_rfl) (by kernel_rfl) (fun _ _ _ h => h) (Or.inl ⟨by rfl, fun w hSw => by (try dsimp only at hSw); go_split_ands; go_simp⟩) (by assumption) ?_
  simp only [Act.put, List.setIfInBounds_toArray, List.set_cons_zero, List.set_cons_succ]
  refine wpAnyH_take (i := 13) (oi := { dst := some 40, op := _, type := _, pos := _, after := _, guard := _ }) (v := .agg #[.int .i64 x0, .int .i64 x1, .int .i64 x2, .int .i64 x3, .int .i64 x4, .int .i64 x5, .int .i64 x6, .int .i64 x7]) rfl (by kernel_rfl) (by kernel_rfl) (by kernel_rfl) (fun _ _ _ h => h) (Or.inl ⟨by rfl, fun w hSw => by (try dsimp only at hSw); go_split_ands; go_simp⟩) (by assumption) ?_
  simp only [Act.put, List.setIfInBounds_toArray, List.set_cons_zero, List.set_cons_succ]
  refine wpAnyH_take (i := 14) (oi := { dst := some 41, op := _, type := _, pos := _, after := _, guard := _ }) (v := .agg #[.int .i64 y0, .int .i64 y1, .int .i64 y2, .int .i64 y3, .int .i64 y4, .int .i64 y5, .int .i64 y6, .int .i64 y7]) rfl (by kernel_rfl) (by kernel_rfl) (by kernel_rfl) (fun _ _ _ h => h) (Or.inl ⟨by rfl, fun w hSw => by (try dsimp only at hSw); go_split_ands; go_simp⟩) (by assumption) ?_
  simp only [Act.put, List.setIfInBounds_toArray, List.set_cons_zero, List.set_cons_succ]
  refine wpAnyH_take (i := 15) (oi := { dst := some 42, op := _, type := _, pos := _, after := _, guard := _ }) (v := .agg #[.int .i64 u0, .int .i64 u1, .int .i64 u2, .int .i64 u3, .int .i64 u4, .int .i64 u5, .int .i64 u6, .int .i64 u7]) rfl (by kernel_rfl) (by kernel_rfl) (by kernel_rfl) (fun _ _ _ h => h) (Or.inl ⟨by rfl, fun w hSw => by (try dsimp only at hSw); go_split_ands; go_simp⟩) (by assumption) ?_
  simp only [Act.put, List.setIfInBounds_toArray, List.set_cons_zero, List.set_cons_succ]
  refine wpAnyH_ready (rs := [10]) (by kernel_rfl) (by simp) (AllReadyH.cons (o := { dst := some 37, op := _, type := _, pos := _, after := _, guard := _ }) rfl ?_ AllReadyH.nil)
  intro K3 hK3
  go_simp
  go_wp2_with (go_at_call 16; refine (HI1 _).out.mono ?_; rintro e c3 ⟨rfl, hb3⟩)
  have hc3 : Below w4.heap.size w4 c3 := hc2.trans (hb3.mono hc2.size)
  refine hK3.out _ _ (HSB.out _ hc3) (fun hHeld => ?_)
  clear hK3 K3
  refine wpAnyH_ready (rs := [12]) (by kernel_rfl) (by simp) (AllReadyH.cons (o := { dst := some 39, op := _, type := _, pos := _, after := _, guard := _ }) rfl ?_ AllReadyH.nil)
  intro K4 hK4
  go_simp
  go_wp2_with (go_at_call 16; refine (HI3 _).out.mono ?_; rintro e c4 ⟨rfl, hb4⟩)
  have hc4 : Below w4.heap.size w4 c4 := hc3.trans (hb4.mono hc3.size)
  refine hK4.out _ _ (HSB.out _ hc4) (fun hHeld => ?_)
  clear hK4 K4
  refine wpAnyH_ready (rs := [16]) (by kernel_rfl) (by simp) (AllReadyH.cons (o := { dst := some 43, op := _, type := _, pos := _, after := _, guard := _ }) rfl ?_ AllReadyH.nil)
  intro K5 hK5
  go_simp
  go_wp2_with (go_at_call 16; refine (HI2 _).out.mono ?_; rintro e c5 ⟨rfl, hb5⟩)
  have hc5 : Below w4.heap.size w4 c5 := hc4.trans (hb5.mono hc4.size)
  refine hK5.out _ _ (HSB.out _ hc5) (fun hHeld => ?_)
  clear hK5 K5
  refine wpAnyH_ready (rs := [17]) (by kernel_rfl) (by simp) (AllReadyH.cons (o := { dst := some 44, op := _, type := _, pos := _, after := _, guard := _ }) rfl ?_ AllReadyH.nil)
  intro K6 hK6
  go_simp
  go_wp2_with (go_at_call 16; refine (HI4 _).out.mono ?_; rintro e c6 ⟨rfl, hb6⟩)
  have hc6 : Below w4.heap.size w4 c6 := hc5.trans (hb6.mono hc5.size)
  refine hK6.out _ _ (HSB.out _ hc6) (fun hHeld => ?_)
  clear hK6 K6
  refine wpAnyH_take (i := 18) (oi := { dst := some 45, op := _, type := _, pos := _, after := _, guard := _ }) (v := .bool true) rfl (by kernel_rfl) (by kernel_rfl) (by kernel_rfl) (fun _ _ _ h => h) (Or.inl ⟨by rfl, fun w hSw => by (try dsimp only at hSw); go_split_ands; go_simp⟩) (by assumption) ?_
  simp only [Act.put, List.setIfInBounds_toArray, List.set_cons_zero, List.set_cons_succ]
  refine wpAnyH_take (i := 19) (oi := { dst := some 46, op := _, type := _, pos := _, after := _, guard := _ }) (v := .bool true) rfl (by kernel_rfl) (by kernel_rfl) (by kernel_rfl) (fun _ _ _ h => h) (Or.inl ⟨by rfl, fun w hSw => by (try dsimp only at hSw); go_split_ands; go_simp⟩) (by assumption) ?_
  simp only [Act.put, List.setIfInBounds_toArray, List.set_cons_zero, List.set_cons_succ]
  have HE := hid (HX4.out.trans (hc6.mono HX4.out.size))
  refine wpAnyH_ready (rs := [20]) (by kernel_rfl) (by simp) (AllReadyH.cons (o := { dst := some 4, op := _, type := _, pos := _, after := _, guard := _ }) rfl ?_ AllReadyH.nil)
  intro K9 hK9
  go_simp
  refine hK9.out _ _ (HSB.out _ hc6) (fun _ => ?_)
  clear hK9 K9
  refine wpAnyH_done (by kernel_rfl) ?_ _
  go_wp2
  go_ret
  exact ⟨rfl, HE.out⟩
end Go.Proofs.Ytaedgekdhpiieaa.Agl
