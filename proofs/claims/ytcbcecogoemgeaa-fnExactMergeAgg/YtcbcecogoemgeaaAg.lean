/- The walk of FnExactMergeAgg. -/
import Derived.Test.YtcbcecogoemgeaaAe
import Derived.Test.YtcbcecogoemgeaaAb
import Derived.Deep.CutRange
namespace Go.Proofs.Ytcbcecogoemgeaa.Agl
open Go.RowKit

theorem lt_block {w : World} {b : Nat} {o : Obj} (h : w.heap[b]? = some o) : b < w.heap.size := (Array.getElem?_eq_some_iff.1 h).1
theorem box_below {w w' : World} {b : Nat} {o : Obj} (h : w.heap[b]? = some o) (hb : Below w.heap.size w w') : w'.heap[b]? = some o := (hb.block b (lt_block h)).trans h
theorem set_cell {w : World} {b o : Nat} {t : TypeId} {cs : Array Value} {q : Nat × Nat} {x : Value} (h : w.heap[b]? = some (.cells cs t q)) : (w.setCell ⟨b, o, none⟩ x).heap[b]? = some (.cells (cs.setIfInBounds o x) t q) := by
  have hlt : b < w.heap.size := (Array.getElem?_eq_some_iff.1 h).1
  have h' : w.heap[b] = .cells cs t q := by simpa [Array.getElem?_eq_getElem hlt] using h
  show (w.heap.modify b _)[b]? = _
  rw [Array.getElem?_eq_getElem (by simpa using hlt), Array.getElem_modify_self, h']
  rfl
theorem cell_at {w : World} {b : Nat} {t : TypeId} {cs : Array Value} {q : Nat × Nat} (h : w.heap[b]? = some (.cells cs t q)) (o : Nat) : w.cell? ⟨b, o, none⟩ = cs[o]? := by
  unfold World.cell?; simp only [h]; rfl
theorem froz_at {w : World} {b : Nat} {t : TypeId} {cs : Array Value} (h : w.heap[b]? = some (.cells cs t (0, 0))) (o : Nat) : w.frozen? ⟨b, o, none⟩ = false := by simp [World.frozen?, h]
theorem heap_new (w : World) (o : Obj) : (w.alloc o).heap[w.heap.size]? = some o := heap_alloc_new w o
/-- The answer lies in a box of its own. -/
structure Bx (w1 : World) (b : Nat) (z0 z1 z2 z3 z4 z5 z6 z7 : Int) (w : World) : Prop where
  x : w.heap[b]? = some (.cells #[.int .i64 z0, .int .i64 z1, .int .i64 z2, .int .i64 z3, .int .i64 z4, .int .i64 z5, .int .i64 z6, .int .i64 z7] 31)
  lo : w1.heap.size ≤ b
  bel : Below w1.heap.size w1 w
theorem bx_set {w1 w : World} {b : Nat} {z0 z1 z2 z3 z4 z5 z6 z7 : Int} (h : w.heap[b]? = some (.cells #[.int .i64 0, .int .i64 0, .int .i64 0, .int .i64 0, .int .i64 0, .int .i64 0, .int .i64 0, .int .i64 0] 31)) (hl : w1.heap.size ≤ b) (hb : Below w1.heap.size w1 w) : Bx w1 b z0 z1 z2 z3 z4 z5 z6 z7 ((((((((w.setCell ⟨b, 0, none⟩ (.int .i64 z0)).setCell ⟨b, 1, none⟩ (.int .i64 z1)).setCell ⟨b, 2, none⟩ (.int .i64 z2)).setCell ⟨b, 3, none⟩ (.int .i64 z3)).setCell ⟨b, 4, none⟩ (.int .i64 z4)).setCell ⟨b, 5, none⟩ (.int .i64 z5)).setCell ⟨b, 6, none⟩ (.int .i64 z6)).setCell ⟨b, 7, none⟩ (.int .i64 z7)) :=
  ⟨by have := (set_cell (o := 7) (x := .int .i64 z7) (set_cell (o := 6) (x := .int .i64 z6) (set_cell (o := 5) (x := .int .i64 z5) (set_cell (o := 4) (x := .int .i64 z4) (set_cell (o := 3) (x := .int .i64 z3) (set_cell (o := 2) (x := .int .i64 z2) (set_cell (o := 1) (x := .int .i64 z1) (set_cell (o := 0) (x := .int .i64 z0) h)))))))); simpa using this, hl, ((((((((hb.setCell (p := ⟨b, 0, none⟩) hl _).setCell (p := ⟨b, 1, none⟩) hl _).setCell (p := ⟨b, 2, none⟩) hl _).setCell (p := ⟨b, 3, none⟩) hl _).setCell (p := ⟨b, 4, none⟩) hl _).setCell (p := ⟨b, 5, none⟩) hl _).setCell (p := ⟨b, 6, none⟩) hl _).setCell (p := ⟨b, 7, none⟩) hl _)⟩
theorem bx_new {w1 w : World} {z0 z1 z2 z3 z4 z5 z6 z7 : Int} (hb : Below w1.heap.size w1 w) : Bx w1 w.heap.size z0 z1 z2 z3 z4 z5 z6 z7 (w.alloc (.cells #[.int .i64 z0, .int .i64 z1, .int .i64 z2, .int .i64 z3, .int .i64 z4, .int .i64 z5, .int .i64 z6, .int .i64 z7] 31)) := ⟨heap_new _ _, hb.size, hb.alloc hb.size _⟩
theorem s16_of {x0 x1 x2 x3 x4 x5 x6 x7 y0 y1 y2 y3 y4 y5 y6 y7 : Int} {A B : Nat} {w : World} (h1 : w.heap[A]? = some (.cells #[.int .i64 x0, .int .i64 x1, .int .i64 x2, .int .i64 x3, .int .i64 x4, .int .i64 x5, .int .i64 x6, .int .i64 x7] 30)) (h2 : w.heap[B]? = some (.cells #[.int .i64 y0, .int .i64 y1, .int .i64 y2, .int .i64 y3, .int .i64 y4, .int .i64 y5, .int .i64 y6, .int .i64 y7] 30)) : S16 A B x0 x1 x2 x3 x4 x5 x6 x7 y0 y1 y2 y3 y4 y5 y6 y7 w :=
  ⟨cell_at h1 0, cell_at h1 1, cell_at h1 2, cell_at h1 3, cell_at h1 4, cell_at h1 5, cell_at h1 6, cell_at h1 7, cell_at h2 0, cell_at h2 1, cell_at h2 2, cell_at h2 3, cell_at h2 4, cell_at h2 5, cell_at h2 6, cell_at h2 7⟩

set_option maxRecDepth 100000 in
set_option maxHeartbeats 4000000 in
theorem walkMerge (x0 x1 x2 x3 x4 x5 x6 x7 y0 y1 y2 y3 y4 y5 y6 y7 : Int) (w : World) :
    Calls Try.prog 4 #[valA ⟨x0, x1, x2, x3, x4, x5, x6, x7⟩, valA ⟨y0, y1, y2, y3, y4, y5, y6, y7⟩] w fun e w' => e = .returned (.bool true) ∧ Below w.heap.size w w' := by
  have HA := fun x => hid (f11 x0 x1 x2 x3 x4 x5 x6 x7 x)
  have HB := fun x => hid (f11 y0 y1 y2 y3 y4 y5 y6 y7 x)
  have HS := fun x => hid (f10 x0 x1 x2 x3 x4 x5 x6 x7 y0 y1 y2 y3 y4 y5 y6 y7 x)
  have HI := fun x => hid (f12 x0 x1 x2 x3 x4 x5 x6 x7 y0 y1 y2 y3 y4 y5 y6 y7 x)
  have HE : ∀ x, Hid _ := fun x => hid (f13 (mrg ⟨x0, x1, x2, x3, x4, x5, x6, x7⟩ ⟨y0, y1, y2, y3, y4, y5, y6, y7⟩).t (mrg ⟨x0, x1, x2, x3, x4, x5, x6, x7⟩ ⟨y0, y1, y2, y3, y4, y5, y6, y7⟩).n (mrg ⟨x0, x1, x2, x3, x4, x5, x6, x7⟩ ⟨y0, y1, y2, y3, y4, y5, y6, y7⟩).s (mrg ⟨x0, x1, x2, x3, x4, x5, x6, x7⟩ ⟨y0, y1, y2, y3, y4, y5, y6, y7⟩).mi (mrg ⟨x0, x1, x2, x3, x4, x5, x6, x7⟩ ⟨y0, y1, y2, y3, y4, y5, y6, y7⟩).ma (mrg ⟨x0, x1, x2, x3, x4, x5, x6, x7⟩ ⟨y0, y1, y2, y3, y4, y5, y6, y7⟩).f (mrg ⟨x0, x1, x2, x3, x4, x5, x6, x7⟩ ⟨y0, y1, y2, y3, y4, y5, y6, y7⟩).l (mrg ⟨x0, x1, x2, x3, x4, x5, x6, x7⟩ ⟨y0, y1, y2, y3, y4, y5, y6, y7⟩).r x)
  generalize mrg ⟨x0, x1, x2, x3, x4, x5, x6, x7⟩ ⟨y0, y1, y2, y3, y4, y5, y6, y7⟩ = m at *
  obtain ⟨z0, z1, z2, z3, z4, z5, z6, z7⟩ := m
  unfold valA at *
  simp only at *
  have HB1 := hid (((Below.refl w.heap.size w).alloc (Nat.le_refl _) (.cells #[.int .i64 x0, .int .i64 x1, .int .i64 x2, .int .i64 x3, .int .i64 x4, .int .i64 x5, .int .i64 x6, .int .i64 x7] 30)).alloc (by simp) (.cells #[.int .i64 y0, .int .i64 y1, .int .i64 y2, .int .i64 y3, .int .i64 y4, .int .i64 y5, .int .i64 y6, .int .i64 y7] 30))
  have HP : Hid ((((w.alloc (.cells #[.int .i64 x0, .int .i64 x1, .int .i64 x2, .int .i64 x3, .int .i64 x4, .int .i64 x5, .int .i64 x6, .int .i64 x7] 30)).alloc (.cells #[.int .i64 y0, .int .i64 y1, .int .i64 y2, .int .i64 y3, .int .i64 y4, .int .i64 y5, .int .i64 y6, .int .i64 y7] 30)).heap[w.heap.size]? = some (.cells #[.int .i64 x0, .int .i64 x1, .int .i64 x2, .int .i64 x3, .int .i64 x4, .int .i64 x5, .int .i64 x6, .int .i64 x7] 30)) ∧ (((w.alloc (.cells #[.int .i64 x0, .int .i64 x1, .int .i64 x2, .int .i64 x3, .int .i64 x4, .int .i64 x5, .int .i64 x6, .int .i64 x7] 30)).alloc (.cells #[.int .i64 y0, .int .i64 y1, .int .i64 y2, .int .i64 y3, .int .i64 y4, .int .i64 y5, .int .i64 y6, .int .i64 y7] 30)).heap[w.heap.size + 1]? = some (.cells #[.int .i64 y0, .int .i64 y1, .int .i64 y2, .int .i64 y3, .int .i64 y4, .int .i64 y5, .int .i64 y6, .int .i64 y7] 30))) := by
    constructor
    · exact box_below (heap_new w _) ((Below.refl _ _).alloc (Nat.le_refl _) _)
    · have := heap_new (w.alloc (.cells #[.int .i64 x0, .int .i64 x1, .int .i64 x2, .int .i64 x3, .int .i64 x4, .int .i64 x5, .int .i64 x6, .int .i64 x7] 30)) (.cells #[.int .i64 y0, .int .i64 y1, .int .i64 y2, .int .i64 y3, .int .i64 y4, .int .i64 y5, .int .i64 y6, .int .i64 y7] 30)
      simpa using this
  have HW := hid (rfl : ((w.alloc (.cells #[.int .i64 x0, .int .i64 x1, .int .i64 x2, .int .i64 x3, .int .i64 x4, .int .i64 x5, .int .i64 x6, .int .i64 x7] 30)).alloc (.cells #[.int .i64 y0, .int .i64 y1, .int .i64 y2, .int .i64 y3, .int .i64 y4, .int .i64 y5, .int .i64 y6, .int .i64 y7] 30)) = ((w.alloc (.cells #[.int .i64 x0, .int .i64 x1, .int .i64 x2, .int .i64 x3, .int .i64 x4, .int .i64 x5, .int .i64 x6, .int .i64 x7] 30)).alloc (.cells #[.int .i64 y0, .int .i64 y1, .int .i64 y2, .int .i64 y3, .int .i64 y4, .int .i64 y5, .int .i64 y6, .int .i64 y7] 30)))
  obtain ⟨w1, hw1⟩ : ∃ w1, w1 = ((w.alloc (.cells #[.int .i64 x0, .int .i64 x1, .int .i64 x2, .int .i64 x3, .int .i64 x4, .int .i64 x5, .int .i64 x6, .int .i64 x7] 30)).alloc (.cells #[.int .i64 y0, .int .i64 y1, .int .i64 y2, .int .i64 y3, .int .i64 y4, .int .i64 y5, .int .i64 y6, .int .i64 y7] 30)) := ⟨_, rfl⟩
  clear HW
  rw [← hw1] at HB1 HP
  have HW1 := hid hw1
  clear hw1
  have HSB : Hid (∀ x, Below w1.heap.size w1 x → S16 w.heap.size (w.heap.size + 1) x0 x1 x2 x3 x4 x5 x6 x7 y0 y1 y2 y3 y4 y5 y6 y7 x) := fun x hx => s16_of (box_below HP.out.1 hx) (box_below HP.out.2 hx)
  go_enter Try.func4, Try.ntmps4
  go_upto_region 1 with fail
  rw [← HW1.out]
  clear HW1
  go_cut [5] from 7 to 11 (fun s5 wx => ∃ X, s5 = .pointer (some ⟨X, 0, none⟩) ∧ Hid (Bx w1 X z0 z1 z2 z3 z4 z5 z6 z7 wx))
  case first =>
    go_wp2_with fail
    refine wp_region_held_drew (S := fun x => S16 w.heap.size (w.heap.size + 1) x0 x1 x2 x3 x4 x5 x6 x7 y0 y1 y2 y3 y4 y5 y6 y7 x) rfl (HSB.out _ (Below.refl _ _).drew) (fun hHeld => ?_)
    refine wpAnyH_take (i := 0) (oi := { dst := some 7, op := _, type := _, pos := _, after := _, guard := _ }) (v := .agg #[.int .i64 x0, .int .i64 x1, .int .i64 x2, .int .i64 x3, .int .i64 x4, .int .i64 x5, .int .i64 x6, .int .i64 x7]) rfl (by kernel_rfl) (by kernel_rfl) (by kernel_rfl) (fun _ _ _ h => h) (Or.inl ⟨by rfl, fun w hSw => by (try dsimp only at hSw); go_split_ands; go_simp⟩) (by assumption) ?_
    simp only [Act.put, List.setIfInBounds_toArray, List.set_cons_zero, List.set_cons_succ]
    refine wpAnyH_take (i := 2) (oi := { dst := some 9, op := _, type := _, pos := _, after := _, guard := _ }) (v := .agg #[.int .i64 y0, .int .i64 y1, .int .i64 y2, .int .i64 y3, .int .i64 y4, .int .i64 y5, .int .i64 y6, .int .i64 y7]) rfl (by kernel_rfl) (by kernel_rfl) (by kernel_rfl) (fun _ _ _ h => h) (Or.inl ⟨by rfl, fun w hSw => by (try dsimp only at hSw); go_split_ands; go_simp⟩) (by assumption) ?_
    simp only [Act.put, List.setIfInBounds_toArray, List.set_cons_zero, List.set_cons_succ]
    have hc0 : Below w1.heap.size w1 w1.drew := (Below.refl _ _).drew
    generalize w1.drew = c0 at *
    refine wpAnyH_ready (rs := [1, 5]) (by kernel_rfl) (by simp) (AllReadyH.cons (o := { dst := some 8, op := _, type := _, pos := _, after := _, guard := _ }) rfl ?_ (AllReadyH.cons (o := { dst := some 5, op := _, type := _, pos := _, after := _, guard := _ }) rfl ?_ AllReadyH.nil))
    · intro K1 hK1
      go_simp
      go_wp2_with (go_at_call 11; refine (HA _).out.mono ?_; rintro e c1 ⟨rfl, hb1⟩)
      have hc1 : Below w1.heap.size w1 c1 := hc0.trans (hb1.mono hc0.size)
      refine hK1.out _ _ (HSB.out _ hc1) (fun hHeld => ?_)
      clear hK1 K1
      refine wpAnyH_ready (rs := [3, 5]) (by kernel_rfl) (by simp) (AllReadyH.cons (o := { dst := some 10, op := _, type := _, pos := _, after := _, guard := _ }) rfl ?_ (AllReadyH.cons (o := { dst := some 5, op := _, type := _, pos := _, after := _, guard := _ }) rfl ?_ AllReadyH.nil))
      · intro K2 hK2
        go_simp
        go_wp2_with (go_at_call 11; refine (HB _).out.mono ?_; rintro e c2 ⟨rfl, hb2⟩)
        have hc2 : Below w1.heap.size w1 c2 := hc1.trans (hb2.mono hc1.size)
        refine hK2.out _ _ (HSB.out _ hc2) (fun hHeld => ?_)
        clear hK2 K2
        refine wpAnyH_ready (rs := [4, 5]) (by kernel_rfl) (by simp) (AllReadyH.cons (o := { dst := some 11, op := _, type := _, pos := _, after := _, guard := _ }) rfl ?_ (AllReadyH.cons (o := { dst := some 5, op := _, type := _, pos := _, after := _, guard := _ }) rfl ?_ AllReadyH.nil))
        · intro K3 hK3
          go_simp
          go_wp2_with (go_at_call 10; refine (HS _).out.mono ?_; rintro e c3 ⟨rfl, hb3⟩)
          have hc3 : Below w1.heap.size w1 c3 := hc2.trans (hb3.mono hc2.size)
          refine hK3.out _ _ (HSB.out _ hc3) (fun hHeld => ?_)
          clear hK3 K3
          refine wpAnyH_ready (rs := [5]) (by kernel_rfl) (by simp) (AllReadyH.cons (o := { dst := some 5, op := _, type := _, pos := _, after := _, guard := _ }) rfl ?_ AllReadyH.nil)
          intro K4 hK4
          go_simp
          refine hK4.out _ _ (HSB.out _ (hc3.alloc hc3.size _)) (fun hHeld => ?_)
          clear hK4 K4
          have hX4 := heap_new c3 (.cells #[.int .i64 0, .int .i64 0, .int .i64 0, .int .i64 0, .int .i64 0, .int .i64 0, .int .i64 0, .int .i64 0] 31)
          have hl4 := hc3.size
          have hc4 := hc3.alloc hc3.size (.cells #[.int .i64 0, .int .i64 0, .int .i64 0, .int .i64 0, .int .i64 0, .int .i64 0, .int .i64 0, .int .i64 0] 31)
          generalize c3.alloc (.cells #[.int .i64 0, .int .i64 0, .int .i64 0, .int .i64 0, .int .i64 0, .int .i64 0, .int .i64 0, .int .i64 0] 31) = c4 at *
          generalize c3.heap.size = X4 at *
          refine wpAnyH_ready (rs := [6]) (by kernel_rfl) (by simp) (AllReadyH.cons (o := { dst := none, op := _, type := _, pos := _, after := _, guard := _ }) rfl ?_ AllReadyH.nil)
          have hx0 := cell_at hX4 0
          have hf0 := froz_at hX4 0
          have hx1 := cell_at hX4 1
          have hf1 := froz_at hX4 1
          have hx2 := cell_at hX4 2
          have hf2 := froz_at hX4 2
          have hx3 := cell_at hX4 3
          have hf3 := froz_at hX4 3
          have hx4 := cell_at hX4 4
          have hf4 := froz_at hX4 4
          have hx5 := cell_at hX4 5
          have hf5 := froz_at hX4 5
          have hx6 := cell_at hX4 6
          have hf6 := froz_at hX4 6
          have hx7 := cell_at hX4 7
          have hf7 := froz_at hX4 7
          have HAP := hid (bx_set (z0 := z0) (z1 := z1) (z2 := z2) (z3 := z3) (z4 := z4) (z5 := z5) (z6 := z6) (z7 := z7) hX4 hl4 hc4)
          intro K5 hK5
          go_simp
          refine hK5.out _ _ (HSB.out _ HAP.out.bel) (fun hHeld => ?_)
          clear hK5 K5
          refine wpAnyH_done (by kernel_rfl) ?_ _
          go_wp2
          go_meet
          exact ⟨_, rfl, HAP⟩
        · intro K6 hK6
          go_simp
          refine hK6.out _ _ (HSB.out _ (hc2.alloc hc2.size _)) (fun hHeld => ?_)
          clear hK6 K6
          have hX6 := heap_new c2 (.cells #[.int .i64 0, .int .i64 0, .int .i64 0, .int .i64 0, .int .i64 0, .int .i64 0, .int .i64 0, .int .i64 0] 31)
          have hl6 := hc2.size
          have hc6 := hc2.alloc hc2.size (.cells #[.int .i64 0, .int .i64 0, .int .i64 0, .int .i64 0, .int .i64 0, .int .i64 0, .int .i64 0, .int .i64 0] 31)
          generalize c2.alloc (.cells #[.int .i64 0, .int .i64 0, .int .i64 0, .int .i64 0, .int .i64 0, .int .i64 0, .int .i64 0, .int .i64 0] 31) = c6 at *
          generalize c2.heap.size = X6 at *
          refine wpAnyH_ready (rs := [4]) (by kernel_rfl) (by simp) (AllReadyH.cons (o := { dst := some 11, op := _, type := _, pos := _, after := _, guard := _ }) rfl ?_ AllReadyH.nil)
          intro K7 hK7
          go_simp
          go_wp2_with (go_at_call 10; refine (HS _).out.mono ?_; rintro e c7 ⟨rfl, hb7⟩)
          have hc7 : Below w1.heap.size w1 c7 := hc6.trans (hb7.mono hc6.size)
          refine hK7.out _ _ (HSB.out _ hc7) (fun hHeld => ?_)
          clear hK7 K7
          have hX7 := box_below hX6 hb7
          refine wpAnyH_ready (rs := [6]) (by kernel_rfl) (by simp) (AllReadyH.cons (o := { dst := none, op := _, type := _, pos := _, after := _, guard := _ }) rfl ?_ AllReadyH.nil)
          have hx0 := cell_at hX7 0
          have hf0 := froz_at hX7 0
          have hx1 := cell_at hX7 1
          have hf1 := froz_at hX7 1
          have hx2 := cell_at hX7 2
          have hf2 := froz_at hX7 2
          have hx3 := cell_at hX7 3
          have hf3 := froz_at hX7 3
          have hx4 := cell_at hX7 4
          have hf4 := froz_at hX7 4
          have hx5 := cell_at hX7 5
          have hf5 := froz_at hX7 5
          have hx6 := cell_at hX7 6
          have hf6 := froz_at hX7 6
          have hx7 := cell_at hX7 7
          have hf7 := froz_at hX7 7
          have HAP := hid (bx_set (z0 := z0) (z1 := z1) (z2 := z2) (z3 := z3) (z4 := z4) (z5 := z5) (z6 := z6) (z7 := z7) hX7 hl6 hc7)
          intro K8 hK8
          go_simp
          refine hK8.out _ _ (HSB.out _ HAP.out.bel) (fun hHeld => ?_)
          clear hK8 K8
          refine wpAnyH_done (by kernel_rfl) ?_ _
          go_wp2
          go_meet
          exact ⟨_, rfl, HAP⟩
      · intro K9 hK9
        go_simp
        refine hK9.out _ _ (HSB.out _ (hc1.alloc hc1.size _)) (fun hHeld => ?_)
        clear hK9 K9
        have hX9 := heap_new c1 (.cells #[.int .i64 0, .int .i64 0, .int .i64 0, .int .i64 0, .int .i64 0, .int .i64 0, .int .i64 0, .int .i64 0] 31)
        have hl9 := hc1.size
        have hc9 := hc1.alloc hc1.size (.cells #[.int .i64 0, .int .i64 0, .int .i64 0, .int .i64 0, .int .i64 0, .int .i64 0, .int .i64 0, .int .i64 0] 31)
        generalize c1.alloc (.cells #[.int .i64 0, .int .i64 0, .int .i64 0, .int .i64 0, .int .i64 0, .int .i64 0, .int .i64 0, .int .i64 0] 31) = c9 at *
        generalize c1.heap.size = X9 at *
        refine wpAnyH_ready (rs := [3]) (by kernel_rfl) (by simp) (AllReadyH.cons (o := { dst := some 10, op := _, type := _, pos := _, after := _, guard := _ }) rfl ?_ AllReadyH.nil)
        intro K10 hK10
        go_simp
        go_wp2_with (go_at_call 11; refine (HB _).out.mono ?_; rintro e c10 ⟨rfl, hb10⟩)
        have hc10 : Below w1.heap.size w1 c10 := hc9.trans (hb10.mono hc9.size)
        refine hK10.out _ _ (HSB.out _ hc10) (fun hHeld => ?_)
        clear hK10 K10
        have hX10 := box_below hX9 hb10
        refine wpAnyH_ready (rs := [4]) (by kernel_rfl) (by simp) (AllReadyH.cons (o := { dst := some 11, op := _, type := _, pos := _, after := _, guard := _ }) rfl ?_ AllReadyH.nil)
        intro K11 hK11
        go_simp
        go_wp2_with (go_at_call 10; refine (HS _).out.mono ?_; rintro e c11 ⟨rfl, hb11⟩)
        have hc11 : Below w1.heap.size w1 c11 := hc10.trans (hb11.mono hc10.size)
        refine hK11.out _ _ (HSB.out _ hc11) (fun hHeld => ?_)
        clear hK11 K11
        have hX11 := box_below hX10 hb11
        refine wpAnyH_ready (rs := [6]) (by kernel_rfl) (by simp) (AllReadyH.cons (o := { dst := none, op := _, type := _, pos := _, after := _, guard := _ }) rfl ?_ AllReadyH.nil)
        have hx0 := cell_at hX11 0
        have hf0 := froz_at hX11 0
        have hx1 := cell_at hX11 1
        have hf1 := froz_at hX11 1
        have hx2 := cell_at hX11 2
        have hf2 := froz_at hX11 2
        have hx3 := cell_at hX11 3
        have hf3 := froz_at hX11 3
        have hx4 := cell_at hX11 4
        have hf4 := froz_at hX11 4
        have hx5 := cell_at hX11 5
        have hf5 := froz_at hX11 5
        have hx6 := cell_at hX11 6
        have hf6 := froz_at hX11 6
        have hx7 := cell_at hX11 7
        have hf7 := froz_at hX11 7
        have HAP := hid (bx_set (z0 := z0) (z1 := z1) (z2 := z2) (z3 := z3) (z4 := z4) (z5 := z5) (z6 := z6) (z7 := z7) hX11 hl9 hc11)
        intro K12 hK12
        go_simp
        refine hK12.out _ _ (HSB.out _ HAP.out.bel) (fun hHeld => ?_)
        clear hK12 K12
        refine wpAnyH_done (by kernel_rfl) ?_ _
        go_wp2
        go_meet
        exact ⟨_, rfl, HAP⟩
    · intro K13 hK13
      go_simp
      refine hK13.out _ _ (HSB.out _ (hc0.alloc hc0.size _)) (fun hHeld => ?_)
      clear hK13 K13
      have hX13 := heap_new c0 (.cells #[.int .i64 0, .int .i64 0, .int .i64 0, .int .i64 0, .int .i64 0, .int .i64 0, .int .i64 0, .int .i64 0] 31)
      have hl13 := hc0.size
      have hc13 := hc0.alloc hc0.size (.cells #[.int .i64 0, .int .i64 0, .int .i64 0, .int .i64 0, .int .i64 0, .int .i64 0, .int .i64 0, .int .i64 0] 31)
      generalize c0.alloc (.cells #[.int .i64 0, .int .i64 0, .int .i64 0, .int .i64 0, .int .i64 0, .int .i64 0, .int .i64 0, .int .i64 0] 31) = c13 at *
      generalize c0.heap.size = X13 at *
      refine wpAnyH_ready (rs := [1]) (by kernel_rfl) (by simp) (AllReadyH.cons (o := { dst := some 8, op := _, type := _, pos := _, after := _, guard := _ }) rfl ?_ AllReadyH.nil)
      intro K14 hK14
      go_simp
      go_wp2_with (go_at_call 11; refine (HA _).out.mono ?_; rintro e c14 ⟨rfl, hb14⟩)
      have hc14 : Below w1.heap.size w1 c14 := hc13.trans (hb14.mono hc13.size)
      refine hK14.out _ _ (HSB.out _ hc14) (fun hHeld => ?_)
      clear hK14 K14
      have hX14 := box_below hX13 hb14
      refine wpAnyH_ready (rs := [3]) (by kernel_rfl) (by simp) (AllReadyH.cons (o := { dst := some 10, op := _, type := _, pos := _, after := _, guard := _ }) rfl ?_ AllReadyH.nil)
      intro K15 hK15
      go_simp
      go_wp2_with (go_at_call 11; refine (HB _).out.mono ?_; rintro e c15 ⟨rfl, hb15⟩)
      have hc15 : Below w1.heap.size w1 c15 := hc14.trans (hb15.mono hc14.size)
      refine hK15.out _ _ (HSB.out _ hc15) (fun hHeld => ?_)
      clear hK15 K15
      have hX15 := box_below hX14 hb15
      refine wpAnyH_ready (rs := [4]) (by kernel_rfl) (by simp) (AllReadyH.cons (o := { dst := some 11, op := _, type := _, pos := _, after := _, guard := _ }) rfl ?_ AllReadyH.nil)
      intro K16 hK16
      go_simp
      go_wp2_with (go_at_call 10; refine (HS _).out.mono ?_; rintro e c16 ⟨rfl, hb16⟩)
      have hc16 : Below w1.heap.size w1 c16 := hc15.trans (hb16.mono hc15.size)
      refine hK16.out _ _ (HSB.out _ hc16) (fun hHeld => ?_)
      clear hK16 K16
      have hX16 := box_below hX15 hb16
      refine wpAnyH_ready (rs := [6]) (by kernel_rfl) (by simp) (AllReadyH.cons (o := { dst := none, op := _, type := _, pos := _, after := _, guard := _ }) rfl ?_ AllReadyH.nil)
      have hx0 := cell_at hX16 0
      have hf0 := froz_at hX16 0
      have hx1 := cell_at hX16 1
      have hf1 := froz_at hX16 1
      have hx2 := cell_at hX16 2
      have hf2 := froz_at hX16 2
      have hx3 := cell_at hX16 3
      have hf3 := froz_at hX16 3
      have hx4 := cell_at hX16 4
      have hf4 := froz_at hX16 4
      have hx5 := cell_at hX16 5
      have hf5 := froz_at hX16 5
      have hx6 := cell_at hX16 6
      have hf6 := froz_at hX16 6
      have hx7 := cell_at hX16 7
      have hf7 := froz_at hX16 7
      have HAP := hid (bx_set (z0 := z0) (z1 := z1) (z2 := z2) (z3 := z3) (z4 := z4) (z5 := z5) (z6 := z6) (z7 := z7) hX16 hl13 hc16)
      intro K17 hK17
      go_simp
      refine hK17.out _ _ (HSB.out _ HAP.out.bel) (fun hHeld => ?_)
      clear hK17 K17
      refine wpAnyH_done (by kernel_rfl) ?_ _
      go_wp2
      go_meet
      exact ⟨_, rfl, HAP⟩
  case rest =>
  obtain ⟨xv, rfl, HAP⟩ := hcut
  rename World => w5
  have HX5 := hid HAP.out.x
  have HB5 := hid HAP.out.bel
  have HBw := hid (HB1.out.trans (HAP.out.bel.mono HB1.out.size))
  have HP5 := hid (And.intro (box_below HP.out.1 HAP.out.bel) (box_below HP.out.2 HAP.out.bel))
  clear HAP HSB HP HB1 HB5
  have HSB : Hid (∀ x, Below w5.heap.size w5 x → S16 w.heap.size (w.heap.size + 1) x0 x1 x2 x3 x4 x5 x6 x7 y0 y1 y2 y3 y4 y5 y6 y7 x) := fun x hx => s16_of (box_below HP5.out.1 hx) (box_below HP5.out.2 hx)
  go_upto_region 2 with fail
  go_cut [6] from 12 to 16 (fun s6 wx => ∃ X, s6 = .pointer (some ⟨X, 0, none⟩) ∧ Hid (Bx w5 X z0 z1 z2 z3 z4 z5 z6 z7 wx))
  case first =>
    go_wp2_with fail
    refine wp_region_held_drew (S := fun x => S16 w.heap.size (w.heap.size + 1) x0 x1 x2 x3 x4 x5 x6 x7 y0 y1 y2 y3 y4 y5 y6 y7 x) rfl (HSB.out _ (Below.refl _ _).drew) (fun hHeld => ?_)
    refine wpAnyH_take (i := 0) (oi := { dst := some 12, op := _, type := _, pos := _, after := _, guard := _ }) (v := .agg #[.int .i64 x0, .int .i64 x1, .int .i64 x2, .int .i64 x3, .int .i64 x4, .int .i64 x5, .int .i64 x6, .int .i64 x7]) rfl (by kernel_rfl) (by kernel_rfl) (by kernel_rfl) (fun _ _ _ h => h) (Or.inl ⟨by rfl, fun w hSw => by (try dsimp only at hSw); go_split_ands; go_simp⟩) (by assumption) ?_
    simp only [Act.put, List.setIfInBounds_toArray, List.set_cons_zero, List.set_cons_succ]
    refine wpAnyH_take (i := 2) (oi := { dst := some 14, op := _, type := _, pos := _, after := _, guard := _ }) (v := .agg #[.int .i64 y0, .int .i64 y1, .int .i64 y2, .int .i64 y3, .int .i64 y4, .int .i64 y5, .int .i64 y6, .int .i64 y7]) rfl (by kernel_rfl) (by kernel_rfl) (by kernel_rfl) (fun _ _ _ h => h) (Or.inl ⟨by rfl, fun w hSw => by (try dsimp only at hSw); go_split_ands; go_simp⟩) (by assumption) ?_
    simp only [Act.put, List.setIfInBounds_toArray, List.set_cons_zero, List.set_cons_succ]
    have hc0 : Below w5.heap.size w5 w5.drew := (Below.refl _ _).drew
    generalize w5.drew = c0 at *
    refine wpAnyH_ready (rs := [1, 5]) (by kernel_rfl) (by simp) (AllReadyH.cons (o := { dst := some 13, op := _, type := _, pos := _, after := _, guard := _ }) rfl ?_ (AllReadyH.cons (o := { dst := some 6, op := _, type := _, pos := _, after := _, guard := _ }) rfl ?_ AllReadyH.nil))
    · intro K1 hK1
      go_simp
      go_wp2_with (go_at_call 11; refine (HA _).out.mono ?_; rintro e c1 ⟨rfl, hb1⟩)
      have hc1 : Below w5.heap.size w5 c1 := hc0.trans (hb1.mono hc0.size)
      refine hK1.out _ _ (HSB.out _ hc1) (fun hHeld => ?_)
      clear hK1 K1
      refine wpAnyH_ready (rs := [3, 5]) (by kernel_rfl) (by simp) (AllReadyH.cons (o := { dst := some 15, op := _, type := _, pos := _, after := _, guard := _ }) rfl ?_ (AllReadyH.cons (o := { dst := some 6, op := _, type := _, pos := _, after := _, guard := _ }) rfl ?_ AllReadyH.nil))
      · intro K2 hK2
        go_simp
        go_wp2_with (go_at_call 11; refine (HB _).out.mono ?_; rintro e c2 ⟨rfl, hb2⟩)
        have hc2 : Below w5.heap.size w5 c2 := hc1.trans (hb2.mono hc1.size)
        refine hK2.out _ _ (HSB.out _ hc2) (fun hHeld => ?_)
        clear hK2 K2
        refine wpAnyH_ready (rs := [4, 5]) (by kernel_rfl) (by simp) (AllReadyH.cons (o := { dst := some 16, op := _, type := _, pos := _, after := _, guard := _ }) rfl ?_ (AllReadyH.cons (o := { dst := some 6, op := _, type := _, pos := _, after := _, guard := _ }) rfl ?_ AllReadyH.nil))
        · intro K3 hK3
          go_simp
          go_wp2_with (go_at_call 12; refine (HI _).out.mono ?_; rintro e c3 ⟨rfl, hb3⟩)
          have hc3 : Below w5.heap.size w5 c3 := hc2.trans (hb3.mono hc2.size)
          refine hK3.out _ _ (HSB.out _ hc3) (fun hHeld => ?_)
          clear hK3 K3
          refine wpAnyH_ready (rs := [5]) (by kernel_rfl) (by simp) (AllReadyH.cons (o := { dst := some 6, op := _, type := _, pos := _, after := _, guard := _ }) rfl ?_ AllReadyH.nil)
          intro K4 hK4
          go_simp
          refine hK4.out _ _ (HSB.out _ (hc3.alloc hc3.size _)) (fun hHeld => ?_)
          clear hK4 K4
          have hX4 := heap_new c3 (.cells #[.int .i64 0, .int .i64 0, .int .i64 0, .int .i64 0, .int .i64 0, .int .i64 0, .int .i64 0, .int .i64 0] 31)
          have hl4 := hc3.size
          have hc4 := hc3.alloc hc3.size (.cells #[.int .i64 0, .int .i64 0, .int .i64 0, .int .i64 0, .int .i64 0, .int .i64 0, .int .i64 0, .int .i64 0] 31)
          generalize c3.alloc (.cells #[.int .i64 0, .int .i64 0, .int .i64 0, .int .i64 0, .int .i64 0, .int .i64 0, .int .i64 0, .int .i64 0] 31) = c4 at *
          generalize c3.heap.size = X4 at *
          refine wpAnyH_ready (rs := [6]) (by kernel_rfl) (by simp) (AllReadyH.cons (o := { dst := none, op := _, type := _, pos := _, after := _, guard := _ }) rfl ?_ AllReadyH.nil)
          have hx0 := cell_at hX4 0
          have hf0 := froz_at hX4 0
          have hx1 := cell_at hX4 1
          have hf1 := froz_at hX4 1
          have hx2 := cell_at hX4 2
          have hf2 := froz_at hX4 2
          have hx3 := cell_at hX4 3
          have hf3 := froz_at hX4 3
          have hx4 := cell_at hX4 4
          have hf4 := froz_at hX4 4
          have hx5 := cell_at hX4 5
          have hf5 := froz_at hX4 5
          have hx6 := cell_at hX4 6
          have hf6 := froz_at hX4 6
          have hx7 := cell_at hX4 7
          have hf7 := froz_at hX4 7
          have HAP := hid (bx_set (z0 := z0) (z1 := z1) (z2 := z2) (z3 := z3) (z4 := z4) (z5 := z5) (z6 := z6) (z7 := z7) hX4 hl4 hc4)
          intro K5 hK5
          go_simp
          refine hK5.out _ _ (HSB.out _ HAP.out.bel) (fun hHeld => ?_)
          clear hK5 K5
          refine wpAnyH_done (by kernel_rfl) ?_ _
          go_wp2
          go_meet
          exact ⟨_, rfl, HAP⟩
        · intro K6 hK6
          go_simp
          refine hK6.out _ _ (HSB.out _ (hc2.alloc hc2.size _)) (fun hHeld => ?_)
          clear hK6 K6
          have hX6 := heap_new c2 (.cells #[.int .i64 0, .int .i64 0, .int .i64 0, .int .i64 0, .int .i64 0, .int .i64 0, .int .i64 0, .int .i64 0] 31)
          have hl6 := hc2.size
          have hc6 := hc2.alloc hc2.size (.cells #[.int .i64 0, .int .i64 0, .int .i64 0, .int .i64 0, .int .i64 0, .int .i64 0, .int .i64 0, .int .i64 0] 31)
          generalize c2.alloc (.cells #[.int .i64 0, .int .i64 0, .int .i64 0, .int .i64 0, .int .i64 0, .int .i64 0, .int .i64 0, .int .i64 0] 31) = c6 at *
          generalize c2.heap.size = X6 at *
          refine wpAnyH_ready (rs := [4]) (by kernel_rfl) (by simp) (AllReadyH.cons (o := { dst := some 16, op := _, type := _, pos := _, after := _, guard := _ }) rfl ?_ AllReadyH.nil)
          intro K7 hK7
          go_simp
          go_wp2_with (go_at_call 12; refine (HI _).out.mono ?_; rintro e c7 ⟨rfl, hb7⟩)
          have hc7 : Below w5.heap.size w5 c7 := hc6.trans (hb7.mono hc6.size)
          refine hK7.out _ _ (HSB.out _ hc7) (fun hHeld => ?_)
          clear hK7 K7
          have hX7 := box_below hX6 hb7
          refine wpAnyH_ready (rs := [6]) (by kernel_rfl) (by simp) (AllReadyH.cons (o := { dst := none, op := _, type := _, pos := _, after := _, guard := _ }) rfl ?_ AllReadyH.nil)
          have hx0 := cell_at hX7 0
          have hf0 := froz_at hX7 0
          have hx1 := cell_at hX7 1
          have hf1 := froz_at hX7 1
          have hx2 := cell_at hX7 2
          have hf2 := froz_at hX7 2
          have hx3 := cell_at hX7 3
          have hf3 := froz_at hX7 3
          have hx4 := cell_at hX7 4
          have hf4 := froz_at hX7 4
          have hx5 := cell_at hX7 5
          have hf5 := froz_at hX7 5
          have hx6 := cell_at hX7 6
          have hf6 := froz_at hX7 6
          have hx7 := cell_at hX7 7
          have hf7 := froz_at hX7 7
          have HAP := hid (bx_set (z0 := z0) (z1 := z1) (z2 := z2) (z3 := z3) (z4 := z4) (z5 := z5) (z6 := z6) (z7 := z7) hX7 hl6 hc7)
          intro K8 hK8
          go_simp
          refine hK8.out _ _ (HSB.out _ HAP.out.bel) (fun hHeld => ?_)
          clear hK8 K8
          refine wpAnyH_done (by kernel_rfl) ?_ _
          go_wp2
          go_meet
          exact ⟨_, rfl, HAP⟩
      · intro K9 hK9
        go_simp
        refine hK9.out _ _ (HSB.out _ (hc1.alloc hc1.size _)) (fun hHeld => ?_)
        clear hK9 K9
        have hX9 := heap_new c1 (.cells #[.int .i64 0, .int .i64 0, .int .i64 0, .int .i64 0, .int .i64 0, .int .i64 0, .int .i64 0, .int .i64 0] 31)
        have hl9 := hc1.size
        have hc9 := hc1.alloc hc1.size (.cells #[.int .i64 0, .int .i64 0, .int .i64 0, .int .i64 0, .int .i64 0, .int .i64 0, .int .i64 0, .int .i64 0] 31)
        generalize c1.alloc (.cells #[.int .i64 0, .int .i64 0, .int .i64 0, .int .i64 0, .int .i64 0, .int .i64 0, .int .i64 0, .int .i64 0] 31) = c9 at *
        generalize c1.heap.size = X9 at *
        refine wpAnyH_ready (rs := [3]) (by kernel_rfl) (by simp) (AllReadyH.cons (o := { dst := some 15, op := _, type := _, pos := _, after := _, guard := _ }) rfl ?_ AllReadyH.nil)
        intro K10 hK10
        go_simp
        go_wp2_with (go_at_call 11; refine (HB _).out.mono ?_; rintro e c10 ⟨rfl, hb10⟩)
        have hc10 : Below w5.heap.size w5 c10 := hc9.trans (hb10.mono hc9.size)
        refine hK10.out _ _ (HSB.out _ hc10) (fun hHeld => ?_)
        clear hK10 K10
        have hX10 := box_below hX9 hb10
        refine wpAnyH_ready (rs := [4]) (by kernel_rfl) (by simp) (AllReadyH.cons (o := { dst := some 16, op := _, type := _, pos := _, after := _, guard := _ }) rfl ?_ AllReadyH.nil)
        intro K11 hK11
        go_simp
        go_wp2_with (go_at_call 12; refine (HI _).out.mono ?_; rintro e c11 ⟨rfl, hb11⟩)
        have hc11 : Below w5.heap.size w5 c11 := hc10.trans (hb11.mono hc10.size)
        refine hK11.out _ _ (HSB.out _ hc11) (fun hHeld => ?_)
        clear hK11 K11
        have hX11 := box_below hX10 hb11
        refine wpAnyH_ready (rs := [6]) (by kernel_rfl) (by simp) (AllReadyH.cons (o := { dst := none, op := _, type := _, pos := _, after := _, guard := _ }) rfl ?_ AllReadyH.nil)
        have hx0 := cell_at hX11 0
        have hf0 := froz_at hX11 0
        have hx1 := cell_at hX11 1
        have hf1 := froz_at hX11 1
        have hx2 := cell_at hX11 2
        have hf2 := froz_at hX11 2
        have hx3 := cell_at hX11 3
        have hf3 := froz_at hX11 3
        have hx4 := cell_at hX11 4
        have hf4 := froz_at hX11 4
        have hx5 := cell_at hX11 5
        have hf5 := froz_at hX11 5
        have hx6 := cell_at hX11 6
        have hf6 := froz_at hX11 6
        have hx7 := cell_at hX11 7
        have hf7 := froz_at hX11 7
        have HAP := hid (bx_set (z0 := z0) (z1 := z1) (z2 := z2) (z3 := z3) (z4 := z4) (z5 := z5) (z6 := z6) (z7 := z7) hX11 hl9 hc11)
        intro K12 hK12
        go_simp
        refine hK12.out _ _ (HSB.out _ HAP.out.bel) (fun hHeld => ?_)
        clear hK12 K12
        refine wpAnyH_done (by kernel_rfl) ?_ _
        go_wp2
        go_meet
        exact ⟨_, rfl, HAP⟩
    · intro K13 hK13
      go_simp
      refine hK13.out _ _ (HSB.out _ (hc0.alloc hc0.size _)) (fun hHeld => ?_)
      clear hK13 K13
      have hX13 := heap_new c0 (.cells #[.int .i64 0, .int .i64 0, .int .i64 0, .int .i64 0, .int .i64 0, .int .i64 0, .int .i64 0, .int .i64 0] 31)
      have hl13 := hc0.size
      have hc13 := hc0.alloc hc0.size (.cells #[.int .i64 0, .int .i64 0, .int .i64 0, .int .i64 0, .int .i64 0, .int .i64 0, .int .i64 0, .int .i64 0] 31)
      generalize c0.alloc (.cells #[.int .i64 0, .int .i64 0, .int .i64 0, .int .i64 0, .int .i64 0, .int .i64 0, .int .i64 0, .int .i64 0] 31) = c13 at *
      generalize c0.heap.size = X13 at *
      refine wpAnyH_ready (rs := [1]) (by kernel_rfl) (by simp) (AllReadyH.cons (o := { dst := some 13, op := _, type := _, pos := _, after := _, guard := _ }) rfl ?_ AllReadyH.nil)
      intro K14 hK14
      go_simp
      go_wp2_with (go_at_call 11; refine (HA _).out.mono ?_; rintro e c14 ⟨rfl, hb14⟩)
      have hc14 : Below w5.heap.size w5 c14 := hc13.trans (hb14.mono hc13.size)
      refine hK14.out _ _ (HSB.out _ hc14) (fun hHeld => ?_)
      clear hK14 K14
      have hX14 := box_below hX13 hb14
      refine wpAnyH_ready (rs := [3]) (by kernel_rfl) (by simp) (AllReadyH.cons (o := { dst := some 15, op := _, type := _, pos := _, after := _, guard := _ }) rfl ?_ AllReadyH.nil)
      intro K15 hK15
      go_simp
      go_wp2_with (go_at_call 11; refine (HB _).out.mono ?_; rintro e c15 ⟨rfl, hb15⟩)
      have hc15 : Below w5.heap.size w5 c15 := hc14.trans (hb15.mono hc14.size)
      refine hK15.out _ _ (HSB.out _ hc15) (fun hHeld => ?_)
      clear hK15 K15
      have hX15 := box_below hX14 hb15
      refine wpAnyH_ready (rs := [4]) (by kernel_rfl) (by simp) (AllReadyH.cons (o := { dst := some 16, op := _, type := _, pos := _, after := _, guard := _ }) rfl ?_ AllReadyH.nil)
      intro K16 hK16
      go_simp
      go_wp2_with (go_at_call 12; refine (HI _).out.mono ?_; rintro e c16 ⟨rfl, hb16⟩)
      have hc16 : Below w5.heap.size w5 c16 := hc15.trans (hb16.mono hc15.size)
      refine hK16.out _ _ (HSB.out _ hc16) (fun hHeld => ?_)
      clear hK16 K16
      have hX16 := box_below hX15 hb16
      refine wpAnyH_ready (rs := [6]) (by kernel_rfl) (by simp) (AllReadyH.cons (o := { dst := none, op := _, type := _, pos := _, after := _, guard := _ }) rfl ?_ AllReadyH.nil)
      have hx0 := cell_at hX16 0
      have hf0 := froz_at hX16 0
      have hx1 := cell_at hX16 1
      have hf1 := froz_at hX16 1
      have hx2 := cell_at hX16 2
      have hf2 := froz_at hX16 2
      have hx3 := cell_at hX16 3
      have hf3 := froz_at hX16 3
      have hx4 := cell_at hX16 4
      have hf4 := froz_at hX16 4
      have hx5 := cell_at hX16 5
      have hf5 := froz_at hX16 5
      have hx6 := cell_at hX16 6
      have hf6 := froz_at hX16 6
      have hx7 := cell_at hX16 7
      have hf7 := froz_at hX16 7
      have HAP := hid (bx_set (z0 := z0) (z1 := z1) (z2 := z2) (z3 := z3) (z4 := z4) (z5 := z5) (z6 := z6) (z7 := z7) hX16 hl13 hc16)
      intro K17 hK17
      go_simp
      refine hK17.out _ _ (HSB.out _ HAP.out.bel) (fun hHeld => ?_)
      clear hK17 K17
      refine wpAnyH_done (by kernel_rfl) ?_ _
      go_wp2
      go_meet
      exact ⟨_, rfl, HAP⟩
  case rest =>
  obtain ⟨xg, rfl, HAP⟩ := hcut
  rename World => w6
  have HX6 := hid (box_below HX5.out HAP.out.bel)
  have HG6 := hid HAP.out.x
  have HB6 := hid (HBw.out.trans (HAP.out.bel.mono HBw.out.size))
  clear HAP HX5 HP5 HSB HBw
  have i0 := cell_at HX6.out 0
  have j0 := cell_at HG6.out 0
  have i1 := cell_at HX6.out 1
  have j1 := cell_at HG6.out 1
  have i2 := cell_at HX6.out 2
  have j2 := cell_at HG6.out 2
  have i3 := cell_at HX6.out 3
  have j3 := cell_at HG6.out 3
  have i4 := cell_at HX6.out 4
  have j4 := cell_at HG6.out 4
  have i5 := cell_at HX6.out 5
  have j5 := cell_at HG6.out 5
  have i6 := cell_at HX6.out 6
  have j6 := cell_at HG6.out 6
  have i7 := cell_at HX6.out 7
  have j7 := cell_at HG6.out 7
  go_wp2_with fail
  refine (HE _).out.mono ?_
  rintro e w7 ⟨rfl, hb7⟩
  have HB7 := hid (HB6.out.trans (hb7.mono HB6.out.size))
  clear hb7
  go_wp2
  go_ret
  exact ⟨rfl, HB7.out⟩
end Go.Proofs.Ytcbcecogoemgeaa.Agl
