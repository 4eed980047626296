/- The walk of FnExactNewHead. -/
import Derived.Test.YtnhikdlhjdjmdaaXn
namespace Go.Proofs.Ytnhikdlhjdjmdaa.Hdn
open Go.RowKit Go.Proofs.Ytnhikdlhjdjmdaa.Smp

theorem four {x : World} {b : Nat} {v0 v1 v2 v3 : Value} {t : TypeId} (h : x.heap[b]? = some (.cells #[v0, v1, v2, v3] t)) : x.cell? ⟨b, 0, none⟩ = some v0 ∧ x.cell? ⟨b, 1, none⟩ = some v1 ∧ x.cell? ⟨b, 2, none⟩ = some v2 ∧ x.cell? ⟨b, 3, none⟩ = some v3 := by
  refine ⟨?_, ?_, ?_, ?_⟩ <;> simp [World.cell?, h]
theorem lt_at {x : World} {b : Nat} {o : Obj} (h : x.heap[b]? = some o) : b < x.heap.size := (Array.getElem?_eq_some_iff.1 h).1
theorem kept {x y : World} {b : Nat} {o : Obj} (h : x.heap[b]? = some o) (hb : Below x.heap.size x y) : y.heap[b]? = some o := (hb.block b (lt_at h)).trans h
/-- The model's head, the program's head, each in its box. -/
structure Bx (w : World) (W L N : Int) (b1 b2 : Nat) (x : World) : Prop where
  one : x.heap[b1]? = some (.cells #[.int .i64 W, .int .i64 L, .int .i64 N, .slice none 0 0] 42)
  two : x.heap[b2]? = some (.cells #[.int .i64 W, .int .i64 L, .int .i64 N, .slice none 0 0] 42)
  bel : Below w.heap.size w x
theorem Bx.below {w : World} {W L N : Int} {b1 b2 : Nat} {x y : World} (h : Bx w W L N b1 b2 x) (hb : Below x.heap.size x y) : Bx w W L N b1 b2 y := ⟨kept h.one hb, kept h.two hb, h.bel.trans (hb.mono h.bel.size)⟩
/-- A new box with a head in it. -/
def boxed (x : World) (W L N : Int) : World := x.alloc (.cells #[.int .i64 W, .int .i64 L, .int .i64 N, .slice none 0 0] 42)
theorem boxed_new (x : World) (W L N : Int) : (boxed x W L N).heap[x.heap.size]? = some (.cells #[.int .i64 W, .int .i64 L, .int .i64 N, .slice none 0 0] 42) := heap_alloc_new x _
theorem boxed_below (x : World) (W L N : Int) : Below x.heap.size x (boxed x W L N) := (Below.refl x.heap.size x).alloc (Nat.le_refl _) _
set_option maxHeartbeats 2000000 in
theorem walkNew (W L : Int) (w : World) : Calls Try.prog 5 #[.int .i64 W, .int .i64 L] w fun e w' => e = .returned (.bool true) ∧ Below w.heap.size w w' := by
  go_enter Try.func5, Try.ntmps5
  go_wp2_with fail
  refine (f21 W L _).mono ?_
  rintro e w1 ⟨rfl, hb1⟩
  have HB1 := hid hb1
  clear hb1
  obtain ⟨A, eA⟩ : ∃ A, A = (nh W L).1 := ⟨_, rfl⟩
  obtain ⟨B, eB⟩ : ∃ B, B = (nh W L).2.1 := ⟨_, rfl⟩
  obtain ⟨C, eC⟩ : ∃ C, C = (nh W L).2.2 := ⟨_, rfl⟩
  have EA := hid eA
  have EB := hid eB
  have EC := hid eC
  rw [← eA, ← eB, ← eC]
  clear eA eB eC
  go_wp2_with fail
  obtain ⟨x1, hx1⟩ : ∃ x, x = boxed w1 A B C := ⟨_, rfl⟩
  have HX1 : Hid (x1.heap[w1.heap.size]? = some (.cells #[.int .i64 A, .int .i64 B, .int .i64 C, .slice none 0 0] 42) ∧ Below w.heap.size w x1) := by
    rw [hx1]; exact ⟨boxed_new _ _ _ _, HB1.out.trans ((boxed_below w1 A B C).mono HB1.out.size)⟩
  rw [boxed] at hx1
  rw [← hx1]
  clear hx1
  generalize w1.heap.size = b1 at *
  refine (f22 W L _).mono ?_
  rw [← EA.out, ← EB.out, ← EC.out]
  rintro e w2 ⟨rfl, hb2⟩
  have HX2 : Hid (Bx w A B C b1 w2.heap.size (boxed w2 A B C)) := by
    have h1 := boxed_below w2 A B C
    have h2 := HX1.out.2.trans (hb2.mono HX1.out.2.size)
    exact ⟨kept (kept HX1.out.1 hb2) h1, boxed_new _ _ _ _, h2.trans (h1.mono h2.size)⟩
  clear hb2 HX1
  rw [boxed] at HX2
  obtain ⟨c0, c1, c2, c3⟩ := four HX2.out.one
  go_wp2_with fail
  generalize w2.heap.size = b2 at *
  generalize w2.alloc _ = x2 at *
  refine (f23n A B C _).mono ?_
  rintro e w3 ⟨rfl, hb3⟩
  have HX3 := hid (HX2.out.below hb3)
  clear hb3 HX2 c0 c1 c2 c3
  obtain ⟨c0, c1, c2, c3⟩ := four HX3.out.one
  obtain ⟨d0, d1, d2, d3⟩ := four HX3.out.two
  go_wp2_with fail
  refine (f24n A B C 1 _).mono ?_
  rintro e w4 ⟨rfl, hb4⟩
  have HX4 := hid (HX3.out.below hb4)
  clear hb4 HX3 c0 c1 c2 c3 d0 d1 d2 d3
  obtain ⟨c0, c1, c2, c3⟩ := four HX4.out.one
  obtain ⟨d0, d1, d2, d3⟩ := four HX4.out.two
  go_wp2_with fail
  refine (f25n A B C 1 _).mono ?_
  rintro e w5 ⟨rfl, hb5⟩
  have HX5 := hid (HX4.out.below hb5)
  clear hb5 HX4 c0 c1 c2 c3 d0 d1 d2 d3
  go_wp2_with fail
  refine (f22 W L _).mono ?_
  rw [← EA.out, ← EB.out, ← EC.out]
  rintro e w6 ⟨rfl, hb6⟩
  have HX6 := hid (HX5.out.below hb6)
  clear hb6 HX5
  have HX7 : Hid (Bx w A B C b1 b2 (boxed w6 A B C)) := HX6.out.below (boxed_below w6 A B C)
  rw [boxed] at HX7
  obtain ⟨c0, c1, c2, c3⟩ := four HX7.out.one
  clear HX6
  go_wp2_with fail
  generalize w6.alloc _ = x7 at *
  refine (f23n A B C _).mono ?_
  rintro e w8 ⟨rfl, hb8⟩
  have HX8 := hid (HX7.out.below hb8)
  clear hb8 HX7 c0 c1 c2 c3
  obtain ⟨d0, d1, d2, d3⟩ := four HX8.out.two
  go_wp2_with fail
  refine (f25n A B C 1 _).mono ?_
  rintro e w9 ⟨rfl, hb9⟩
  have HX9 := hid (HX8.out.below hb9)
  clear hb9 HX8 d0 d1 d2 d3
  go_wp2
  go_ret
  exact ⟨rfl, HX9.out.bel⟩
end Go.Proofs.Ytnhikdlhjdjmdaa.Hdn
