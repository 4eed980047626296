/- The walk of FnExactMergeAgg. -/
import Derived.Test.YtpbnneelpdacdaaAe
import Derived.Test.YtpbnneelpdacdaaAb
import Derived.Deep.CutRange
namespace Go.Proofs.Ytpbnneelpdacdaa.Agl
open Go.RowKit

theorem lt_block {w : World} {b : Nat} {o : Obj} (h : w.heap[b]? = some o) : b < w.heap.size := (Array.getElem?_eq_some_iff.1 h).1
theorem box_below {w w' : World} {b : Nat} {o : Obj} (h : w.heap[b]? = some o) (hb : Below w.heap.size w w') : w'.heap[b]? = some o := (hb.block b (lt_block h)).trans h
theorem set_cell {w : World} {b o : Nat} {t : TypeId} {cs : Array Value} {q : Nat × Nat} {x : Value} (h : w.heap[b]? = some (.cells cs t q)) : (w.setCell ⟨b, o, none⟩ x).heap[b]? = some (.cells (cs.setIfInBounds o x) t q) := by
  have hlt : b < w.heap.size := (Array.getElem?_eq_some_iff.1 h).1
  have h' : w.heap[b] = .cells cs t q := by simpa [Array.getElem?_eq_getElem hlt] using h
  show (w.heap.modify b _)[b]? = _
  rw [Array.getElem?_eq_getElem (by simpa using hlt), Array.getElem_modify_self, h']
  rfl
theorem cell_at {w : World} {b : Nat} {t : TypeId} {cs : Array Value} {q : Nat × Nat} (h : w.heap[b]? = some (.cells cs t q)) (o : Nat) : w.cell? ⟨b, o, none⟩ = cs[o]? := by
  unfold World.cell?; simp only [h]; rfl
theorem froz_at {w : World} {b : Nat} {t : TypeId} {cs : Array Value} (h : w.heap[b]? = some (.cells cs t (0, 0))) (o : Nat) : w.frozen? ⟨b, o, none⟩ = false := by simp [World.frozen?, h]
theorem heap_new (w : World) (o : Obj) : (w.alloc o).heap[w.heap.size]? = some o := heap_alloc_new w o
/-- The answer lies in a box of its own. -/
structure Bx (w1 : World) (b : Nat) (z0 z1 z2 z3 z4 z5 z6 z7 : Int) (w : World) : Prop where
  x : w.heap[b]? = some (.cells #[.int .i64 z0, .int .i64 z1, .int .i64 z2, .int .i64 z3, .int .i64 z4, .int .i64 z5, .int .i64 z6, .int .i64 z7] 33)
  lo : w1.heap.size ≤ b
  bel : Below w1.heap.size w1 w
theorem bx_set {w1 w : World} {b : Nat} {z0 z1 z2 z3 z4 z5 z6 z7 : Int} (h : w.heap[b]? = some (.cells #[.int .i64 0, .int .i64 0, .int .i64 0, .int .i64 0, .int .i64 0, .int .i64 0, .int .i64 0, .int .i64 0] 33)) (hl : w1.heap.size ≤ b) (hb : Below w1.heap.size w1 w) : Bx w1 b z0 z1 z2 z3 z4 z5 z6 z7 ((((((((w.setCell ⟨b, 0, none⟩ (.int .i64 z0)).setCell ⟨b, 1, none⟩ (.int .i64 z1)).setCell ⟨b, 2, none⟩ (.int .i64 z2)).setCell ⟨b, 3, none⟩ (.int .i64 z3)).setCell ⟨b, 4, none⟩ (.int .i64 z4)).setCell ⟨b, 5, none⟩ (.int .i64 z5)).setCell ⟨b, 6, none⟩ (.int .i64 z6)).setCell ⟨b, 7, none⟩ (.int .i64 z7)) :=
  ⟨by have := (set_cell (o := 7) (x := .int .i64 z7) (set_cell (o := 6) (x := .int .i64 z6) (set_cell (o := 5) (x := .int .i64 z5) (set_cell (o := 4) (x := .int .i64 z4) (set_cell (o := 3) (x := .int .i64 z3) (set_cell (o := 2) (x := .int .i64 z2) (set_cell (o := 1) (x := .int .i64 z1) (set_cell (o := 0) (x := .int .i64 z0) h)))))))); simpa using this, hl, ((((((((hb.setCell (p := ⟨b, 0, none⟩) hl _).setCell (p := ⟨b, 1, none⟩) hl _).setCell (p := ⟨b, 2, none⟩) hl _).setCell (p := ⟨b, 3, none⟩) hl _).setCell (p := ⟨b, 4, none⟩) hl _).setCell (p := ⟨b, 5, none⟩) hl _).setCell (p := ⟨b, 6, none⟩) hl _).setCell (p := ⟨b, 7, none⟩) hl _)⟩
theorem bx_new {w1 w : World} {z0 z1 z2 z3 z4 z5 z6 z7 : Int} (hb : Below w1.heap.size w1 w) : Bx w1 w.heap.size z0 z1 z2 z3 z4 z5 z6 z7 (w.alloc (.cells #[.int .i64 z0, .int .i64 z1, .int .i64 z2, .int .i64 z3, .int .i64 z4, .int .i64 z5, .int .i64 z6, .int .i64 z7] 33)) := ⟨heap_new _ _, hb.size, hb.alloc hb.size _⟩
theorem s16_of {x0 x1 x2 x3 x4 x5 x6 x7 y0 y1 y2 y3 y4 y5 y6 y7 : Int} {A B : Nat} {w : World} (h1 : w.heap[A]? = some (.cells #[.int .i64 x0, .int .i64 x1, .int .i64 x2, .int .i64 x3, .int .i64 x4, .int .i64 x5, .int .i64 x6, .int .i64 x7] 77)) (h2 : w.heap[B]? = some (.cells #[.int .i64 y0, .int .i64 y1, .int .i64 y2, .int .i64 y3, .int .i64 y4, .int .i64 y5, .int .i64 y6, .int .i64 y7] 77)) : S16 A B x0 x1 x2 x3 x4 x5 x6 x7 y0 y1 y2 y3 y4 y5 y6 y7 w :=
  ⟨cell_at h1 0, cell_at h1 1, cell_at h1 2, cell_at h1 3, cell_at h1 4, cell_at h1 5, cell_at h1 6, cell_at h1 7, cell_at h2 0, cell_at h2 1, cell_at h2 2, cell_at h2 3, cell_at h2 4, cell_at h2 5, cell_at h2 6, cell_at h2 7⟩

end Go.Proofs.Ytpbnneelpdacdaa.Agl
