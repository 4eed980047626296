/- What compareLabel, compareLists and both CompareLabels come to. -/
import Derived.Test.YtpeffjkagaegjaaDoorCm
import Derived.Deep.RegionHeld3
namespace Go.Proofs.YtpeffjkagaegjaaDoor.Lab
open Go.RowKit Go.Proofs.YtpeffjkagaegjaaDoor.Str

theorem two0 {w : World} {b : Nat} {u v : Value} {t : TypeId} (h : w.heap[b]? = some (.cells #[u, v] t (0, 0))) : w.cell? ⟨b, 0, none⟩ = some u := by simp [World.cell?, h]
theorem two1 {w : World} {b : Nat} {u v : Value} {t : TypeId} (h : w.heap[b]? = some (.cells #[u, v] t (0, 0))) : w.cell? ⟨b, 1, none⟩ = some v := by simp [World.cell?, h]
theorem lt_block {w : World} {k : Nat} {o : Obj} (h : w.heap[k]? = some o) : k < w.heap.size := (Array.getElem?_eq_some_iff.1 h).1
theorem box_below {w w' : World} {k : Nat} {o : Obj} (h : w.heap[k]? = some o) (hb : Below w.heap.size w w') : w'.heap[k]? = some o := (hb.block k (lt_block h)).trans h
theorem box_alloc {w : World} {k : Nat} {o : Obj} (h : w.heap[k]? = some o) (u : Obj) : (w.alloc u).heap[k]? = some o := (Below.heap_alloc w u k (lt_block h)).trans h

/-- Two labels in their boxes. -/
abbrev SS (w : World) (p q : Lb) (w' : World) : Prop :=
  w'.cell? ⟨w.heap.size, 0, none⟩ = some (.string p.1) ∧ w'.cell? ⟨w.heap.size, 1, none⟩ = some (.string p.2) ∧ w'.cell? ⟨w.heap.size + 1, 0, none⟩ = some (.string q.1) ∧ w'.cell? ⟨w.heap.size + 1, 1, none⟩ = some (.string q.2) ∧ Below w.heap.size w w'
theorem SS.below {w W W' : World} {p q : Lb} (h : SS w p q W) (hb : Below W.heap.size W W') : SS w p q W' := by
  obtain ⟨h1, h2, h3, h4, h5⟩ := h
  have l := World.block_lt_of_cell? W _ h4
  have l0 : w.heap.size < W.heap.size := by simp at l; omega
  exact ⟨(hb.cell (p := ⟨w.heap.size, 0, none⟩) l0).trans h1, (hb.cell (p := ⟨w.heap.size, 1, none⟩) l0).trans h2, (hb.cell (p := ⟨w.heap.size + 1, 0, none⟩) l).trans h3, (hb.cell (p := ⟨w.heap.size + 1, 1, none⟩) l).trans h4, h5.trans (hb.mono h5.size)⟩
theorem SS.alloc {w W : World} {p q : Lb} (h : SS w p q W) (o : Obj) : SS w p q (W.alloc o) := h.below ((Below.refl _ _).alloc (Nat.le_refl _) o)
theorem SS.drew {w W : World} {p q : Lb} (h : SS w p q W) : SS w p q W.drew := ⟨h.1, h.2.1, h.2.2.1, h.2.2.2.1, h.2.2.2.2.drew⟩
theorem SS.new (w : World) (p q : Lb) : SS w p q ((w.alloc (.cells #[.string p.1, .string p.2] 34)).alloc (.cells #[.string q.1, .string q.2] 34)) := by
  have A1 := box_alloc (heap_alloc_new w (.cells #[.string p.1, .string p.2] 34)) (.cells #[.string q.1, .string q.2] 34)
  have B1 := heap_alloc_new (w.alloc (.cells #[.string p.1, .string p.2] 34)) (.cells #[.string q.1, .string q.2] 34)
  simp only [World.size_alloc] at B1
  exact ⟨two0 A1, two1 A1, two0 B1, two1 B1, ((Below.refl w.heap.size w).alloc (Nat.le_refl _) _).alloc (by simp) _⟩

noncomputable def cmpR (la lb : List Lb) : Int := if goodL la = true ∧ goodL lb = true then cmpList la lb else -2
theorem cmpR_good {la lb : List Lb} (h1 : goodL la = true) (h2 : goodL lb = true) : cmpR la lb = cmpList la lb := by unfold cmpR; rw [if_pos ⟨h1, h2⟩]
theorem cmpR_no1 {la lb : List Lb} (h1 : goodL la = false) : cmpR la lb = -2 := by unfold cmpR; rw [if_neg (by simp [h1])]
theorem cmpR_no2 {la lb : List Lb} (h1 : goodL lb = false) : cmpR la lb = -2 := by unfold cmpR; rw [if_neg (by simp [h1])]

end Go.Proofs.YtpeffjkagaegjaaDoor.Lab
