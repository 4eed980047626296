/- Rules: toRelabel. -/
import Derived.Test.YtbijhkbmgljjiaaGreatDoorRa
import Derived.Deep.CutRange
namespace Go.Proofs.YtbijhkbmgljjiaaGreatDoor.Rel
open Go.RowKit Go.Proofs.YtbijhkbmgljjiaaGreatDoor.Fil

theorem lt_of_at {w : World} {b : Nat} {x : Obj} (h : w.heap[b]? = some x) : b < w.heap.size := by
  rcases Nat.lt_or_ge b w.heap.size with h1 | h1
  · exact h1
  · rw [Array.getElem?_eq_none h1] at h; cases h
theorem set_at {w : World} {b i : Nat} {arr : Array Value} {t : TypeId} {v : Value} (h : w.heap[b]? = some (.cells arr t)) : (w.setCell ⟨b, i, none⟩ v).heap[b]? = some (.cells (arr.setIfInBounds i v) t) := by
  have hlt := lt_of_at h
  have h' : w.heap[b] = .cells arr t := by simpa [Array.getElem?_eq_getElem hlt] using h
  show (w.heap.modify b _)[b]? = _
  rw [Array.getElem?_eq_getElem (by simpa using hlt), Array.getElem_modify_self, h']
  rfl
theorem HasT.set {w : World} {a : Option Addr} {ss : List ByteArray} {p : Addr} {u : Value} (h : HasT w a ss) (hp : ∀ x, a = some x → x.block ≠ p.block) : HasT (w.setCell p u) a ss := by
  rcases h with h | ⟨b, off, rfl, h2, h3⟩
  · exact .inl h
  · refine .inr ⟨b, off, rfl, by simpa using h2, fun i hi => ?_⟩
    rw [← h3 i hi]
    have := Below.heap_setCell w p u b (hp _ rfl)
    simp only [World.cell?, this]

/-- The box, the rule that is being made, its place in the answer. -/
structure Bx (w : World) (ss : List ByteArray) (B1 B2 B3 g : Nat) (b o : Array Value) (x : World) : Prop where
  one : x.heap[B1]? = some (.cells b 24)
  two : ∃ z0 z1 z2 z3 z4 z5 z6, x.heap[B2]? = some (.cells #[z0, z1, z2, z3, z4, z5, z6] 24)
  three : x.heap[B3]? = some (.cells o 27)
  txt : HasT x (some ⟨g, 0, none⟩) ss
  bel : Below w.heap.size w x
theorem Bx.set {w : World} {ss : List ByteArray} {B1 B2 B3 g i : Nat} {b o o' : Array Value} {v : Value} {x : World} (h : Bx w ss B1 B2 B3 g b o x) (n1 : B1 ≠ B3) (n2 : B2 ≠ B3) (n3 : g ≠ B3) (hB : w.heap.size ≤ B3) (ho : o.setIfInBounds i v = o') : Bx w ss B1 B2 B3 g b o' (x.setCell ⟨B3, i, none⟩ v) := by
  obtain ⟨h1, ⟨z0, z1, z2, z3, z4, z5, z6, h2⟩, h3, h4, h5⟩ := h
  refine ⟨?_, ⟨z0, z1, z2, z3, z4, z5, z6, ?_⟩, ?_, HasT.set h4 ?_, h5.setCell hB v⟩
  · rw [Below.heap_setCell _ _ _ _ n1]; exact h1
  · rw [Below.heap_setCell _ _ _ _ n2]; exact h2
  · rw [set_at h3, ho]
  · rintro x' e; cases e; exact n3

end Go.Proofs.YtbijhkbmgljjiaaGreatDoor.Rel
