/- What lists of structs with lists in them share. -/
import Derived.Test.YtaanafejhgijnaaGl
import Derived.BigQuiet
import Derived.Deep.QuietTactic
import Derived.Deep.RegionHeld3
import Derived.Deep.CutRange
namespace Go.Proofs.Ytaanafejhgijnaa.Rwc
open Go.RowKit

theorem hid {p : Prop} (h : p) : Hid p := h
theorem lt_at {x : World} {b : Nat} {o : Obj} (h : x.heap[b]? = some o) : b < x.heap.size := (Array.getElem?_eq_some_iff.1 h).1
theorem kept {x y : World} {b : Nat} {o : Obj} (h : x.heap[b]? = some o) (hb : Below x.heap.size x y) : y.heap[b]? = some o := (hb.block b (lt_at h)).trans h
/-- A number of the machine. -/
def In64 (x : Int) : Prop := -9223372036854775808 ≤ x ∧ x ≤ 9223372036854775807
theorem own_base {w : World} {base base' e size n : Nat} {v : Value} {xs : List Value} (h : w.ownsRow base e size v n xs) (hb : base' ≤ base) : w.ownsRow base' e size v n xs := by
  refine ⟨h.1, ?_⟩
  rcases h.2 with h2 | ⟨g, cap, cur, h1, h2, h3⟩
  · exact .inl h2
  · exact .inr ⟨g, cap, cur, h1, by omega, h3⟩
theorem own_set {w : World} {base e size n c g : Nat} {xs : List Value} {p : Addr} (h : w.ownsRow base e size (.slice (some ⟨g, 0, none⟩) n c) n xs) (hp : g ≠ p.block) (u : Value) : (w.setCell p u).ownsRow base e size (.slice (some ⟨g, 0, none⟩) n c) n xs := by
  refine h.kept (row := some p.block) ⟨rfl, rfl, rfl, by simp, fun j hj hne => Below.heap_setCell w p u j (fun e => hne (by rw [e]))⟩ (.inr ?_)
  intro e
  exact hp (Option.some.inj e)
theorem own_below {w w' : World} {base e size n : Nat} {v : Value} {xs : List Value} (h : w.ownsRow base e size v n xs) (hb : Below w.heap.size w w') : w'.ownsRow base e size v n xs :=
  h.kept (row := none) ⟨hb.os, hb.tape, hb.output, hb.size, fun k hk _ => hb.block k hk⟩ (by cases hv : v.ownBlock <;> simp)
theorem set_at {x : World} {b i : Nat} {cs : Array Value} {t : TypeId} {v : Value} (h : x.heap[b]? = some (.cells cs t)) : (x.setCell ⟨b, i, none⟩ v).heap[b]? = some (.cells (cs.setIfInBounds i v) t) := by
  have hlt := lt_at h
  have h' : x.heap[b] = .cells cs t := by simpa [Array.getElem?_eq_getElem hlt] using h
  show (x.heap.modify b _)[b]? = _
  rw [Array.getElem?_eq_getElem (by simpa using hlt), Array.getElem_modify_self, h']
  rfl
theorem set_else {x : World} {b : Nat} {p : Addr} {o : Obj} {v : Value} (h : x.heap[b]? = some o) (hp : b ≠ p.block) : (x.setCell p v).heap[b]? = some o := (Below.heap_setCell x p v b hp).trans h
def blk (a : Option Addr) : Nat := match a with
  | some x => x.block
  | none => 0
theorem own_grown {w x : World} {base e size n c g r : Nat} {xs : List Value} (h : w.ownsRow base e size (.slice (some ⟨g, 0, none⟩) n c) n xs) (hg : w.grownBy x (some r)) (hne : g ≠ r) : x.ownsRow base e size (.slice (some ⟨g, 0, none⟩) n c) n xs :=
  h.kept hg (.inr (fun e => hne (Option.some.inj e)))
theorem cell_at {w : World} {b : Nat} {t : TypeId} {cs : Array Value} {q : Nat × Nat} (h : w.heap[b]? = some (.cells cs t q)) (o : Nat) : w.cell? ⟨b, o, none⟩ = cs[o]? := by
  unfold World.cell?; simp only [h]; rfl
theorem froz_at {w : World} {b : Nat} {t : TypeId} {cs : Array Value} (h : w.heap[b]? = some (.cells cs t (0, 0))) (o : Nat) : w.frozen? ⟨b, o, none⟩ = false := by simp [World.frozen?, h]
theorem below_drew (w : World) : Below w.heap.size w w.drew := (Below.refl _ _).drew
end Go.Proofs.Ytaanafejhgijnaa.Rwc
