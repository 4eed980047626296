/- The model's reading of matchers: what l2ReadMatchers comes to. -/
import Derived.Test.YtbjlnaaheahhnaaDoorNf
namespace Go.Proofs.YtbjlnaaheahhnaaDoor.Lab
open Go.RowKit Go.Proofs.YtbjlnaaheahhnaaDoor.Str

/-- The box of a matcher, and the row of those that were read. -/
structure Bx (w0 : World) (X : Nat) (a : Option Addr) (c : Nat) (acc : List Pat.Mt) (nm : ByteArray) (o : Int) (v : ByteArray) (w : World) : Prop where
  box : w.heap[X]? = some (.cells #[.string nm, .int .i64 o, .string v] 37 (0, 0))
  row : w.ownsRow w0.heap.size 37 3 (.slice a acc.length c) acc.length (Pat.flatM acc)
  ne : (Value.slice a acc.length c).ownBlock ≠ some X
  bel : Below w0.heap.size w0 w
  le : w0.heap.size ≤ X
section
variable {w0 w w' : World} {X : Nat} {a : Option Addr} {c : Nat} {acc : List Pat.Mt} {nm v : ByteArray} {o : Int}
theorem Bx.below (h : Bx w0 X a c acc nm o v w) (hb : Below w.heap.size w w') : Bx w0 X a c acc nm o v w' :=
  ⟨(hb.block X (lt_block h.box)).trans h.box, own_below h.row hb, h.ne, h.bel.trans (hb.mono h.bel.size), h.le⟩
theorem Bx.kept {i : Nat} {u : Value} (h : Bx w0 X a c acc nm o v w) : (w.setCell ⟨X, i, none⟩ u).ownsRow w0.heap.size 37 3 (.slice a acc.length c) acc.length (Pat.flatM acc) :=
  h.row.kept (grown_setRow (grown_refl w (some X)) u) (.inr h.ne)
theorem Bx.set0 {x : ByteArray} (h : Bx w0 X a c acc nm o v w) : Bx w0 X a c acc x o v (w.setCell ⟨X, 0, none⟩ (.string x)) := ⟨tri_set0 h.box, h.kept, h.ne, h.bel.setCell h.le _, h.le⟩
theorem Bx.set1 {x : Int} (h : Bx w0 X a c acc nm o v w) : Bx w0 X a c acc nm x v (w.setCell ⟨X, 1, none⟩ (.int .i64 x)) := ⟨tri_set1 h.box, h.kept, h.ne, h.bel.setCell h.le _, h.le⟩
theorem Bx.set2 {x : ByteArray} (h : Bx w0 X a c acc nm o v w) : Bx w0 X a c acc nm o x (w.setCell ⟨X, 2, none⟩ (.string x)) := ⟨tri_set2 h.box, h.kept, h.ne, h.bel.setCell h.le _, h.le⟩
end
theorem Bx.new {w0 w : World} {a : Option Addr} {c : Nat} {acc : List Pat.Mt} (h : w.ownsRow w0.heap.size 37 3 (.slice a acc.length c) acc.length (Pat.flatM acc)) (hb : Below w0.heap.size w0 w) : Bx w0 w.heap.size a c acc ⟨#[]⟩ 0 ⟨#[]⟩ (w.alloc (.cells #[.string ⟨#[]⟩, .int .i64 0, .string ⟨#[]⟩] 37)) :=
  ⟨heap_alloc_new w _, h.alloc _, fun e => by have := (h.lt _ e).2; omega, hb.alloc hb.size _, hb.size⟩
def lfM (s : ByteArray) (t : Nat) : Option (List Pat.Mt × Nat) := (lstM s t).filter fun q => Pat.goodM q.1
theorem lfM_some {s : ByteArray} {t k : Nat} {ls : List Pat.Mt} (h : lstM s t = some (ls, k)) (hg : Pat.goodM ls = true) : lfM s t = some (ls, k) := by unfold lfM; rw [h]; simp [hg]
theorem lfM_none {s : ByteArray} {t : Nat} (h : lstM s t = none) : lfM s t = none := by unfold lfM; rw [h]; rfl
theorem lfM_bad {s : ByteArray} {t k : Nat} {ls : List Pat.Mt} (h : lstM s t = some (ls, k)) (hg : Pat.goodM ls = false) : lfM s t = none := by unfold lfM; rw [h]; simp [hg]
theorem lfM_long {s : ByteArray} {t k : Nat} {acc : List Pat.Mt} (h : lstM s t = (rdM s k).map fun q => (acc ++ q.1, q.2)) (hl : 10 < acc.length) : lfM s t = none := by
  unfold lfM; rw [h]
  cases rdM s k with
  | none => rfl
  | some q =>
    have : Pat.goodM (acc ++ q.1) = false := Pat.gm_long (by simp; omega)
    simp [this]
theorem rdM_end {s : ByteArray} {t i k : Nat} {p : Pat.Mt} {acc : List Pat.Mt} (h : lstM s t = (rdM s i).map fun q => (acc ++ q.1, q.2)) (h1 : oneM s i = some (p, k)) (h2 : (by' s)[k]? = some 125) : lstM s t = some (acc ++ [p], k + 1) := by
  rw [h, rd_someM h1, if_pos h2]; rfl
theorem rdM_next {s : ByteArray} {t i k : Nat} {p : Pat.Mt} {acc : List Pat.Mt} (h : lstM s t = (rdM s i).map fun q => (acc ++ q.1, q.2)) (h1 : oneM s i = some (p, k)) (h2 : (by' s)[k]? = some 44) : lstM s t = (rdM s (k + 1)).map fun q => ((acc ++ [p]) ++ q.1, q.2) := by
  rw [h, rd_someM h1, if_neg (by rw [h2]; decide), if_pos h2, Option.map_map]
  congr 1
  funext q
  simp
theorem rdM_bad {s : ByteArray} {t i k : Nat} {p : Pat.Mt} {acc : List Pat.Mt} (h : lstM s t = (rdM s i).map fun q => (acc ++ q.1, q.2)) (h1 : oneM s i = some (p, k)) (h2 : (by' s)[k]? ≠ some 125) (h3 : (by' s)[k]? ≠ some 44) : lstM s t = none := by
  rw [h, rd_someM h1, if_neg h2, if_neg h3]; rfl
theorem rdM_nil {s : ByteArray} {t i : Nat} {acc : List Pat.Mt} (h : lstM s t = (rdM s i).map fun q => (acc ++ q.1, q.2)) (h1 : oneM s i = none) : lstM s t = none := by
  rw [h, rd_noneM h1]; rfl
/-- What the call of l2ReadMatchers leaves. -/
def RdM (s : ByteArray) (t : Nat) (w : World) (e : Ending) (w' : World) : Prop :=
  Below w.heap.size w w' ∧ ((lfM s t = none ∧ e = .returned (.tuple #[.slice none 0 0, .int .i64 (-1)])) ∨ ∃ ls k a c, lfM s t = some (ls, k) ∧ e = .returned (.tuple #[.slice a ls.length c, .int .i64 ((k : Nat) : Int)]) ∧ w'.ownsRow w.heap.size 37 3 (.slice a ls.length c) ls.length (Pat.flatM ls))
end Go.Proofs.YtbjlnaaheahhnaaDoor.Lab
