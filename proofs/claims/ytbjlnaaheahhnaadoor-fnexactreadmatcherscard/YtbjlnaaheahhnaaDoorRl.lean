/- One label is read: what readLabel comes to. -/
import Derived.Test.YtbjlnaaheahhnaaDoorQr
import Derived.Laws.ResultCell
namespace Go.Proofs.YtbjlnaaheahhnaaDoor.Lab
open Go.RowKit Go.Proofs.YtbjlnaaheahhnaaDoor.Str

theorem one_eq (s : ByteArray) (t : Nat) : one s t = if (by' s)[nmE (by' s) t]? = some 61 then (quo s (nmE (by' s) t + 1)).map fun p => ((s.extract t (nmE (by' s) t), mkS p.1), p.2) else none := by
  unfold one quo
  by_cases h1 : (by' s)[nmE (by' s) t]? = some 61
  · by_cases h2 : (by' s)[nmE (by' s) t + 1]? = some 34
    · rw [if_pos ⟨h1, h2⟩, if_pos h1, if_pos h2]
    · rw [if_neg (fun h => h2 h.2), if_pos h1, if_neg h2]; rfl
  · rw [if_neg (fun h => h1 h.1), if_neg h1]
/-- What the call of readLabel leaves. -/
def LabR (R : Nat) (s : ByteArray) (t : Nat) (w : World) (e : Ending) (w' : World) : Prop :=
  w.grownBy w' (some R) ∧ ((one s t = none ∧ ∃ a b, e = .returned (.tuple #[.agg #[.string a, .string b], .bool false])) ∨ ∃ p k, one s t = some (p, k) ∧ e = .returned (.tuple #[.agg #[.string p.1, .string p.2], .bool true]) ∧ Rdr R s k w')
theorem two_set0 {w : World} {b : Nat} {u v u' : Value} {t : TypeId} (h : w.heap[b]? = some (.cells #[u, v] t (0, 0))) : (w.setCell ⟨b, 0, none⟩ u').heap[b]? = some (.cells #[u', v] t (0, 0)) := by
  have hlt := lt_block h
  have h' : w.heap[b] = .cells #[u, v] t (0, 0) := by simpa [Array.getElem?_eq_getElem hlt] using h
  show (w.heap.modify b _)[b]? = _
  rw [Array.getElem?_eq_getElem (by simpa using hlt), Array.getElem_modify_self, h']
  rfl
/-- A block beyond w is written: w has only grown. -/
theorem grown_new {w0 w : World} {R : Option Nat} {X i : Nat} {v : Value} (h : w0.grownBy w R) (hX : w0.heap.size ≤ X) : w0.grownBy (w.setCell ⟨X, i, none⟩ v) R := by
  refine ⟨h.os, h.tape, h.output, by simpa using h.size, fun k hk hr => ?_⟩
  rw [← h.block k hk hr]
  show (w.heap.modify X _)[k]? = _
  rw [Array.getElem?_modify]
  rw [if_neg (by omega)]
theorem rdr_new {w : World} {R X i : Nat} {s : ByteArray} {t : Nat} {v : Value} (h : Rdr R s t w) (hX : R ≠ X) : Rdr R s t (w.setCell ⟨X, i, none⟩ v) := by
  refine ⟨?_, h.2⟩
  rw [← h.1]
  show (w.heap.modify X _)[R]? = _
  rw [Array.getElem?_modify]
  rw [if_neg (by omega)]
theorem kept_at {w w' : World} {R X : Nat} {o : Obj} (h : w.grownBy w' (some R)) (hX : w.heap[X]? = some o) (hR : X ≠ R) : w'.heap[X]? = some o := (h.block X (lt_block hX) (by simp; omega)).trans hX

end Go.Proofs.YtbjlnaaheahhnaaDoor.Lab
