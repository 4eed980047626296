/- The program's ReadLabels: what readBraced and it come to. -/
import Derived.Test.YtbjlnaaheahhnaaDoorRs
namespace Go.Proofs.YtbjlnaaheahhnaaDoor.Lab
open Go.RowKit Go.Proofs.YtbjlnaaheahhnaaDoor.Str

theorem below_box {w w' : World} {o : Obj} (h : (w.alloc o).grownBy w' (some w.heap.size)) : Below w.heap.size w w' := by
  have hs : w.heap.size ≤ w'.heap.size := by have := h.size; simp at this; omega
  refine ⟨h.os, h.tape, h.output, hs, fun k hk => ?_⟩
  rw [h.block k (by simp; omega) (by simp; omega)]
  exact Below.heap_alloc w o k hk
theorem below_drew {b : Nat} {w w' : World} (h : Below b w w') : Below b w w'.drew := ⟨h.os, h.tape, h.output, h.size, h.block⟩
theorem own_drew {w : World} {base e size n : Nat} {v : Value} {xs : List Value} (h : w.ownsRow base e size v n xs) : w.drew.ownsRow base e size v n xs := own_below h (below_drew (Below.refl _ _))
end Go.Proofs.YtbjlnaaheahhnaaDoor.Lab
