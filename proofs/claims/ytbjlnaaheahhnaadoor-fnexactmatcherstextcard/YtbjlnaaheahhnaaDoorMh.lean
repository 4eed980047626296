/- Marks that are held: heldLabelS. -/
import Derived.Test.YtbjlnaaheahhnaaDoorMl
import Derived.Deep.RegionHeld3
namespace Go.Proofs.YtbjlnaaheahhnaaDoor.Lab
open Go.RowKit Go.Proofs.YtbjlnaaheahhnaaDoor.Str

/-- A text in a cell, and all that was there is as it was. -/
abbrev UU (w : World) (b o : Nat) (v : ByteArray) (w' : World) : Prop := w'.cell? ⟨b, o, none⟩ = some (.string v) ∧ b < w'.heap.size ∧ Below w.heap.size w w'
theorem UU.below {w W W' : World} {b o : Nat} {v : ByteArray} (h : UU w b o v W) (hb : Below W.heap.size W W') : UU w b o v W' :=
  ⟨(hb.cell (p := ⟨b, o, none⟩) h.2.1).trans h.1, Nat.lt_of_lt_of_le h.2.1 hb.size, h.2.2.trans (hb.mono h.2.2.size)⟩
theorem UU.drew {w W : World} {b o : Nat} {v : ByteArray} (h : UU w b o v W) : UU w b o v W.drew := ⟨h.1, h.2.1, h.2.2.drew⟩

end Go.Proofs.YtbjlnaaheahhnaaDoor.Lab
