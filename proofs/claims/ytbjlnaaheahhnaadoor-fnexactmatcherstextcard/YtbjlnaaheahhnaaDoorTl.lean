/- The text of labels: what labelText, bracedText and l2Text come to. -/
import Derived.Test.YtbjlnaaheahhnaaDoorQu
import Derived.Test.YtbjlnaaheahhnaaDoorSel
namespace Go.Proofs.YtbjlnaaheahhnaaDoor.Lab
open Go.RowKit Go.Proofs.YtbjlnaaheahhnaaDoor.Str

abbrev mkS (l : List UInt8) : ByteArray := ⟨l.toArray⟩
def labT (p : Lb) : List UInt8 := p.1.data.toList ++ [61] ++ quoB p.2.data.toList
def bodyT (ls : List Lb) : List UInt8 := Lib.join (ls.map labT) [44]
def txtL (ls : List Lb) : List UInt8 := [123] ++ bodyT ls ++ [125]

theorem mkS_app (a b : List UInt8) : mkS a ++ mkS b = mkS (a ++ b) := by
  apply ByteArray.ext; simp
theorem mkS_self (s : ByteArray) : mkS s.data.toList = s := by apply ByteArray.ext; simp
theorem lab_str (p : Lb) : p.1 ++ (⟨#[61]⟩ : ByteArray) ++ mkS (quoB p.2.data.toList) = mkS (labT p) := by
  apply ByteArray.ext; simp [mkS, labT]

/-- A label in its box. -/
abbrev S1 (w : World) (p : Lb) (w' : World) : Prop :=
  w'.cell? ⟨w.heap.size, 0, none⟩ = some (.string p.1) ∧ w'.cell? ⟨w.heap.size, 1, none⟩ = some (.string p.2) ∧ Below w.heap.size w w'
theorem S1.below {w W W' : World} {p : Lb} (h : S1 w p W) (hb : Below W.heap.size W W') : S1 w p W' := by
  obtain ⟨h1, h2, h5⟩ := h
  have l := World.block_lt_of_cell? W _ h2
  exact ⟨(hb.cell (p := ⟨w.heap.size, 0, none⟩) l).trans h1, (hb.cell (p := ⟨w.heap.size, 1, none⟩) l).trans h2, h5.trans (hb.mono h5.size)⟩
theorem S1.alloc {w W : World} {p : Lb} (h : S1 w p W) (o : Obj) : S1 w p (W.alloc o) := h.below ((Below.refl _ _).alloc (Nat.le_refl _) o)
theorem S1.drew {w W : World} {p : Lb} (h : S1 w p W) : S1 w p W.drew := ⟨h.1, h.2.1, h.2.2.drew⟩
theorem quoB_len (l : List UInt8) : (quoB l).length ≤ 2 * l.length + 2 := by
  have := quoP_len l
  unfold quoB; simp; omega
theorem mkS_size (l : List UInt8) : (mkS l).size = l.length := by simp [ByteArray.size]
theorem add_run (a b : ByteArray) (h : a.size + b.size ≤ 9223372036854775807) : ∀ w, (Op.stringOp .add a b).run Tryd.prog w = .ok (.string (a ++ b)) w := fun w => run_string_add_sum w a b h

end Go.Proofs.YtbjlnaaheahhnaaDoor.Lab
