/- Where a name stands in good labels: the binary search. -/
import Derived.Test.YtncmpegfbbiicaaCb
import Derived.Test.YtncmpegfbbiicaaCn
namespace Go.Proofs.Ytncmpegfbbiicaa.Lab
open Go.RowKit Go.Proofs.Ytncmpegfbbiicaa.Str

theorem ret_tup {i : Int} {a b : Bool} (h : a = b) : Ending.returned (.tuple #[.int .i64 i, .bool a]) = .returned (.tuple #[.int .i64 i, .bool b]) := by rw [h]
/-- lo is where x stands, or is to stand. -/
structure Place (ls : List Lb) (x : Lb) (lo : Nat) : Prop where
  le : lo ≤ ls.length
  less : ∀ i, i < lo → cmpN (ls.getD i e0) x < 0
  geq : lo < ls.length → 0 ≤ cmpN (ls.getD lo e0) x

abbrev TT (w : World) (b off lo : Nat) (p x : Lb) (w' : World) : Prop :=
  w'.cell? ⟨b, off + lo * 2, none⟩ = some (.string p.1) ∧ w'.cell? ⟨b, off + lo * 2 + 1, none⟩ = some (.string p.2) ∧ w'.cell? ⟨w.heap.size, 0, none⟩ = some (.string x.1) ∧ w'.cell? ⟨w.heap.size, 1, none⟩ = some (.string x.2) ∧ Below w.heap.size w w' ∧ b < w'.heap.size
theorem TT.below {w W W' : World} {b off lo : Nat} {p x : Lb} (h : TT w b off lo p x W) (hb : Below W.heap.size W W') : TT w b off lo p x W' := by
  obtain ⟨h1, h2, h3, h4, h5, h6⟩ := h
  have l := World.block_lt_of_cell? W _ h3
  exact ⟨(hb.cell (p := ⟨b, off + lo * 2, none⟩) h6).trans h1, (hb.cell (p := ⟨b, off + lo * 2 + 1, none⟩) h6).trans h2, (hb.cell (p := ⟨w.heap.size, 0, none⟩) l).trans h3, (hb.cell (p := ⟨w.heap.size, 1, none⟩) l).trans h4, h5.trans (hb.mono h5.size), Nat.lt_of_lt_of_le h6 hb.size⟩
theorem TT.drew {w W : World} {b off lo : Nat} {p x : Lb} (h : TT w b off lo p x W) : TT w b off lo p x W.drew := ⟨h.1, h.2.1, h.2.2.1, h.2.2.2.1, h.2.2.2.2.1.drew, h.2.2.2.2.2⟩

end Go.Proofs.Ytncmpegfbbiicaa.Lab
