/- What labelsAmong and both KeepLabels and DropLabels come to. -/
import Derived.Test.YtbjlnaaheahhnaaDoorSel
namespace Go.Proofs.YtbjlnaaheahhnaaDoor.Lab
open Go.RowKit Go.Proofs.YtbjlnaaheahhnaaDoor.Str

def selR (ls : List Lb) (ss : List ByteArray) (b : Bool) : List Lb := if goodL ls = true ∧ ss.length ≤ 1000 then selL ss b ls else []
theorem selR_yes {ls : List Lb} {ss : List ByteArray} {b : Bool} (h1 : goodL ls = true) (h2 : ss.length ≤ 1000) : selR ls ss b = selL ss b ls := by unfold selR; rw [if_pos ⟨h1, h2⟩]
theorem selR_no1 {ls : List Lb} {ss : List ByteArray} {b : Bool} (h1 : goodL ls = false) : selR ls ss b = [] := by unfold selR; rw [if_neg (by simp [h1])]
theorem selR_no2 {ls : List Lb} {ss : List ByteArray} {b : Bool} (h2 : 1000 < ss.length) : selR ls ss b = [] := by unfold selR; rw [if_neg (by omega)]
theorem own_base {w : World} {base base' e size n : Nat} {v : Value} {xs : List Value} (h : w.ownsRow base e size v n xs) (hb : base' ≤ base) : w.ownsRow base' e size v n xs := by
  refine ⟨h.1, ?_⟩
  rcases h.2 with h0 | ⟨g, cap, cur, h1, h2, h3⟩
  · exact .inl h0
  · exact .inr ⟨g, cap, cur, h1, Nat.le_trans hb h2, h3⟩

end Go.Proofs.YtbjlnaaheahhnaaDoor.Lab
