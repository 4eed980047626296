/- What the program's GoodLabels comes to. -/
import Derived.Test.YtbjlnaaheahhnaaDoorGl
namespace Go.Proofs.YtbjlnaaheahhnaaDoor.Lab
open Go.RowKit Go.Proofs.YtbjlnaaheahhnaaDoor.Str

/-- They rise. -/
def RiseP (ls : List Lb) : Prop := ∀ i, i < ls.length → 0 < i → cmpN (ls.getD (i - 1) e0) (ls.getD i e0) < 0
instance (ls : List Lb) : Decidable (RiseP ls) := by unfold RiseP; infer_instance
def riseL (ls : List Lb) : Bool := decide (RiseP ls)

theorem good_split (ls : List Lb) (h20 : ls.length ≤ 20) (h : ∀ i, i < ls.length → okL (ls.getD i e0) = true) : goodL ls = riseL ls := by
  unfold goodL riseL
  rw [decide_eq_decide]
  exact ⟨fun g i hi h0 => (g.2 i hi).2 h0, fun g => ⟨h20, fun i hi => ⟨h i hi, g i hi⟩⟩⟩

end Go.Proofs.YtbjlnaaheahhnaaDoor.Lab
