/- What eqLabelS and both GoodLabels come to. -/
import Derived.Test.YtbjlnaaheahhnaaDoorLab
namespace Go.Proofs.YtbjlnaaheahhnaaDoor.Lab
open Go.RowKit Go.Proofs.YtbjlnaaheahhnaaDoor.Str

theorem below_drewN {B : Nat} {a w : World} (h : Below B a w) (q : Nat) : Below B a (w.drewN q) := ⟨h.os, h.tape, h.output, h.size, h.block⟩
theorem below_undrew {B : Nat} {a w : World} (h : Below B a.drew w) : Below B a w := ⟨h.os, h.tape, h.output, h.size, h.block⟩
theorem below_undrewN {B q : Nat} {a w : World} (h : Below B (a.drewN q) w) : Below B a w := ⟨h.os, h.tape, h.output, h.size, h.block⟩

def cmpN (p q : Lb) : Int := Lib.compareBytes p.1.data.toList q.1.data.toList
def okL (p : Lb) : Bool := nameL p.1.data.toList && valueL p.2.data.toList
def GoodP (ls : List Lb) : Prop := ls.length ≤ 20 ∧ ∀ i, i < ls.length → okL (ls.getD i e0) = true ∧ (0 < i → cmpN (ls.getD (i - 1) e0) (ls.getD i e0) < 0)
instance (ls : List Lb) : Decidable (GoodP ls) := by unfold GoodP; infer_instance
def goodL (ls : List Lb) : Bool := decide (GoodP ls)
/-- The first k are as they should be. -/
def Upto (ls : List Lb) (k : Nat) : Prop := ∀ i, i < k → okL (ls.getD i e0) = true ∧ (0 < i → cmpN (ls.getD (i - 1) e0) (ls.getD i e0) < 0)

theorem Upto.succ {ls : List Lb} {k : Nat} (h : Upto ls k) (h1 : okL (ls.getD k e0) = true) (h2 : 0 < k → cmpN (ls.getD (k - 1) e0) (ls.getD k e0) < 0) : Upto ls (k + 1) := by
  intro i hi
  by_cases e : i = k
  · subst e; exact ⟨h1, h2⟩
  · exact h i (by omega)
theorem good_no {ls : List Lb} {k : Nat} (hk : k < ls.length) (h : ¬ (okL (ls.getD k e0) = true ∧ (0 < k → cmpN (ls.getD (k - 1) e0) (ls.getD k e0) < 0))) : goodL ls = false :=
  decide_eq_false fun g => h (g.2 k hk)
theorem good_yes {ls : List Lb} {k : Nat} (hk : ls.length ≤ k) (h : Upto ls k) (h20 : ls.length ≤ 20) : goodL ls = true :=
  decide_eq_true ⟨h20, fun i hi => h i (by omega)⟩
theorem good_long {ls : List Lb} (h : 20 < ls.length) : goodL ls = false := decide_eq_false fun g => by have := g.1; omega

end Go.Proofs.YtbjlnaaheahhnaaDoor.Lab
