/- The walk of FnExactPutVar: it returns true and writes nothing that was there. -/
import Derived.Test.YteblbcbfaomdmaaDoorPut
import Derived.WalkSmall
namespace Go.Proofs.YteblbcbfaomdmaaDoor.Put
open Go.RowKit Go.Proofs.YteblbcbfaomdmaaDoor.Byt

/-- A row of the call's own that isn't empty: where it begins. -/
theorem own_shape {w : World} {base n : Nat} {v : Value} {xs : List Value} (h : w.ownsRow base 5 1 v n xs) (hn : 1 ≤ n) :
    ∃ g cap, v = .slice (some ⟨g, 0, none⟩) n cap ∧ base ≤ g ∧ g < w.heap.size ∧ n ≤ cap := by
  rcases h.2 with ⟨_, h0⟩ | ⟨g, cap, cur, h1, h2, h3, h4, _⟩
  · omega
  · refine ⟨g, cap, h1, h2, ?_, h4⟩
    have := h.lt g (by rw [h1]; rfl)
    exact this.2

theorem Has.other {w w' : World} {b g : Nat} {zs : List Int} (h : Has w (some ⟨b, 0, none⟩) zs) (hg : w.grownBy w' (some g)) (hne : b ≠ g) : Has w' (some ⟨b, 0, none⟩) zs := by
  rcases h with h | ⟨b', off, h1, h2, h3⟩
  · exact .inl h
  · simp only [Option.some.injEq, Addr.mk.injEq, and_true] at h1
    obtain ⟨rfl, rfl⟩ := h1
    exact .inr ⟨b, 0, rfl, Nat.lt_of_lt_of_le h2 hg.size, fun i hi => hg.cell (h3 i hi) (by simpa using hne)⟩

theorem grown_undrew {w w' : World} {r : Option Nat} {q : Nat} (h : (w.drewN q).grownBy w' r) : w.grownBy w' r := ⟨h.os, h.tape, h.output, h.size, h.block⟩
theorem below_undrew {w w' : World} {B q : Nat} (h : Below B (w.drewN q) w') : Below B w w' := ⟨h.os, h.tape, h.output, h.size, h.block⟩

end Go.Proofs.YteblbcbfaomdmaaDoor.Put
