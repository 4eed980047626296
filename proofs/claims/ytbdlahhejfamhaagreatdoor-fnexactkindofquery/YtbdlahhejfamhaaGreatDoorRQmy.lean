/- What the model asks of a node by itself. -/
import Derived.Test.YtbdlahhejfamhaaGreatDoorRB6
import Derived.Test.YtbdlahhejfamhaaGreatDoorRB7
import Derived.Test.YtbdlahhejfamhaaGreatDoorRB8
namespace Go.Proofs.YtbdlahhejfamhaaGreatDoor.Qry
open Go.RowKit

/-- What the call of l15Node leaves. -/
def NdT (q : R) (w : World) (e : Ending) (w' : World) : Prop := (∃ b, e = .returned (.bool b) ∧ (b = true ↔ (told (pl q) ∧ right (pl q) = true ∧ kidsM (pl q)))) ∧ Below w.heap.size w w'
theorem NdR.told {q : R} {w w' : World} {e : Ending} (h : NdR q w e w') (ht : Qry.told (pl q)) : NdT q w e w' := by
  obtain ⟨⟨b, h1, h2⟩, hb⟩ := h
  exact ⟨⟨b, h1, h2.trans ⟨fun h => ⟨ht, h⟩, fun h => h.2⟩⟩, hb⟩
theorem f101 (q : R) (w : World) (hl : Lst w q) (hf : Ft q) (hs : wt q ≤ 1048576) : Calls Tryz.prog 101 #[agR q] w (NdT q w) := by
  by_cases ht : told (pl q)
  case neg =>
    refine (nd_not q w ht hl hf hs).mono ?_
    rintro e w' ⟨rfl, hb⟩
    exact ⟨⟨false, rfl, fun h => (by cases h), fun h => absurd h.1 ht⟩, hb⟩
  by_cases h1 : q.kd = 1
  · exact (nd_1 q w h1 ht hl hf hs).mono fun e w' h => NdR.told h ht
  by_cases h2 : q.kd = 2
  · exact (nd_2 q w h2 ht hl hf hs).mono fun e w' h => NdR.told h ht
  by_cases h3 : q.kd = 3
  · exact (nd_3 q w h3 ht hl hf hs).mono fun e w' h => NdR.told h ht
  by_cases h4 : q.kd = 4
  · exact (nd_4 q w h4 ht hl hf hs).mono fun e w' h => NdR.told h ht
  by_cases h5 : q.kd = 5
  · exact (nd_5 q w h5 ht hl hf hs).mono fun e w' h => NdR.told h ht
  by_cases h6 : q.kd = 6
  · exact (nd_6 q w h6 ht hl hf hs).mono fun e w' h => NdR.told h ht
  by_cases h7 : q.kd = 7
  · cases hbo : q.bo
    · exact (nd_7n q w h7 hbo ht hl hf hs).mono fun e w' h => NdR.told h ht
    · exact (nd_7b q w h7 hbo ht hl hf hs).mono fun e w' h => NdR.told h ht
  by_cases h8 : q.kd = 8
  · exact (nd_8 q w h8 ht hl hf hs).mono fun e w' h => NdR.told h ht
  by_cases h9 : q.kd = 9
  · exact (nd_9 q w h9 ht hl hf hs).mono fun e w' h => NdR.told h ht
  exact (nd_0 q w (by omega) ht hl hf hs).mono fun e w' h => NdR.told h ht
end Go.Proofs.YtbdlahhejfamhaaGreatDoor.Qry
