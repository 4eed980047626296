/- Lists of texts that came in. -/
import Derived.Test.YthcogkoleiejgaaGreatDoorRTx
import Derived.Deep.Strs
import Derived.OpenShut
import Derived.ChangeOld
namespace Go.Proofs.YthcogkoleiejgaaGreatDoor.Fil
open Go.ChangeShapes Go.WideShapes Go.ChangeAt Go.RowKit

theorem add_none (b off j : Nat) : (⟨b, off, none⟩ : Addr).add j = ⟨b, off + j, none⟩ := by
  by_cases h : j = 0
  · subst h; simp [Addr.add]
  · simp [Addr.add, h]
theorem open_texts {H : Type} {enc : TypeId × Value → H} {W : World} {a0 : Option Addr} {len0 cap0 : Nat} {d : DataW H} {p : List MemPlace} (h : DataW.Trod enc Tryz.prog W 0 (fun _ => true) true 65 (.slice a0 len0 cap0) d p) :
    ∃ ss : List ByteArray, ss.length = len0 ∧ len0 ≤ maxLen ∧ HasT W a0 ss ∧ FitT ss := by
  obtain ⟨fuel, hf⟩ := h
  rcases Deep.open_strs Tryz.underlying65 Tryz.underlying9 (by kernel_rfl) hf with ⟨hcs, _⟩ | ⟨a, len, cap, m, Sx, hcs, _, hl, hm, hmm, _, hx⟩
  · simp [Value.cells] at hcs
    obtain ⟨rfl, rfl, rfl⟩ := hcs
    exact ⟨[], rfl, Nat.zero_le _, .inl rfl, fun i => by simp [maxLen]⟩
  · simp [Value.cells] at hcs
    obtain ⟨rfl, rfl, rfl⟩ := hcs
    simp only [if_true] at hmm
    have hg : ∀ i, i < len0 → ((List.range len0).map Sx).getD i ByteArray.empty = Sx i := fun i hi => by simp [hi]
    refine ⟨(List.range len0).map Sx, by simp, by omega, ?_, ?_⟩
    · by_cases h0 : len0 = 0
      · subst h0; exact .inl rfl
      · obtain ⟨b, off, spot⟩ := a
        have h1 := (hx 0 (by omega)).1
        have hs : spot = none := by simpa [Addr.add] using World.cell?_spot h1
        subst hs
        refine .inr ⟨b, off, rfl, World.block_lt_of_cell? W _ h1, fun i hi => ?_⟩
        have hi' : i < len0 := by simpa using hi
        have g1 := (hx i (by omega)).1
        rw [add_none] at g1
        rw [hg i hi']
        exact g1
    · intro i
      by_cases hi : i < len0
      · rw [hg i hi]; exact (hx i (by omega)).2
      · rw [List.getD_eq_getElem?_getD, List.getElem?_eq_none (by simp; omega)]; simp [maxLen]
end Go.Proofs.YthcogkoleiejgaaGreatDoor.Fil
