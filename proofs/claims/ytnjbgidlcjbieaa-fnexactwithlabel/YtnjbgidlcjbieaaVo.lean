/- The value under a name: both ValueOf. -/
import Derived.Test.YtnjbgidlcjbieaaBs
import Derived.Test.YtnjbgidlcjbieaaClw
namespace Go.Proofs.Ytnjbgidlcjbieaa.Lab
open Go.RowKit Go.Proofs.Ytnjbgidlcjbieaa.Str

theorem ret_str {a b : ByteArray} (h : a = b) : Ending.returned (.string a) = .returned (.string b) := by rw [h]
theorem str_eq {a b : ByteArray} (h : a = b) : (a.toList == b.toList) = true := by rw [h]; simp
theorem str_ne {a b : ByteArray} (h : a ≠ b) : (a.toList == b.toList) = false := by
  rw [beq_eq_false_iff_ne]
  intro e
  rw [ByteArray.toList_eq, ByteArray.toList_eq] at e
  exact h (WideShapes.bytes_inj e)
/-- v is the value of the first label with the name x, empty where there is none. -/
def OfV (ls : List Lb) (x v : ByteArray) : Prop :=
  (∃ k, k < ls.length ∧ (ls.getD k e0).1 = x ∧ (ls.getD k e0).2 = v ∧ ∀ i, i < k → (ls.getD i e0).1 ≠ x) ∨ ((∀ k, k < ls.length → (ls.getD k e0).1 ≠ x) ∧ v = ByteArray.empty)
theorem OfV.uniq {ls : List Lb} {x v v' : ByteArray} (h : OfV ls x v) (h' : OfV ls x v') : v = v' := by
  rcases h with ⟨k, hk, h1, h2, h3⟩ | ⟨h1, h2⟩
  · rcases h' with ⟨k', hk', h1', h2', h3'⟩ | ⟨h1', _⟩
    · have e : k = k' := by
        rcases Nat.lt_trichotomy k k' with h | h | h
        · exact absurd h1 (h3' k h)
        · exact h
        · exact absurd h1' (h3 k' h)
      subst e
      rw [← h2, ← h2']
    · exact absurd h1 (h1' k hk)
  · rcases h' with ⟨k', hk', h1', _⟩ | ⟨_, h2'⟩
    · exact absurd h1' (h1 k' hk')
    · rw [h2, h2']
def OfR (ls : List Lb) (x v : ByteArray) : Prop := (goodL ls = true ∧ OfV ls x v) ∨ (goodL ls = false ∧ v = ByteArray.empty)
theorem OfR.uniq {ls : List Lb} {x v v' : ByteArray} (h : OfR ls x v) (h' : OfR ls x v') : v = v' := by
  rcases h with ⟨h1, h2⟩ | ⟨h1, h2⟩
  · rcases h' with ⟨_, h2'⟩ | ⟨h1', _⟩
    · exact h2.uniq h2'
    · rw [h1] at h1'; cases h1'
  · rcases h' with ⟨h1', _⟩ | ⟨_, h2'⟩
    · rw [h1] at h1'; cases h1'
    · rw [h2, h2']

theorem Place.found {ls : List Lb} {x : ByteArray} {lo : Nat} (h : Place ls (x, ByteArray.empty) lo) (hl : lo < ls.length) (hc : cmpN (ls.getD lo e0) (x, ByteArray.empty) = 0) : OfV ls x (ls.getD lo e0).2 :=
  .inl ⟨lo, hl, cmpN_zero hc, rfl, fun i hi e => by have := h.less i hi; rw [cmpN_eq (q := (x, ByteArray.empty)) e] at this; omega⟩
theorem Place.missed {ls : List Lb} {x : ByteArray} {lo : Nat} (h : Place ls (x, ByteArray.empty) lo) (hg : GoodP ls) (hc : ¬ (lo < ls.length ∧ cmpN (ls.getD lo e0) (x, ByteArray.empty) = 0)) : ∀ k, k < ls.length → (ls.getD k e0).1 ≠ x := by
  intro k hk e
  have ek := cmpN_eq (p := ls.getD k e0) (q := (x, ByteArray.empty)) e
  by_cases h1 : k < lo
  · have := h.less k h1; omega
  · by_cases h2 : k = lo
    · subst h2; exact hc ⟨hk, ek⟩
    · have h3 := rise_lt hg (show lo < k by omega) hk
      have h4 := h.geq (by omega)
      have h5 : cmpN (ls.getD lo e0) (x, ByteArray.empty) = cmpN (ls.getD lo e0) (ls.getD k e0) := by unfold cmpN; rw [← e]
      omega

theorem good_iff {ls : List Lb} (h : goodL ls = true) : GoodP ls := of_decide_eq_true h

end Go.Proofs.Ytnjbgidlcjbieaa.Lab
