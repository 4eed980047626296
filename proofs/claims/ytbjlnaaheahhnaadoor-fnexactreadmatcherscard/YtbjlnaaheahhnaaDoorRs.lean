/- A list of labels is read: what readList comes to. -/
import Derived.Test.YtbjlnaaheahhnaaDoorRl
import Derived.Test.YtbjlnaaheahhnaaDoorKdw
namespace Go.Proofs.YtbjlnaaheahhnaaDoor.Lab
open Go.RowKit Go.Proofs.YtbjlnaaheahhnaaDoor.Str

/-- A list in its braces from a place on: it, and the place behind it. -/
def lst (s : ByteArray) (t : Nat) : Option (List Lb × Nat) :=
  if (by' s)[t]? = some 123 then
    if (by' s)[t + 1]? = some 125 then some ([], t + 2) else rd s (t + 1)
  else none
theorem brc_lst (s : ByteArray) : brc s = (lst s 0).bind fun q => if q.2 = s.size then some q.1 else none := by
  unfold brc lst
  by_cases h1 : (by' s)[0]? = some 123
  · rw [if_pos h1, if_pos h1]
    by_cases h2 : (by' s)[0 + 1]? = some 125
    · rw [if_pos h2, if_pos h2]
      by_cases h3 : s.size = 2
      · simp [h3]
      · have h3' : ¬ 2 = s.size := fun h => h3 h.symm
        simp [h3, h3']
    · rw [if_neg h2, if_neg h2]
  · rw [if_neg h1, if_neg h1]; rfl
/-- What is left where acc has been read and the reader stands at k. -/
def tl (s : ByteArray) (acc : List Lb) (k : Nat) : Option (List Lb × Nat) :=
  if (by' s)[k]? = some 125 then some (acc, k + 1)
  else if acc = [] then (rd s k).map fun q => (acc ++ q.1, q.2)
  else if (by' s)[k]? = some 44 then (rd s (k + 1)).map fun q => (acc ++ q.1, q.2)
  else none
theorem lst_tl {s : ByteArray} {t : Nat} (h : (by' s)[t]? = some 123) : lst s t = tl s [] (t + 1) := by
  unfold lst tl
  rw [if_pos h]
  by_cases h2 : (by' s)[t + 1]? = some 125
  · rw [if_pos h2, if_pos h2]
  · rw [if_neg h2, if_neg h2, if_pos rfl]
    cases rd s (t + 1) <;> simp
theorem lst_not {s : ByteArray} {t : Nat} (h : (by' s)[t]? ≠ some 123) : lst s t = none := by unfold lst; rw [if_neg h]
theorem tl_end {s : ByteArray} {acc : List Lb} {k : Nat} (h : (by' s)[k]? = some 125) : tl s acc k = some (acc, k + 1) := by unfold tl; rw [if_pos h]
theorem tl_bad {s : ByteArray} {acc : List Lb} {k : Nat} (h : (by' s)[k]? ≠ some 125) (h1 : acc ≠ []) (h2 : (by' s)[k]? ≠ some 44) : tl s acc k = none := by unfold tl; rw [if_neg h, if_neg h1, if_neg h2]
theorem tl_first {s : ByteArray} {k : Nat} (h : (by' s)[k]? ≠ some 125) : tl s [] k = (rd s k).map fun q => ([] ++ q.1, q.2) := by unfold tl; rw [if_neg h, if_pos rfl]
theorem tl_next {s : ByteArray} {acc : List Lb} {k : Nat} (h1 : acc ≠ []) (h2 : (by' s)[k]? = some 44) : tl s acc k = (rd s (k + 1)).map fun q => (acc ++ q.1, q.2) := by
  unfold tl; rw [if_neg (by rw [h2]; decide), if_neg h1, if_pos h2]
theorem rd_tl {s : ByteArray} {acc : List Lb} {j k : Nat} {p : Lb} (h : one s j = some (p, k)) : ((rd s j).map fun q => (acc ++ q.1, q.2)) = tl s (acc ++ [p]) k := by
  rw [rd_some h]
  unfold tl
  by_cases h1 : (by' s)[k]? = some 125
  · rw [if_pos h1, if_pos h1]; rfl
  · have hne : ¬ (acc ++ [p] = []) := by simp
    rw [if_neg h1, if_neg h1, if_neg hne]
    by_cases h2 : (by' s)[k]? = some 44
    · rw [if_pos h2, if_pos h2, Option.map_map]
      congr 1
      funext q
      simp
    · rw [if_neg h2, if_neg h2]; rfl
theorem rd_tl_none {s : ByteArray} {acc : List Lb} {j : Nat} (h : one s j = none) : ((rd s j).map fun q => (acc ++ q.1, q.2)) = none := by rw [rd_none h]; rfl

/-- All names and values are no longer than n. -/
def Sz (n : Nat) (ls : List Lb) : Prop := ∀ p ∈ ls, p.1.size ≤ n ∧ p.2.size ≤ n
theorem Sz.snoc {n : Nat} {ls : List Lb} {p : Lb} (h : Sz n ls) (h1 : p.1.size ≤ n) (h2 : p.2.size ≤ n) : Sz n (ls ++ [p]) := by
  intro q hq
  rcases List.mem_append.1 hq with h3 | h3
  · exact h q h3
  · simp at h3; subst h3; exact ⟨h1, h2⟩
theorem Sz.fit {n : Nat} {ls : List Lb} (h : Sz n ls) (hn : n ≤ maxLen) : Fit ls := by
  intro i
  by_cases hi : i < ls.length
  · have e : ls.getD i e0 = ls[i] := by simp [hi]
    rw [e]
    have := h ls[i] (List.getElem_mem hi)
    exact ⟨Nat.le_trans this.1 hn, Nat.le_trans this.2 hn⟩
  · rw [List.getD_eq_getElem?_getD, List.getElem?_eq_none (by omega)]; simp [e0, maxLen]

theorem own_kept {w w' : World} {base e size n R : Nat} {v : Value} {xs : List Value} (h : w.ownsRow base e size v n xs) (hg : w.grownBy w' (some R)) (hR : R < base) : w'.ownsRow base e size v n xs := by
  refine h.kept hg ?_
  cases hv : v.ownBlock with
  | none => exact .inl rfl
  | some g => have := (h.lt g hv).1; exact .inr (by simp; omega)
end Go.Proofs.YtbjlnaaheahhnaaDoor.Lab
