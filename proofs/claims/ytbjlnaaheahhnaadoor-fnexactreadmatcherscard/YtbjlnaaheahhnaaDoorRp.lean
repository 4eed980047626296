/- How a text is read as labels: plain facts, no program. -/
import Derived.Test.YtbjlnaaheahhnaaDoorTm
namespace Go.Proofs.YtbjlnaaheahhnaaDoor.Lab
open Go.RowKit Go.Proofs.YtbjlnaaheahhnaaDoor.Str

/-- The place behind the name that begins at 'i'. -/
def nmE (l : List UInt8) (i : Nat) : Nat := i + ((l.drop i).takeWhile nbC).length
theorem drop_cons {l : List UInt8} {i : Nat} {c : UInt8} (h : l[i]? = some c) : l.drop i = c :: l.drop (i + 1) := by
  obtain ⟨hi, rfl⟩ := List.getElem?_eq_some_iff.1 h
  exact List.drop_eq_getElem_cons hi
theorem nmE_step {l : List UInt8} {i : Nat} {c : UInt8} (h : l[i]? = some c) (hc : nbC c = true) : nmE l i = nmE l (i + 1) := by
  unfold nmE
  rw [drop_cons h, List.takeWhile_cons_of_pos hc]
  simp; omega
theorem nmE_stop {l : List UInt8} {i : Nat} {c : UInt8} (h : l[i]? = some c) (hc : nbC c = false) : nmE l i = i := by
  unfold nmE
  rw [drop_cons h, List.takeWhile_cons_of_neg (by simp [hc])]
  simp
theorem nmE_end {l : List UInt8} {i : Nat} (h : l.length ≤ i) : nmE l i = i := by
  unfold nmE
  rw [List.drop_of_length_le h]
  simp
theorem nmE_ge (l : List UInt8) (i : Nat) : i ≤ nmE l i := by unfold nmE; omega
theorem nmE_le {l : List UInt8} {i : Nat} (h : i ≤ l.length) : nmE l i ≤ l.length := by
  unfold nmE
  have : ((l.drop i).takeWhile nbC).length ≤ (l.drop i).length := (List.takeWhile_prefix _).length_le
  simp at this
  omega

/-- A quoted text behind its first sign: what it says, and how many bytes it takes. -/
def unq : List UInt8 → Option (List UInt8 × Nat)
  | [] => none
  | c :: r =>
    if c = 34 then some ([], 1)
    else if c = 92 then
      match r with
      | [] => none
      | d :: r => if d = 34 ∨ d = 92 then (unq r).map fun p => (d :: p.1, p.2 + 2) else none
    else (unq r).map fun p => (c :: p.1, p.2 + 1)
theorem unq_cons (c : UInt8) (r : List UInt8) : unq (c :: r) = if c = 34 then some ([], 1) else if c = 92 then (match r with | [] => none | d :: r => if d = 34 ∨ d = 92 then (unq r).map fun p => (d :: p.1, p.2 + 2) else none) else (unq r).map fun p => (c :: p.1, p.2 + 1) := by
  rw [unq.eq_def]
/-- The same from a place on: what it says, and the place behind it. -/
def unqA (l : List UInt8) (i : Nat) : Option (List UInt8 × Nat) := (unq (l.drop i)).map fun p => (p.1, i + p.2)
theorem unqA_end {l : List UInt8} {i : Nat} (h : l.length ≤ i) : unqA l i = none := by
  unfold unqA; rw [List.drop_of_length_le h]; rfl
theorem unqA_quote {l : List UInt8} {i : Nat} (h : l[i]? = some 34) : unqA l i = some ([], i + 1) := by
  unfold unqA; rw [drop_cons h, unq_cons]; simp
theorem unqA_other {l : List UInt8} {i : Nat} {c : UInt8} (h : l[i]? = some c) (h1 : c ≠ 34) (h2 : c ≠ 92) : unqA l i = (unqA l (i + 1)).map fun p => (c :: p.1, p.2) := by
  unfold unqA; rw [drop_cons h, unq_cons, if_neg h1, if_neg h2]
  simp only [Option.map_map]
  congr 1
  funext p
  simp; omega
theorem unqA_esc {l : List UInt8} {i : Nat} {d : UInt8} (h : l[i]? = some 92) (h1 : l[i + 1]? = some d) (h2 : d = 34 ∨ d = 92) : unqA l i = (unqA l (i + 2)).map fun p => (d :: p.1, p.2) := by
  unfold unqA; rw [drop_cons h, drop_cons h1, unq_cons]
  rw [if_neg (by decide), if_pos rfl]
  simp only [h2, if_true]
  simp only [Option.map_map]
  congr 1
  funext p
  simp; omega
theorem unqA_bad {l : List UInt8} {i : Nat} {d : UInt8} (h : l[i]? = some 92) (h1 : l[i + 1]? = some d) (h2 : d ≠ 34) (h3 : d ≠ 92) : unqA l i = none := by
  unfold unqA; rw [drop_cons h, drop_cons h1, unq_cons]
  rw [if_neg (by decide), if_pos rfl]
  simp [h2, h3]
theorem unqA_cut {l : List UInt8} {i : Nat} (h : l[i]? = some 92) (h1 : l.length ≤ i + 1) : unqA l i = none := by
  unfold unqA; rw [drop_cons h, List.drop_of_length_le h1, unq_cons]
  rw [if_neg (by decide), if_pos rfl]
  rfl
theorem unq_bd : ∀ (n : Nat) (l : List UInt8), l.length ≤ n → ∀ v k, unq l = some (v, k) → 0 < k ∧ k ≤ l.length ∧ v.length ≤ l.length := by
  intro n
  induction n with
  | zero =>
    intro l hl v k h
    obtain rfl := List.length_eq_zero_iff.1 (Nat.le_zero.1 hl)
    simp [unq] at h
  | succ n ih =>
    intro l hl v k h
    match l, hl, h with
    | [], _, h => simp [unq] at h
    | c :: r, hl, h =>
      rw [unq_cons] at h
      split at h
      · simp at h; obtain ⟨rfl, rfl⟩ := h; simp
      split at h
      · match r, hl, h with
        | [], _, h => simp at h
        | d :: r, hl, h =>
          simp only at h
          split at h
          · obtain ⟨p, hp, hq⟩ := Option.map_eq_some_iff.1 h
            have := ih r (by simp at hl; omega) p.1 p.2 hp
            simp at hq
            obtain ⟨rfl, rfl⟩ := hq
            simp; omega
          · simp at h
      · obtain ⟨p, hp, hq⟩ := Option.map_eq_some_iff.1 h
        have := ih r (by simp at hl; omega) p.1 p.2 hp
        simp at hq
        obtain ⟨rfl, rfl⟩ := hq
        simp; omega
theorem unqA_bd {l : List UInt8} {i : Nat} {v : List UInt8} {k : Nat} (h : unqA l i = some (v, k)) : i < k ∧ k ≤ l.length ∧ v.length ≤ l.length := by
  obtain ⟨p, hp, hq⟩ := Option.map_eq_some_iff.1 h
  have := unq_bd _ _ (Nat.le_refl _) p.1 p.2 hp
  simp at hq this
  obtain ⟨rfl, rfl⟩ := hq
  omega

abbrev by' (s : ByteArray) : List UInt8 := s.data.toList

/-- One label from a place on: it, and the place behind it. -/
def one (s : ByteArray) (i : Nat) : Option (Lb × Nat) :=
  if (by' s)[nmE (by' s) i]? = some 61 ∧ (by' s)[nmE (by' s) i + 1]? = some 34 then
    (unqA (by' s) (nmE (by' s) i + 2)).map fun p => ((s.extract i (nmE (by' s) i), mkS p.1), p.2)
  else none
theorem one_bd {s : ByteArray} {i : Nat} {p : Lb} {k : Nat} (h : one s i = some (p, k)) : i < k ∧ k ≤ s.size ∧ p.1.size ≤ s.size ∧ p.2.size ≤ s.size := by
  unfold one at h
  split at h
  · obtain ⟨q, hq, he⟩ := Option.map_eq_some_iff.1 h
    have h1 := unqA_bd (v := q.1) (k := q.2) hq
    have h2 := nmE_ge (by' s) i
    simp at he h1
    obtain ⟨rfl, rfl⟩ := he
    refine ⟨by omega, by omega, ?_, ?_⟩
    · show (s.extract i _).size ≤ s.size
      rw [ByteArray.size_extract]; omega
    · rw [mkS_size]; omega
  · simp at h

/-- Labels from a place on, up to the closing sign: they, and the place behind it. -/
def rd (s : ByteArray) (i : Nat) : Option (List Lb × Nat) :=
  match h : one s i with
  | none => none
  | some (p, k) =>
    if (by' s)[k]? = some 125 then some ([p], k + 1)
    else if (by' s)[k]? = some 44 then (rd s (k + 1)).map fun q => (p :: q.1, q.2)
    else none
termination_by s.size - i
decreasing_by have := one_bd h; omega
theorem rd_none {s : ByteArray} {i : Nat} (h : one s i = none) : rd s i = none := by
  rw [rd]; split
  · rfl
  · rename_i h2; rw [h] at h2; cases h2
theorem rd_some {s : ByteArray} {i k : Nat} {p : Lb} (h : one s i = some (p, k)) : rd s i = if (by' s)[k]? = some 125 then some ([p], k + 1) else if (by' s)[k]? = some 44 then (rd s (k + 1)).map fun q => (p :: q.1, q.2) else none := by
  rw [rd]; split
  · rename_i h2; rw [h] at h2; cases h2
  · rename_i h2; rw [h] at h2; cases h2; rfl

/-- The labels whose braced text it is. -/
def brc (s : ByteArray) : Option (List Lb) :=
  if (by' s)[0]? = some 123 then
    if (by' s)[1]? = some 125 then (if s.size = 2 then some [] else none)
    else (rd s 1).bind fun q => if q.2 = s.size then some q.1 else none
  else none
/-- The good labels whose text it is. -/
def readF (s : ByteArray) : Option (List Lb) := (brc s).filter fun ls => goodL ls
end Go.Proofs.YtbjlnaaheahhnaaDoor.Lab
