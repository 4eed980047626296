/- A label put in its place: plain facts. -/
import Derived.Test.YtigakbhficoonaaSel
import Derived.Test.YtigakbhficoonaaVo
namespace Go.Proofs.Ytigakbhficoonaa.Lab
open Go.RowKit Go.Proofs.Ytigakbhficoonaa.Str

def cmpX (x : ByteArray) (p : Lb) : Int := Lib.compareBytes x.data.toList p.1.data.toList
theorem cmpX_eq (x : ByteArray) (p : Lb) : cmpX x p = - cmpN p (x, ByteArray.empty) := cb_neg _ _
def add1 (x v : ByteArray) (s : List Lb × Bool) (p : Lb) : List Lb × Bool := if s.2 = false ∧ cmpX x p ≤ 0 then (s.1 ++ [(x, v)], true) else s
def stepW (x v : ByteArray) (s : List Lb × Bool) (p : Lb) : List Lb × Bool := if p.1 = x then add1 x v s p else ((add1 x v s p).1 ++ [p], (add1 x v s p).2)
def endW (x v : ByteArray) (s : List Lb × Bool) : List Lb := if s.2 = false then s.1 ++ [(x, v)] else s.1
def withF (ls : List Lb) (x v : ByteArray) : List Lb := endW x v (ls.foldl (stepW x v) ([], decide (v = ByteArray.empty)))

theorem fold_done (x v : ByteArray) : ∀ (L out : List Lb), L.foldl (stepW x v) (out, true) = (out ++ L.filter (fun p => decide (p.1 ≠ x)), true) := by
  intro L
  induction L with
  | nil => intro out; simp
  | cons p L ih =>
    intro out
    rw [List.foldl_cons]
    have e : add1 x v (out, true) p = (out, true) := by unfold add1; rw [if_neg (by simp)]
    by_cases h : p.1 = x
    · have : stepW x v (out, true) p = (out, true) := by unfold stepW; rw [if_pos h, e]
      rw [this, ih, List.filter_cons_of_neg (by simp [h])]
    · have : stepW x v (out, true) p = (out ++ [p], true) := by unfold stepW; rw [if_neg h, e]
      rw [this, ih, List.filter_cons_of_pos (by simp [h])]
      simp
theorem fold_ahead (x v : ByteArray) : ∀ (L out : List Lb), (∀ p ∈ L, cmpN p (x, ByteArray.empty) < 0) → L.foldl (stepW x v) (out, false) = (out ++ L, false) := by
  intro L
  induction L with
  | nil => intro out _; simp
  | cons p L ih =>
    intro out h
    have hp := h p (by simp)
    have hne : ¬ p.1 = x := fun e => by rw [cmpN_eq (q := (x, ByteArray.empty)) e] at hp; omega
    have e : add1 x v (out, false) p = (out, false) := by unfold add1; rw [if_neg (by rw [cmpX_eq]; simp; omega)]
    have : stepW x v (out, false) p = (out ++ [p], false) := by unfold stepW; rw [if_neg hne, e]
    rw [List.foldl_cons, this, ih _ (fun q hq => h q (by simp [hq]))]
    simp

def fnd (ls : List Lb) (x : ByteArray) (lo : Nat) : Nat := if lo < ls.length ∧ cmpN (ls.getD lo e0) (x, ByteArray.empty) = 0 then 1 else 0
def ins (ls : List Lb) (x v : ByteArray) (lo : Nat) : List Lb := ls.take lo ++ (x, v) :: ls.drop (lo + fnd ls x lo)

theorem getD_mem_lt {ls : List Lb} {i : Nat} (h : i < ls.length) : ls.getD i e0 = ls[i] := by simp [h]
theorem filter_same (x : ByteArray) : ∀ (L : List Lb), (∀ p ∈ L, p.1 ≠ x) → L.filter (fun p => decide (p.1 ≠ x)) = L := by
  intro L h
  rw [List.filter_eq_self]
  intro p hp
  simpa using h p hp

theorem with_ins {ls : List Lb} {x v : ByteArray} {lo : Nat} (hg : GoodP ls) (hp : Place ls (x, ByteArray.empty) lo) (hv : v ≠ ByteArray.empty) : withF ls x v = ins ls x v lo := by
  have hle := hp.le
  have hA : ∀ p ∈ ls.take lo, cmpN p (x, ByteArray.empty) < 0 := by
    intro p h
    obtain ⟨i, hi, rfl⟩ := List.getElem_of_mem h
    have hi' : i < lo := by simp at hi; omega
    have := hp.less i hi'
    rw [getD_mem_lt (by omega)] at this
    simpa using this
  unfold withF
  rw [show decide (v = ByteArray.empty) = false from by simpa using hv, ← List.take_append_drop lo ls, List.foldl_append, List.take_append_drop, fold_ahead x v _ [] hA, List.nil_append]
  unfold ins
  by_cases hl : lo < ls.length
  · have hc := hp.geq hl
    rw [getD_mem_lt hl] at hc
    have hB : ∀ p ∈ ls.drop (lo + 1), p.1 ≠ x := by
      intro p h e
      obtain ⟨i, hi, rfl⟩ := List.getElem_of_mem h
      have hi' : lo + 1 + i < ls.length := by simp at hi; omega
      have h1 := rise_lt hg (show lo < lo + 1 + i by omega) hi'
      rw [getD_mem_lt hl, getD_mem_lt hi'] at h1
      have h2 : cmpN ls[lo] (x, ByteArray.empty) = cmpN ls[lo] ls[lo + 1 + i] := by
        unfold cmpN
        have : (ls.drop (lo + 1))[i].1 = ls[lo + 1 + i].1 := by simp
        rw [← this, e]
      omega
    rw [List.drop_eq_getElem_cons hl, List.foldl_cons]
    have e1 : add1 x v (ls.take lo, false) ls[lo] = (ls.take lo ++ [(x, v)], true) := by unfold add1; rw [if_pos (by rw [cmpX_eq]; simp; omega)]
    by_cases he : ls[lo].1 = x
    · have hf : fnd ls x lo = 1 := by unfold fnd; rw [if_pos ⟨hl, by rw [getD_mem_lt hl]; exact cmpN_eq he⟩]
      have : stepW x v (ls.take lo, false) ls[lo] = (ls.take lo ++ [(x, v)], true) := by unfold stepW; rw [if_pos he, e1]
      rw [this, fold_done, filter_same x _ hB, hf]
      unfold endW; rw [if_neg (by simp)]; simp
    · have hf : fnd ls x lo = 0 := by unfold fnd; rw [if_neg (fun h => he (by have := cmpN_zero h.2; rw [getD_mem_lt hl] at this; exact this))]
      have : stepW x v (ls.take lo, false) ls[lo] = (ls.take lo ++ [(x, v)] ++ [ls[lo]], true) := by unfold stepW; rw [if_neg he, e1]
      rw [this, fold_done, filter_same x _ hB, hf]
      unfold endW; rw [if_neg (by simp), show ls.drop (lo + 0) = ls[lo] :: ls.drop (lo + 1) from List.drop_eq_getElem_cons hl]; simp
  · have hd : ls.drop lo = [] := List.drop_eq_nil_of_le (by omega)
    have hd2 : ls.drop (lo + fnd ls x lo) = [] := List.drop_eq_nil_of_le (by omega)
    rw [hd, hd2]
    unfold endW; rw [List.foldl_nil, if_pos rfl]
theorem with_drop (ls : List Lb) (x : ByteArray) : withF ls x ByteArray.empty = selL [x] false ls := by
  unfold withF
  rw [show decide (ByteArray.empty = ByteArray.empty) = true from by simp, fold_done]
  unfold endW selL
  rw [if_neg (by simp), List.nil_append]
  show ls.filter _ = ls.filter _
  congr 1
  funext p
  by_cases h : p.1 = x
  · have : hasB [x] p.1 = true := has_yes (i := 0) (by simp) (by simp [h])
    rw [this]; simp [h]
  · have : hasB [x] p.1 = false := has_no (fun i hi e => by
      have : i = 0 := by simpa using hi
      subst this
      simp at e; exact h e.symm)
    rw [this]; simp [h]

theorem good_pair {ls : List Lb} (h : GoodP ls) : ls.Pairwise (fun p q => cmpN p q < 0) := by
  rw [List.pairwise_iff_getElem]
  intro i j hi hj hij
  have := rise_lt h hij hj
  rwa [getD_mem_lt hi, getD_mem_lt hj] at this
theorem good_filter {ls : List Lb} (h : GoodP ls) (f : Lb → Bool) : GoodP (ls.filter f) := by
  have hp := (good_pair h).filter f
  rw [List.pairwise_iff_getElem] at hp
  refine ⟨Nat.le_trans (List.length_filter_le f ls) h.1, fun i hi => ⟨?_, fun h0 => ?_⟩⟩
  · rw [getD_mem_lt hi]
    have hm := List.getElem_mem hi
    obtain ⟨j, hj, e⟩ := List.getElem_of_mem (List.mem_filter.1 hm).1
    rw [← e]
    have := (h.2 j hj).1
    rwa [getD_mem_lt hj] at this
  · rw [getD_mem_lt hi, getD_mem_lt (show i - 1 < _ by omega)]
    exact hp (i - 1) i (by omega) hi (by omega)
theorem place_exists (ls : List Lb) (x : Lb) : ∃ lo, Place ls x lo := by
  have key : ∀ m, m ≤ ls.length → (∀ i, i < m → cmpN (ls.getD i e0) x < 0) ∨ ∃ lo, Place ls x lo := by
    intro m
    induction m with
    | zero => intro _; exact .inl (fun i hi => by omega)
    | succ m ih =>
      intro hm
      rcases ih (by omega) with h | h
      · by_cases hc : cmpN (ls.getD m e0) x < 0
        · refine .inl (fun i hi => ?_)
          by_cases e : i = m
          · subst e; exact hc
          · exact h i (by omega)
        · exact .inr ⟨m, by omega, h, fun _ => by omega⟩
      · exact .inr h
  rcases key ls.length (Nat.le_refl _) with h | h
  · exact ⟨ls.length, Nat.le_refl _, h, fun h => by omega⟩
  · exact h
end Go.Proofs.Ytigakbhficoonaa.Lab
