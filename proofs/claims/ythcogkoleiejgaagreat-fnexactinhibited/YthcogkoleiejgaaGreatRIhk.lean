/- Labels under chosen names, and their key: plain facts. -/
import Derived.Test.YthcogkoleiejgaaGreatRIhb
import Derived.Test.YthcogkoleiejgaaGreatRFm
import Derived.Test.YthcogkoleiejgaaGreatRSE
namespace Go.Proofs.YthcogkoleiejgaaGreat.Lab
open Go.RowKit Go.Proofs.YthcogkoleiejgaaGreat.Str

abbrev mkK (l : List UInt8) : ByteArray := ⟨l.toArray⟩
def keyT (p : Lb) : List UInt8 := p.1.data.toList ++ (0 :: (p.2.data.toList ++ [0]))
/-- The key of labels. -/
def keyL (ls : List Lb) : List UInt8 := ls.flatMap keyT
theorem keyL_succ {ls : List Lb} {k : Nat} (hk : k < ls.length) : keyL (ls.take (k + 1)) = keyL (ls.take k) ++ keyT (ls.getD k e0) := by
  have e : ls.getD k e0 = ls[k] := by simp [hk]
  unfold keyL
  rw [List.take_succ_eq_append_getElem hk, List.flatMap_append, e]; simp
def Shrt (ls : List Lb) : Prop := ∀ i, i < ls.length → (ls.getD i e0).1.size ≤ 40 ∧ (ls.getD i e0).2.size ≤ 100
theorem keyL_len {ls : List Lb} (h : Shrt ls) : ∀ k, k ≤ ls.length → (keyL (ls.take k)).length ≤ 142 * k := by
  intro k
  induction k with
  | zero => intro _; simp [keyL]
  | succ k ih =>
    intro hk
    rw [keyL_succ (by omega), List.length_append]
    have h1 := ih (by omega)
    have h2 := h k (by omega)
    have h3 : (keyT (ls.getD k e0)).length = (ls.getD k e0).1.size + (ls.getD k e0).2.size + 2 := by
      unfold keyT; simp; omega
    omega
/-- No byte 0. -/
def Nz (p : Lb) : Prop := (∀ x ∈ p.1.data.toList, x ≠ 0) ∧ ∀ x ∈ p.2.data.toList, x ≠ 0
theorem cut0 : ∀ (a b r s : List UInt8), (∀ x ∈ a, x ≠ 0) → (∀ x ∈ b, x ≠ 0) → a ++ 0 :: r = b ++ 0 :: s → a = b ∧ r = s
  | [], [], r, s, _, _, h => by simpa using h
  | [], y :: b, r, s, _, hb, h => by
    simp only [List.nil_append, List.cons_append, List.cons.injEq] at h
    exact absurd h.1.symm (hb y (by simp))
  | x :: a, [], r, s, ha, _, h => by
    simp only [List.nil_append, List.cons_append, List.cons.injEq] at h
    exact absurd h.1 (ha x (by simp))
  | x :: a, y :: b, r, s, ha, hb, h => by
    simp only [List.cons_append, List.cons.injEq] at h
    obtain ⟨h1, h2⟩ := cut0 a b r s (fun z hz => ha z (by simp [hz])) (fun z hz => hb z (by simp [hz])) h.2
    exact ⟨by rw [h.1, h1], h2⟩
theorem data_inj {a b : ByteArray} (h : a.data.toList = b.data.toList) : a = b := by
  apply ByteArray.ext; apply Array.ext'; exact h
theorem keyL_inj : ∀ A B : List Lb, (∀ p ∈ A, Nz p) → (∀ p ∈ B, Nz p) → keyL A = keyL B → A = B
  | [], [], _, _, _ => rfl
  | [], q :: B, _, _, h => by
    have := congrArg List.length h
    simp [keyL, keyT] at this
  | p :: A, [], _, _, h => by
    have := congrArg List.length h
    simp [keyL, keyT] at this
  | p :: A, q :: B, hA, hB, h => by
    have e1 : keyL (p :: A) = p.1.data.toList ++ 0 :: (p.2.data.toList ++ 0 :: keyL A) := by simp [keyL, keyT]
    have e2 : keyL (q :: B) = q.1.data.toList ++ 0 :: (q.2.data.toList ++ 0 :: keyL B) := by simp [keyL, keyT]
    rw [e1, e2] at h
    obtain ⟨h1, h2⟩ := cut0 _ _ _ _ (hA p (by simp)).1 (hB q (by simp)).1 h
    obtain ⟨h3, h4⟩ := cut0 _ _ _ _ (hA p (by simp)).2 (hB q (by simp)).2 h2
    have h5 := keyL_inj A B (fun z hz => hA z (by simp [hz])) (fun z hz => hB z (by simp [hz])) h4
    rw [show p = q from Prod.ext (data_inj h1) (data_inj h3), h5]
theorem ok_nz {p : Lb} (h : okL p = true) : Nz p := by
  unfold okL nameL valueL printL at h
  simp only [Bool.and_eq_true] at h
  refine ⟨fun x hx e => ?_, fun x hx e => ?_⟩
  · have := List.all_eq_true.1 h.1.2 x hx
    subst e
    exact absurd this (by decide)
  · have := List.all_eq_true.1 h.2.2 x hx
    subst e
    exact absurd this (by decide)
theorem ok_value {p : Lb} (h : okL p = true) : p.2 ≠ ByteArray.empty := by
  unfold okL valueL at h
  simp only [Bool.and_eq_true, decide_eq_true_eq] at h
  intro e
  rw [e] at h
  exact absurd h.2.1.1 (by decide)
theorem ok_sizes {p : Lb} (h : okL p = true) : p.1.size ≤ 40 ∧ p.2.size ≤ 100 := by
  unfold okL nameL valueL at h
  simp only [Bool.and_eq_true, decide_eq_true_eq] at h
  have a := h.1.1.1.2
  have b := h.2.1.2
  simpa using ⟨a, b⟩
theorem mem_idx {ls : List Lb} {p : Lb} (h : p ∈ ls) : ∃ i, i < ls.length ∧ ls.getD i e0 = p := by
  obtain ⟨i, hi, e⟩ := List.mem_iff_getElem.1 h
  exact ⟨i, hi, by simp [hi, e]⟩
theorem idx_mem {ls : List Lb} {i : Nat} (h : i < ls.length) : ls.getD i e0 ∈ ls := by
  rw [show ls.getD i e0 = ls[i] by simp [h]]; exact List.getElem_mem h
theorem good_ok {ls : List Lb} (h : GoodP ls) {p : Lb} (hp : p ∈ ls) : okL p = true := by
  obtain ⟨i, hi, rfl⟩ := mem_idx hp
  exact (h.2 i hi).1
theorem good_pair {ls : List Lb} (h : GoodP ls) : ls.Pairwise (fun p q => cmpN p q < 0) := by
  rw [List.pairwise_iff_getElem]
  intro i j hi hj hij
  have := rise_lt h hij hj
  simpa [hi, hj] using this
theorem pair_ext : ∀ (A B : List Lb), A.Pairwise (fun p q => cmpN p q < 0) → B.Pairwise (fun p q => cmpN p q < 0) → (∀ p, p ∈ A ↔ p ∈ B) → A = B := by
  intro A
  induction A with
  | nil =>
    intro B _ _ h
    cases B with
    | nil => rfl
    | cons q B => have := (h q).2 (by simp); simp at this
  | cons p A ih =>
    intro B h1 h2 h
    cases B with
    | nil => have := (h p).1 (by simp); simp at this
    | cons q B =>
      rw [List.pairwise_cons] at h1 h2
      have e : p = q := by
        have hp := (h p).1 (by simp)
        have hq := (h q).2 (by simp)
        rcases List.mem_cons.1 hp with e | hp
        · exact e
        · rcases List.mem_cons.1 hq with e | hq
          · exact e.symm
          · have a := h2.1 p hp
            have b := h1.1 q hq
            rw [cmpN_neg q p] at b
            omega
      subst e
      have irr : ∀ r : Lb, ¬ cmpN r r < 0 := fun r => by rw [cmpN_eq rfl]; omega
      congr 1
      refine ih B h1.2 h2.2 fun r => ⟨fun hr => ?_, fun hr => ?_⟩
      · rcases List.mem_cons.1 ((h r).1 (by simp [hr])) with e | hr'
        · subst e; exact absurd (h1.1 r hr) (irr r)
        · exact hr'
      · rcases List.mem_cons.1 ((h r).2 (by simp [hr])) with e | hr'
        · subst e; exact absurd (h2.1 r hr) (irr r)
        · exact hr'
theorem of_mem {ls : List Lb} (h : GoodP ls) {p : Lb} (hp : p ∈ ls) : OfV ls p.1 p.2 := by
  obtain ⟨k, hk, rfl⟩ := mem_idx hp
  refine .inl ⟨k, hk, rfl, rfl, fun i hi e => ?_⟩
  have := rise_lt h hi hk
  rw [cmpN_eq e] at this
  omega
theorem mem_of {ls : List Lb} {x v : ByteArray} (h : OfV ls x v) (hv : v ≠ ByteArray.empty) : (x, v) ∈ ls := by
  rcases h with ⟨k, hk, h1, h2, _⟩ | ⟨_, h2⟩
  · have := idx_mem hk
    rw [show ls.getD k e0 = (x, v) from Prod.ext h1 h2] at this
    exact this
  · exact absurd h2 hv
theorem has_mem {ss : List ByteArray} {x : ByteArray} : hasB ss x = true ↔ ∃ i, i < ss.length ∧ ss.getD i ByteArray.empty = x := by
  constructor
  · intro h
    refine Classical.byContradiction fun hn => ?_
    rw [has_no (ss := ss) (x := x) (fun i hi e => hn ⟨i, hi, e⟩)] at h
    cases h
  · rintro ⟨i, hi, e⟩
    exact has_yes hi e
theorem sel_mem {ls : List Lb} {es : List ByteArray} {p : Lb} : p ∈ selL es true ls ↔ p ∈ ls ∧ hasB es p.1 = true := by
  unfold selL
  rw [List.mem_filter]; simp
theorem sel_good {ls : List Lb} {es : List ByteArray} (h : GoodP ls) : (∀ p ∈ selL es true ls, Nz p) ∧ (selL es true ls).length ≤ 20 ∧ Shrt (selL es true ls) := by
  refine ⟨fun p hp => ok_nz (good_ok h (sel_mem.1 hp).1), Nat.le_trans (List.length_filter_le _ _) h.1, fun i hi => ok_sizes (good_ok h (sel_mem.1 (idx_mem hi)).1)⟩
/-- Labels say the same under all names just where the keys of what is chosen are the same. -/
theorem key_iff {f l : List Lb} {es : List ByteArray} (hf : GoodP f) (hl : GoodP l) {u v : ByteArray → ByteArray} (hu : ∀ x, OfV f x (u x)) (hv : ∀ x, OfV l x (v x)) :
    keyL (selL es true f) = keyL (selL es true l) ↔ ∀ i, i < es.length → u (es.getD i ByteArray.empty) = v (es.getD i ByteArray.empty) := by
  constructor
  · intro h i hi
    have e := keyL_inj _ _ (sel_good hf).1 (sel_good hl).1 h
    have hh : hasB es (es.getD i ByteArray.empty) = true := has_mem.2 ⟨i, hi, rfl⟩
    generalize es.getD i ByteArray.empty = x at *
    by_cases h1 : u x = ByteArray.empty
    · by_cases h2 : v x = ByteArray.empty
      · rw [h1, h2]
      · have := sel_mem.2 ⟨mem_of (hv x) h2, hh⟩
        rw [← e] at this
        exact (hu x).uniq (of_mem hf (sel_mem.1 this).1)
    · have := sel_mem.2 ⟨mem_of (hu x) h1, hh⟩
      rw [e] at this
      exact ((hv x).uniq (of_mem hl (sel_mem.1 this).1)).symm
  · intro h
    have key : ∀ {f l : List Lb} {u v : ByteArray → ByteArray}, GoodP f → GoodP l → (∀ x, OfV f x (u x)) → (∀ x, OfV l x (v x)) → (∀ i, i < es.length → u (es.getD i ByteArray.empty) = v (es.getD i ByteArray.empty)) → ∀ p, p ∈ selL es true f → p ∈ selL es true l := by
      intro f l u v hf hl hu hv h p hp
      obtain ⟨h1, h2⟩ := sel_mem.1 hp
      obtain ⟨i, hi, e⟩ := has_mem.1 h2
      have h3 := h i hi
      rw [e, (hu p.1).uniq (of_mem hf h1)] at h3
      have h4 := hv p.1
      rw [← h3] at h4
      exact sel_mem.2 ⟨mem_of h4 (ok_value (good_ok hf h1)), h2⟩
    have hs : ∀ {L : List Lb}, GoodP L → (selL es true L).Pairwise (fun p q => cmpN p q < 0) := fun hL => (good_pair hL).sublist List.filter_sublist
    rw [pair_ext _ _ (hs hf) (hs hl) fun p => ⟨key hf hl hu hv h p, key hl hf hv hu (fun i hi => (h i hi).symm) p⟩]
end Go.Proofs.YthcogkoleiejgaaGreat.Lab
