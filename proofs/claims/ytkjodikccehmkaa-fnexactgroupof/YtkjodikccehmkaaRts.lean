/- Trees of routes: how deep they are, what all rows are; good lists of routes. -/
import Derived.Test.YtkjodikccehmkaaRtr
import Derived.Test.YtkjodikccehmkaaRtb
namespace Go.Proofs.Ytkjodikccehmkaa.Rou
open Go.RowKit

mutual
/-- How many are within each other. -/
def dp : Tr → Nat
  | .nd _ ks => dpL ks + 1
def dpL : List Tr → Nat
  | [] => 0
  | t :: ts => max (dp t) (dpL ts)
end
theorem dpL_append (a b : List Tr) : dpL (a ++ b) = max (dpL a) (dpL b) := by
  induction a with
  | nil => simp [dpL]
  | cons t a ih => simp [dpL, ih, Nat.max_assoc]
/-- Any tree. -/
def N0 : Nd := fun _ _ _ => True
/-- A tree of good routes. -/
def NR : Nd := fun d r _ => okP r = true ∧ d ≤ 8
mutual
theorem gt0_any : ∀ (t : Tr) (d d' : Nat), Gt N0 d t → Gt N0 d' t
  | .nd r ks, d, d', h => by
    simp only [Gt] at h ⊢
    exact ⟨h.1, trivial, gtL0_any ks _ _ h.2.2⟩
theorem gtL0_any : ∀ (ts : List Tr) (d d' : Nat), GtL N0 d ts → GtL N0 d' ts
  | [], _, _, _ => by simp [GtL]
  | t :: ts, d, d', h => by
    simp only [GtL] at h ⊢
    exact ⟨gt0_any t d d' h.1, gtL0_any ts d d' h.2⟩
end
mutual
theorem gt_make : ∀ (t : Tr) (d : Nat), Gt N0 d t → (∀ r ∈ rows t, okP r = true) → d + dp t ≤ 9 → Gt NR d t
  | .nd r ks, d, h, ho, hd => by
    simp only [Gt] at h ⊢
    simp only [dp] at hd
    exact ⟨h.1, ⟨ho r (by simp [rows]), by omega⟩, gtL_make ks (d + 1) h.2.2 (fun x hx => ho x (by simp [rows, hx])) (by omega)⟩
theorem gtL_make : ∀ (ts : List Tr) (d : Nat), GtL N0 d ts → (∀ r ∈ rowsL ts, okP r = true) → d + dpL ts ≤ 9 → GtL NR d ts
  | [], _, _, _, _ => by simp [GtL]
  | t :: ts, d, h, ho, hd => by
    simp only [GtL] at h ⊢
    simp only [dpL] at hd
    exact ⟨gt_make t d h.1 (fun x hx => ho x (by simp [rowsL, hx])) (by omega), gtL_make ts d h.2 (fun x hx => ho x (by simp [rowsL, hx])) (by omega)⟩
end
mutual
theorem gt_take : ∀ (t : Tr) (d : Nat), Gt NR d t → Gt N0 d t ∧ (∀ r ∈ rows t, okP r = true) ∧ d + dp t ≤ 9
  | .nd r ks, d, h => by
    simp only [Gt] at h ⊢
    obtain ⟨h1, h2, h3⟩ := h
    obtain ⟨a, b, c⟩ := gtL_take ks (d + 1) h3
    refine ⟨⟨h1, trivial, a⟩, fun x hx => ?_, ?_⟩
    · simp only [rows, List.mem_cons] at hx
      rcases hx with rfl | hx
      · exact h2.1
      · exact b x hx
    · simp only [dp]
      cases ks with
      | nil => simp only [dpL]; have := h2.2; omega
      | cons t ts => have := c (by simp); omega
theorem gtL_take : ∀ (ts : List Tr) (d : Nat), GtL NR d ts → GtL N0 d ts ∧ (∀ r ∈ rowsL ts, okP r = true) ∧ (ts ≠ [] → d + dpL ts ≤ 9)
  | [], _, _ => ⟨by simp [GtL], by simp [rowsL], by simp⟩
  | t :: ts, d, h => by
    simp only [GtL] at h ⊢
    obtain ⟨a, b, c⟩ := gt_take t d h.1
    obtain ⟨a', b', c'⟩ := gtL_take ts d h.2
    refine ⟨⟨a, a'⟩, fun x hx => ?_, fun _ => ?_⟩
    · simp only [rowsL, List.mem_append] at hx
      rcases hx with hx | hx
      · exact b x hx
      · exact b' x hx
    · simp only [dpL]
      cases ts with
      | nil => simp only [dpL]; omega
      | cons u us => have := c' (by simp); omega
end
mutual
theorem gt_kd {N : Nd} : ∀ (t : Tr) (d : Nat), Gt N d t → ∀ r ∈ rows t, 0 ≤ r.kd
  | .nd r ks, d, h, x, hx => by
    simp only [Gt] at h
    simp only [rows, List.mem_cons] at hx
    rcases hx with rfl | hx
    · have := h.1; omega
    · exact gtL_kd ks _ h.2.2 x hx
theorem gtL_kd {N : Nd} : ∀ (ts : List Tr) (d : Nat), GtL N d ts → ∀ r ∈ rowsL ts, 0 ≤ r.kd
  | [], _, _, x, hx => by simp [rowsL] at hx
  | t :: ts, d, h, x, hx => by
    simp only [GtL] at h
    simp only [rowsL, List.mem_append] at hx
    rcases hx with hx | hx
    · exact gt_kd t d h.1 x hx
    · exact gtL_kd ts d h.2 x hx
end
theorem rows_ne (t : Tr) : rows t ≠ [] := by obtain ⟨r, ks⟩ := t; simp [rows]
theorem rows_pos (t : Tr) : 0 < (rows t).length := List.length_pos_iff.2 (rows_ne t)
theorem rowsL_len (ts : List Tr) : ts.length ≤ (rowsL ts).length := by
  induction ts with
  | nil => simp
  | cons t ts ih => have := rows_pos t; simp [rowsL]; omega
mutual
theorem dp_rows : ∀ t : Tr, dp t ≤ (rows t).length
  | .nd r ks => by have := dpL_rows ks; simp only [dp, rows, List.length_cons]; omega
theorem dpL_rows : ∀ ts : List Tr, dpL ts ≤ (rowsL ts).length
  | [] => by simp [dpL]
  | t :: ts => by have := dp_rows t; have := dpL_rows ts; simp only [dpL, rowsL, List.length_append]; omega
end
theorem dp_le (t : Tr) (h : (rows t).length ≤ 40) : dp t ≤ 1000 := by have := dp_rows t; omega
/-- The tree that a list of good routes is. -/
structure Is (ps : List Pl) (t : Tr) : Prop where
  rows : ps = rows t
  gt : Gt NR 1 t
  ms : t.r.ms = []
  on : t.r.on = false
/-- Good routes. -/
def GoodRt (ps : List Pl) : Prop := ps.length ≤ 40 ∧ ∃ t, Is ps t
open Classical in
noncomputable def goodP (ps : List Pl) : Bool := decide (GoodRt ps)
theorem goodP_true {ps : List Pl} (h : GoodRt ps) : goodP ps = true := by simp [goodP, h]
theorem goodP_false {ps : List Pl} (h : ¬ GoodRt ps) : goodP ps = false := by simp [goodP, h]
noncomputable abbrev goodR (ts : List T) : Bool := goodP (ts.map pl)
theorem map_getD (ts : List T) (i : Nat) (hi : i < ts.length) : (ts.map pl).getD i (pl t0) = pl (ts.getD i t0) := by simp [List.getD_eq_getElem?_getD, hi]
theorem same_map {n : Nat} {ts ts' : List T} (h : Same n ts ts') (hn : ts.length = n) (hn' : ts'.length = n) : ts'.map pl = ts.map pl := by
  apply List.ext_getElem (by simp; omega)
  intro i h1 h2
  have h1' : i < ts'.length := by simpa using h1
  have h2' : i < ts.length := by simpa using h2
  have := h i (by omega)
  simpa [List.getD_eq_getElem?_getD, h1', h2'] using this
theorem goodR_same {n : Nat} {ts ts' : List T} (h : Same n ts ts') (hn : ts.length = n) (hn' : ts'.length = n) : goodR ts' = goodR ts := by
  unfold goodR; rw [same_map h hn hn']
/-- How the program finds it: the rows by themselves, the tree, how deep it is. -/
theorem good_iff {ps : List Pl} : GoodRt ps ↔ ps.length ≤ 40 ∧ (∀ r ∈ ps, okP r = true ∧ 0 ≤ r.kd) ∧ ∃ t, ps = rows t ∧ Gt N0 1 t ∧ dp t ≤ 8 ∧ t.r.ms = [] ∧ t.r.on = false := by
  constructor
  · rintro ⟨h, t, ⟨rfl, h2, h3, h4⟩⟩
    obtain ⟨a, b, c⟩ := gt_take t 1 h2
    exact ⟨h, fun r hr => ⟨b r hr, gt_kd t 1 h2 r hr⟩, t, rfl, a, by omega, h3, h4⟩
  · rintro ⟨h, h1, t, rfl, h2, h3, h4, h5⟩
    exact ⟨h, t, ⟨rfl, gt_make t 1 h2 (fun r hr => (h1 r hr).1) (by omega), h4, h5⟩⟩
/-- Of one list there is one tree. -/
theorem one_tree {N M : Nd} {d d' : Nat} {t t' : Tr} (h : Gt N d t) (h' : Gt M d' t') (e : rows t = rows t') : t = t' := (rows_one N M t t' d d' [] [] h h' (by simpa using e)).1
/-- There is no tree of this row where its kids are these and there are to be others. -/
theorem kids_all {N : Nd} {d : Nat} {r : Pl} {ks : List Tr} (hk : r.kd = ks.length) (hn : N d r ks) (hks : GtL N (d + 1) ks) : Gt N d (.nd r ks) := by
  simp only [Gt]; exact ⟨hk, hn, hks⟩
end Go.Proofs.Ytkjodikccehmkaa.Rou
