/- Lists of rules: how they lie in memory. -/
import Derived.Test.YtooackaijhpohaaGreatDoorRc
namespace Go.Proofs.YtooackaijhpohaaGreatDoor.Rul
open Go.RowKit Go.Proofs.YtooackaijhpohaaGreatDoor.Fil Go.Proofs.YtooackaijhpohaaGreatDoor.Rel

/-- A rule as it lies in memory: the rule, and where its names lie. -/
structure Q where
  r : Rule
  a : Option Addr
  c : Nat
def q0 : Q := ⟨⟨0, [], ⟨#[]⟩, ⟨#[]⟩, ⟨#[]⟩, ⟨#[]⟩, 0⟩, none, 0⟩
def cl (q : Q) : List Value := [.int .i64 q.r.act, .slice q.a q.r.from'.length q.c, .string q.r.sep, .string q.r.pat, .string q.r.tgt, .string q.r.val, .int .i64 q.r.md]
abbrev agQ (q : Q) : Value := agR q.r q.a q.r.from'.length q.c
def flat (L : List Q) : List Value := L.flatMap cl
theorem flat_cons (q : Q) (L : List Q) : flat (q :: L) = cl q ++ flat L := rfl
theorem flat_len (L : List Q) : (flat L).length = L.length * 7 := by
  induction L with
  | nil => rfl
  | cons q L ih => rw [flat_cons, List.length_append, ih, show (cl q).length = 7 from rfl, List.length_cons]; omega
theorem flat_at : ∀ (L : List Q) (m : Nat), (flat L)[m]? = if m < L.length * 7 then (cl (L.getD (m / 7) q0))[m % 7]? else none := by
  intro L
  induction L with
  | nil => intro m; simp [flat]
  | cons q L ih =>
    intro m
    rw [flat_cons]
    by_cases h : m < 7
    · rw [List.getElem?_append_left (by rw [show (cl q).length = 7 from rfl]; exact h), if_pos (by simp; omega)]
      rw [show m / 7 = 0 from by omega, show m % 7 = m from by omega]
      rfl
    · rw [List.getElem?_append_right (by rw [show (cl q).length = 7 from rfl]; omega), show (cl q).length = 7 from rfl, ih]
      by_cases h2 : m - 7 < L.length * 7
      · rw [if_pos h2, if_pos (by simp; omega), show m / 7 = (m - 7) / 7 + 1 from by omega, show m % 7 = (m - 7) % 7 from by omega]
        rfl
      · rw [if_neg h2, if_neg (by simp; omega)]
theorem flat_get (L : List Q) (i j : Nat) (hi : i < L.length) (hj : j < 7) : (flat L)[i * 7 + j]? = (cl (L.getD i q0))[j]? := by
  rw [flat_at, if_pos (by omega), show (i * 7 + j) / 7 = i from by omega, show (i * 7 + j) % 7 = j from by omega]
/-- A row of cells, from a place on written anew. -/
def setN (l : List Value) (o : Nat) : List Value → List Value
  | [] => l
  | v :: vs => setN (l.set o v) (o + 1) vs
theorem setN_len : ∀ (vs l : List Value) (o : Nat), (setN l o vs).length = l.length := by
  intro vs
  induction vs with
  | nil => intro l o; rfl
  | cons v vs ih => intro l o; rw [setN, ih]; simp
theorem setN_get : ∀ (vs l : List Value) (o m : Nat), (setN l o vs)[m]? = if o ≤ m ∧ m < o + vs.length ∧ m < l.length then vs[m - o]? else l[m]? := by
  intro vs
  induction vs with
  | nil => intro l o m; rw [setN, if_neg (by simp; omega)]
  | cons v vs ih =>
    intro l o m
    rw [setN, ih, List.length_set, List.getElem?_set]
    by_cases h1 : o + 1 ≤ m ∧ m < o + 1 + vs.length ∧ m < l.length
    · rw [if_pos h1, if_pos (by simp; omega), show m - o = (m - (o + 1)) + 1 from by omega]
      rfl
    · rw [if_neg h1]
      by_cases h2 : o = m
      · subst h2
        rw [if_pos rfl]
        by_cases h3 : o < l.length
        · rw [if_pos h3, if_pos (by simp; omega), Nat.sub_self]; rfl
        · rw [if_neg h3, if_neg (by omega), List.getElem?_eq_none (by omega)]
      · rw [if_neg h2, if_neg (by simp; omega)]
theorem flat_set (L : List Q) (i : Nat) (q : Q) (hi : i < L.length) : setN (flat L) (i * 7) (cl q) = flat (L.set i q) := by
  apply List.ext_getElem?
  intro m
  rw [setN_get, flat_at L, flat_len, show (cl q).length = 7 from rfl, flat_at, List.length_set]
  by_cases h1 : i * 7 ≤ m ∧ m < i * 7 + 7 ∧ m < L.length * 7
  · rw [if_pos h1, if_pos h1.2.2]
    have e1 : m / 7 = i := by omega
    have e2 : m % 7 = m - i * 7 := by omega
    rw [e1, e2, List.getD_eq_getElem?_getD, List.getElem?_set, if_pos rfl, if_pos hi]
    rfl
  · rw [if_neg h1]
    by_cases h2 : m < L.length * 7
    · rw [if_pos h2, if_pos h2, List.getD_eq_getElem?_getD, List.getD_eq_getElem?_getD, List.getElem?_set, if_neg (by omega)]
    · rw [if_neg h2, if_neg h2]

/-- The slice that begins at 'a' holds the rules 'qs' in the world 'w'. -/
def HasR (w : World) (a : Option Addr) (qs : List Q) : Prop :=
  qs = [] ∨ ∃ b off, a = some ⟨b, off, none⟩ ∧ b < w.heap.size ∧ ∀ i, i < qs.length → (∀ j, j < 7 → w.cell? ⟨b, off + i * 7 + j, none⟩ = (cl (qs.getD i q0))[j]?) ∧ HasT w (qs.getD i q0).a (qs.getD i q0).r.from'
theorem HasR.below {w w' : World} {a : Option Addr} {qs : List Q} (h : HasR w a qs) (hb : Below w.heap.size w w') : HasR w' a qs := by
  rcases h with h | ⟨b, off, h1, h2, h3⟩
  · exact .inl h
  · exact .inr ⟨b, off, h1, Nat.lt_of_lt_of_le h2 hb.size, fun i hi => ⟨fun j hj => (hb.cell (by exact h2)).trans ((h3 i hi).1 j hj), (h3 i hi).2.below hb⟩⟩
theorem HasR.alloc {w : World} {a : Option Addr} {qs : List Q} (h : HasR w a qs) (o : Obj) : HasR (w.alloc o) a qs := h.below ((Below.refl _ _).alloc (Nat.le_refl _) o)
/-- The seven cells of the rule at a place. -/
theorem HasR.at7 {w : World} {a : Option Addr} {qs : List Q} (h : HasR w a qs) (i : Nat) (hi : i < qs.length) : ∃ b off, a = some ⟨b, off, none⟩ ∧ b < w.heap.size ∧
    w.cell? ⟨b, off + i * 7, none⟩ = some (.int .i64 (qs.getD i q0).r.act) ∧ w.cell? ⟨b, off + i * 7 + 1, none⟩ = some (.slice (qs.getD i q0).a (qs.getD i q0).r.from'.length (qs.getD i q0).c) ∧ w.cell? ⟨b, off + i * 7 + 2, none⟩ = some (.string (qs.getD i q0).r.sep) ∧ w.cell? ⟨b, off + i * 7 + 3, none⟩ = some (.string (qs.getD i q0).r.pat) ∧ w.cell? ⟨b, off + i * 7 + 4, none⟩ = some (.string (qs.getD i q0).r.tgt) ∧ w.cell? ⟨b, off + i * 7 + 5, none⟩ = some (.string (qs.getD i q0).r.val) ∧ w.cell? ⟨b, off + i * 7 + 6, none⟩ = some (.int .i64 (qs.getD i q0).r.md) ∧ HasT w (qs.getD i q0).a (qs.getD i q0).r.from' := by
  rcases h with h | ⟨b, off, h1, h2, h3⟩
  · rw [h] at hi; simp at hi
  · obtain ⟨h4, h5⟩ := h3 i hi
    exact ⟨b, off, h1, h2, h4 0 (by omega), h4 1 (by omega), h4 2 (by omega), h4 3 (by omega), h4 4 (by omega), h4 5 (by omega), h4 6 (by omega), h5⟩
/-- All texts and numbers are such as a machine can hold. -/
def FitQ (qs : List Q) : Prop := ∀ i, FitR (qs.getD i q0).r ∧ FitT (qs.getD i q0).r.from' ∧ (qs.getD i q0).r.from'.length ≤ maxLen
theorem fit_q0 : FitR q0.r ∧ FitT q0.r.from' ∧ q0.r.from'.length ≤ maxLen := by
  refine ⟨⟨?_, ?_, ?_, ?_, ?_, ?_, ?_, ?_⟩, ?_, ?_⟩
  all_goals first | (simp [q0, maxLen]; done) | (show (0 : Nat) ≤ maxLen; exact Nat.zero_le _) | (intro i; simp [q0, maxLen])
def SmlQ (qs : List Q) : Prop := ∀ i, i < qs.length → SmlR (qs.getD i q0).r
theorem own_rows {w : World} {base g n c E : Nat} {qs : List Q} (h : w.ownsRow base E 7 (.slice (some ⟨g, 0, none⟩) n c) n (flat qs)) (hT : ∀ i, i < qs.length → HasT w (qs.getD i q0).a (qs.getD i q0).r.from') : HasR w (some ⟨g, 0, none⟩) qs := by
  have hl := h.1
  rw [flat_len] at hl
  refine .inr ⟨g, 0, rfl, (h.lt g rfl).2, fun i hi => ⟨fun j hj => ?_, hT i hi⟩⟩
  rw [Nat.zero_add]
  exact (h.cellAt (i * 7 + j) (by omega)).trans (flat_get qs i j hi hj)
end Go.Proofs.YtooackaijhpohaaGreatDoor.Rul
