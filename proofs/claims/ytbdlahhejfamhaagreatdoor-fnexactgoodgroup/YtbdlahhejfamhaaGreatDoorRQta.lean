/- Questions as trees: rows, one tree for each list of rows. -/
import Derived.Test.YtbdlahhejfamhaaGreatDoorRQya
namespace Go.Proofs.YtbdlahhejfamhaaGreatDoor.Qry
open Go.RowKit

inductive Tr where
  | nd (r : Pl) (ks : List Tr)
def Tr.r : Tr → Pl
  | .nd r _ => r
def Tr.ks : Tr → List Tr
  | .nd _ ks => ks
mutual
/-- The rows of a tree, each ahead of its kids. -/
def rows : Tr → List Pl
  | .nd r ks => r :: rowsL ks
def rowsL : List Tr → List Pl
  | [] => []
  | t :: ts => rows t ++ rowsL ts
end
theorem rowsL_append (a b : List Tr) : rowsL (a ++ b) = rowsL a ++ rowsL b := by
  induction a with
  | nil => simp [rowsL]
  | cons t a ih => simp [rowsL, ih]
/-- What is asked of each node, at its depth; each has as many kids as it says. -/
abbrev Nd := Nat → Pl → List Tr → Prop
mutual
def Gt (N : Nd) : Nat → Tr → Prop
  | d, .nd r ks => r.kc = ks.length ∧ N d r ks ∧ GtL N (d + 1) ks
def GtL (N : Nd) : Nat → List Tr → Prop
  | _, [] => True
  | d, t :: ts => Gt N d t ∧ GtL N d ts
end
theorem GtL_append {N : Nd} {d : Nat} {a b : List Tr} : GtL N d (a ++ b) ↔ GtL N d a ∧ GtL N d b := by
  induction a with
  | nil => simp [GtL]
  | cons t a ih => simp [GtL, ih, and_assoc]
theorem GtL_mem {N : Nd} {d : Nat} {a : List Tr} : GtL N d a ↔ ∀ t ∈ a, Gt N d t := by
  induction a with
  | nil => simp [GtL]
  | cons t a ih => simp [GtL, ih]
mutual
/-- Of two trees whose rows begin a list they are one. -/
theorem rows_one (N M : Nd) : ∀ (t t' : Tr) (d d' : Nat) (x x' : List Pl), Gt N d t → Gt M d' t' → rows t ++ x = rows t' ++ x' → t = t' ∧ x = x'
  | .nd r ks, .nd r' ks', d, d', x, x', h, h', e => by
    simp only [rows, List.cons_append, List.cons.injEq] at e
    obtain ⟨rfl, e⟩ := e
    have hl : ks.length = ks'.length := by have := h.1; have := h'.1; omega
    obtain ⟨rfl, rfl⟩ := rowsL_one N M ks ks' (d + 1) (d' + 1) x x' hl h.2.2 h'.2.2 e
    exact ⟨rfl, rfl⟩
theorem rowsL_one (N M : Nd) : ∀ (ks ks' : List Tr) (d d' : Nat) (x x' : List Pl), ks.length = ks'.length → GtL N d ks → GtL M d' ks' → rowsL ks ++ x = rowsL ks' ++ x' → ks = ks' ∧ x = x'
  | [], [], _, _, _, _, _, _, _, e => ⟨rfl, by simpa [rowsL] using e⟩
  | [], _ :: _, _, _, _, _, hl, _, _, _ => by simp at hl
  | _ :: _, [], _, _, _, _, hl, _, _, _ => by simp at hl
  | t :: ts, t' :: ts', d, d', x, x', hl, h, h', e => by
    simp only [rowsL, List.append_assoc] at e
    obtain ⟨rfl, e2⟩ := rows_one N M t t' d d' _ _ h.1 h'.1 e
    obtain ⟨rfl, e3⟩ := rowsL_one N M ts ts' d d' x x' (by simpa using hl) h.2 h'.2 e2
    exact ⟨rfl, e3⟩
end
/-- There is no tree where the next kid is none. -/
theorem no_more {N : Nd} {d : Nat} {r : Pl} {ts : List Tr} {rest : List Pl} (hts : GtL N (d + 1) ts) (hl : (ts.length : Int) < r.kc) (hbad : ∀ t x, rest = rows t ++ x → Gt N (d + 1) t → ∀ ks, ts ++ [t] <+: ks → N d r ks → False) :
    ∀ t x, r :: (rowsL ts ++ rest) = rows t ++ x → ¬ Gt N d t := by
  rintro ⟨r', ks⟩ x e ⟨h1, h2, h3⟩
  simp only [rows, List.cons_append, List.cons.injEq] at e
  obtain ⟨rfl, e⟩ := e
  have hlt : ts.length < ks.length := by omega
  have hsp : ks = ks.take ts.length ++ ks[ts.length] :: ks.drop (ts.length + 1) := by
    rw [← List.drop_eq_getElem_cons hlt, List.take_append_drop]
  have e' : rowsL ts ++ rest = rowsL (ks.take ts.length) ++ (rowsL (ks[ts.length] :: ks.drop (ts.length + 1)) ++ x) := by
    rw [e, ← List.append_assoc, ← rowsL_append, ← hsp]
  have h3' : GtL N (d + 1) (ks.take ts.length) ∧ GtL N (d + 1) (ks[ts.length] :: ks.drop (ts.length + 1)) := by
    rw [← GtL_append, ← hsp]; exact h3
  obtain ⟨e1, e2⟩ := rowsL_one N N ts (ks.take ts.length) _ _ _ _ (by simp; omega) hts h3'.1 e'
  simp only [rowsL, List.append_assoc] at e2
  refine hbad _ _ e2 h3'.2.1 ks ⟨ks.drop (ts.length + 1), ?_⟩ h2
  have h := hsp.symm
  rw [← e1] at h
  simpa using h
theorem no_here {N : Nd} {d : Nat} {r : Pl} {rest : List Pl} (h : ∀ ks : List Tr, r.kc = ks.length → ¬ N d r ks) : ∀ t x, r :: rest = rows t ++ x → ¬ Gt N d t := by
  rintro ⟨r', ks⟩ x e ⟨h1, h2, _⟩
  simp only [rows, List.cons_append, List.cons.injEq] at e
  obtain ⟨rfl, _⟩ := e
  exact h ks h1 h2
theorem no_rows {N : Nd} {d : Nat} : ∀ t x, ([] : List Pl) = rows t ++ x → ¬ Gt N d t := by
  rintro ⟨r', ks⟩ x e
  simp [rows] at e
end Go.Proofs.YtbdlahhejfamhaaGreatDoor.Qry
