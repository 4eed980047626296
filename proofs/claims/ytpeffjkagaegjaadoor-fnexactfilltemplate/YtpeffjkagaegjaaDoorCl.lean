/- Lists of labels compared, in the model and in the program. -/
import Derived.Test.YtpeffjkagaegjaaDoorGi
namespace Go.Proofs.YtpeffjkagaegjaaDoor.Lab
open Go.RowKit Go.Proofs.YtpeffjkagaegjaaDoor.Str

def orC (x y : Int) : Int := if x = 0 then y else x
def cmpV (p q : Lb) : Int := Lib.compareBytes p.2.data.toList q.2.data.toList
def cmpL (p q : Lb) : Int := orC (cmpN p q) (cmpV p q)
def cmpList : List Lb → List Lb → Int
  | [], [] => 0
  | [], _ :: _ => -1
  | _ :: _, [] => 1
  | p :: a, q :: b => orC (cmpL p q) (cmpList a b)

theorem lst_at : ∀ (k : Nat) (a b : List Lb), k < a.length → k < b.length → (∀ i, i < k → cmpL (a.getD i e0) (b.getD i e0) = 0) → cmpL (a.getD k e0) (b.getD k e0) ≠ 0 → cmpList a b = cmpL (a.getD k e0) (b.getD k e0) := by
  intro k
  induction k with
  | zero =>
    intro a b ha hb _ hne
    match a, b, ha, hb with
    | x :: a, y :: b, _, _ =>
      simp only [List.getD_cons_zero] at hne ⊢
      unfold cmpList; conv => lhs; unfold orC
      rw [if_neg hne]
  | succ k ih =>
    intro a b ha hb he hne
    match a, b, ha, hb with
    | x :: a, y :: b, ha, hb =>
      have h0 := he 0 (by omega)
      simp only [List.getD_cons_zero] at h0
      simp only [List.getD_cons_succ] at hne ⊢
      rw [← ih a b (by simpa using ha) (by simpa using hb) (fun i hi => by have := he (i + 1) (by omega); simpa using this) hne]
      conv => lhs; unfold cmpList; unfold orC
      rw [if_pos h0]
theorem lst_end : ∀ (k : Nat) (a b : List Lb), (∀ i, i < k → cmpL (a.getD i e0) (b.getD i e0) = 0) → k ≤ a.length → k ≤ b.length → (a.length ≤ k ∨ b.length ≤ k) → cmpList a b = numC a.length b.length := by
  intro k
  induction k with
  | zero =>
    intro a b _ _ _ h
    cases a with
    | nil =>
      cases b with
      | nil => rfl
      | cons y b => unfold cmpList numC; rw [if_pos (by simp)]
    | cons x a =>
      cases b with
      | nil => unfold cmpList numC; rw [if_neg (by simp; omega), if_pos (by simp)]
      | cons y b => simp at h
  | succ k ih =>
    intro a b he ha hb h
    match a, b, ha, hb with
    | x :: a, y :: b, ha, hb =>
      have h0 := he 0 (by omega)
      simp only [List.getD_cons_zero] at h0
      have e := ih a b (fun i hi => by have := he (i + 1) (by omega); simpa using this) (by simpa using ha) (by simpa using hb) (by simpa using h)
      have e2 : numC ((x :: a).length : Nat) ((y :: b).length : Nat) = numC a.length b.length := by
        unfold numC; simp
      rw [e2, ← e]
      conv => lhs; unfold cmpList; unfold orC
      rw [if_pos h0]

end Go.Proofs.YtpeffjkagaegjaaDoor.Lab
