/- Merged samples: the plain facts; the model's l6Merge. -/
import Derived.Test.YtailoeloonnoeaaRTg
namespace Go.Proofs.Ytailoeloonnoeaa.Smp
open Go.RowKit

/-- All of both, rising; a's counts. -/
def mrg : List Sm → List Sm → List Sm
  | [], b => b
  | a :: A, [] => a :: A
  | a :: A, b :: B => if b.1 < a.1 then b :: mrg (a :: A) B else if a.1 = b.1 then a :: mrg A B else a :: mrg A (b :: B)
termination_by a b => a.length + b.length
theorem mrg_nil_left (b : List Sm) : mrg [] b = b := by unfold mrg; rfl
theorem mrg_nil_right (a : List Sm) : mrg a [] = a := by cases a <;> (unfold mrg; rfl)
theorem mrg_cons (p q : Sm) (A B : List Sm) : mrg (p :: A) (q :: B) = if q.1 < p.1 then q :: mrg (p :: A) B else if p.1 = q.1 then p :: mrg A B else p :: mrg A (q :: B) := by rw [mrg]
theorem mrg_len : ∀ (a b : List Sm), (mrg a b).length ≤ a.length + b.length := by
  intro a b
  induction a generalizing b with
  | nil => rw [mrg_nil_left]; simp
  | cons p A iha =>
    induction b with
    | nil => rw [mrg_nil_right]; simp
    | cons q B ihb =>
      rw [mrg_cons]
      split
      · simp at *; omega
      · split
        · have := iha B; simp at *; omega
        · have := iha (q :: B); simp at *; omega
theorem drop_cons {L : List Sm} {k : Nat} (h : k < L.length) : L.drop k = L.getD k e0 :: L.drop (k + 1) := by
  rw [List.drop_eq_getElem_cons h]; simp [h]
/-- What has been told, and what is left of both. -/
def Mrg (xs ys O : List Sm) (i k : Nat) : Prop := mrg xs ys = O ++ mrg (xs.drop i) (ys.drop k) ∧ O.length ≤ i + k
theorem Mrg.init (xs ys : List Sm) : Mrg xs ys [] 0 0 := ⟨by simp, by simp⟩
theorem Mrg.right {xs ys O : List Sm} {i k : Nat} (h : Mrg xs ys O i k) (hk : k < ys.length) (hi : i < xs.length → (ys.getD k e0).1 < (xs.getD i e0).1) : Mrg xs ys (O ++ [ys.getD k e0]) i (k + 1) := by
  refine ⟨?_, by have := h.2; simp; omega⟩
  rw [h.1, List.append_assoc]
  congr 1
  by_cases hi' : i < xs.length
  · rw [drop_cons hi', drop_cons hk, mrg_cons, if_pos (hi hi')]; rfl
  · rw [List.drop_eq_nil_of_le (by omega), mrg_nil_left, mrg_nil_left, drop_cons hk]; rfl
theorem Mrg.left {xs ys O : List Sm} {i k : Nat} (h : Mrg xs ys O i k) (hi : i < xs.length) (hk : k < ys.length → (xs.getD i e0).1 < (ys.getD k e0).1) : Mrg xs ys (O ++ [xs.getD i e0]) (i + 1) k := by
  refine ⟨?_, by have := h.2; simp; omega⟩
  rw [h.1, List.append_assoc]
  congr 1
  by_cases hk' : k < ys.length
  · have := hk hk'
    rw [drop_cons hi, drop_cons hk', mrg_cons, if_neg (by omega), if_neg (by omega)]; rfl
  · rw [show ys.drop k = [] from List.drop_eq_nil_of_le (by omega), mrg_nil_right, mrg_nil_right, drop_cons hi]; rfl
theorem Mrg.both {xs ys O : List Sm} {i k : Nat} (h : Mrg xs ys O i k) (hi : i < xs.length) (hk : k < ys.length) (he : (xs.getD i e0).1 = (ys.getD k e0).1) : Mrg xs ys (O ++ [xs.getD i e0]) (i + 1) (k + 1) := by
  refine ⟨?_, by have := h.2; simp; omega⟩
  rw [h.1, List.append_assoc]
  congr 1
  rw [drop_cons hi, drop_cons hk, mrg_cons, if_neg (by omega), if_pos he]; rfl
theorem Mrg.done {xs ys O : List Sm} {i k : Nat} (h : Mrg xs ys O i k) (hi : xs.length ≤ i) : mrg xs ys = O ++ ys.drop k := by
  rw [h.1, List.drop_eq_nil_of_le hi, mrg_nil_left]

theorem own_drewN {w : World} {base e size n : Nat} {v : Value} {xs : List Value} (h : w.ownsRow base e size v n xs) (q : Nat) : (w.drewN q).ownsRow base e size v n xs :=
  h.kept (row := none) ⟨rfl, rfl, rfl, Nat.le_refl _, fun _ _ _ => rfl⟩ (by cases hv : v.ownBlock <;> simp)
theorem Own.snoc {w : World} {base : Nat} {v : Value} {O : List Sm} {p : Sm} (h : w.ownsRow base 53 2 v (O.length + 1) (flat O ++ [.int .i64 p.1, .int .i64 p.2])) : Own w base v (O ++ [p]) := by
  unfold Own; rw [flat_append, List.length_append]; exact h

end Go.Proofs.Ytailoeloonnoeaa.Smp
