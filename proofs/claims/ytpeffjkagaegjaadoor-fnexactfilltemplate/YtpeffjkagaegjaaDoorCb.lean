/- The order of texts: total, and what rises rises throughout. -/
import Derived.Test.YtpeffjkagaegjaaDoorGi
namespace Go.Proofs.YtpeffjkagaegjaaDoor.Lab
open Go.RowKit Go.Proofs.YtpeffjkagaegjaaDoor.Str Go.Lib

theorem cb_cons (x y : UInt8) (a b : List UInt8) : compareBytes (x :: a) (y :: b) = if x.toNat < y.toNat then -1 else if y.toNat < x.toNat then 1 else compareBytes a b := by
  conv => lhs; unfold compareBytes
  simp only [UInt8.lt_iff_toNat_lt]
theorem cb_neg : ∀ (a b : List UInt8), compareBytes b a = - compareBytes a b := by
  intro a
  induction a with
  | nil => intro b; cases b <;> simp [compareBytes]
  | cons x a ih =>
    intro b
    cases b with
    | nil => simp [compareBytes]
    | cons y b =>
      rw [cb_cons, cb_cons, ih b]
      split
      · rw [if_neg (by omega)]
      · split
        · rfl
        · rfl
theorem cb_zero : ∀ (a b : List UInt8), compareBytes a b = 0 → a = b := by
  intro a
  induction a with
  | nil => intro b h; cases b with
    | nil => rfl
    | cons y b => simp [compareBytes] at h
  | cons x a ih =>
    intro b h
    cases b with
    | nil => simp [compareBytes] at h
    | cons y b =>
      rw [cb_cons] at h
      split at h
      · omega
      · split at h
        · omega
        · rw [ih b h, UInt8.toNat_inj.1 (show x.toNat = y.toNat by omega)]
theorem cb_self (a : List UInt8) : compareBytes a a = 0 := by
  induction a with
  | nil => rfl
  | cons x a ih => rw [cb_cons, if_neg (by omega), if_neg (by omega), ih]
theorem cb_trans : ∀ (a b c : List UInt8), compareBytes a b < 0 → compareBytes b c < 0 → compareBytes a c < 0 := by
  intro a
  induction a with
  | nil =>
    intro b c h1 h2
    cases c with
    | nil =>
      cases b with
      | nil => simp [compareBytes] at h1
      | cons y b => simp [compareBytes] at h2
    | cons z c => simp [compareBytes]
  | cons x a ih =>
    intro b c h1 h2
    cases b with
    | nil => simp [compareBytes] at h1
    | cons y b =>
      cases c with
      | nil => simp [compareBytes] at h2
      | cons z c =>
        rw [cb_cons] at h1 h2 ⊢
        by_cases e1 : x.toNat < z.toNat
        · rw [if_pos e1]; omega
        · rw [if_neg e1]
          by_cases f1 : x.toNat < y.toNat
          · rw [if_neg (by omega), if_pos (by omega)] at h2
            omega
          · rw [if_neg f1] at h1
            by_cases f2 : y.toNat < x.toNat
            · rw [if_pos f2] at h1; omega
            · rw [if_neg f2] at h1
              by_cases g1 : y.toNat < z.toNat
              · omega
              · rw [if_neg g1] at h2
                by_cases g2 : z.toNat < y.toNat
                · rw [if_pos g2] at h2; omega
                · rw [if_neg g2] at h2
                  rw [if_neg (by omega)]
                  exact ih b c h1 h2

theorem cmpN_trans {p q r : Lb} (h1 : cmpN p q < 0) (h2 : cmpN q r < 0) : cmpN p r < 0 := cb_trans _ _ _ h1 h2
theorem cmpN_neg (p q : Lb) : cmpN q p = - cmpN p q := cb_neg _ _
theorem cmpN_zero {p q : Lb} (h : cmpN p q = 0) : p.1 = q.1 := by
  have := cb_zero _ _ h
  have e : p.1.data = q.1.data := Array.toList_inj.1 this
  cases hp : p.1; cases hq : q.1; rw [hp, hq] at e; simpa using e
theorem cmpN_eq {p q : Lb} (h : p.1 = q.1) : cmpN p q = 0 := by unfold cmpN; rw [h]; exact cb_self _

theorem rise_all {ls : List Lb} (h : GoodP ls) : ∀ (d i : Nat), i + d + 1 < ls.length → cmpN (ls.getD i e0) (ls.getD (i + d + 1) e0) < 0 := by
  intro d
  induction d with
  | zero => intro i hi; exact (h.2 (i + 1) hi).2 (by omega)
  | succ d ih =>
    intro i hi
    exact cmpN_trans (ih i (by omega)) ((h.2 (i + (d + 1) + 1) hi).2 (by omega))
theorem rise_lt {ls : List Lb} (h : GoodP ls) {i j : Nat} (hij : i < j) (hj : j < ls.length) : cmpN (ls.getD i e0) (ls.getD j e0) < 0 := by
  have := rise_all h (j - i - 1) i (by omega)
  rwa [show i + (j - i - 1) + 1 = j from by omega] at this
end Go.Proofs.YtpeffjkagaegjaaDoor.Lab
