/- Texts compared: l2CmpNum, l2CmpText, strings.Compare. -/
import Derived.Test.YtbjlnaaheahhnaaDoorNam
import Derived.Deep.RegionWith
namespace Go.Proofs.YtbjlnaaheahhnaaDoor.Str
open Go.RowKit

def numC (x y : Int) : Int := if x < y then -1 else if y < x then 1 else 0
theorem cmp_at : ∀ (k : Nat) (a b : List UInt8), k < a.length → k < b.length → a.take k = b.take k → a.getD k 0 ≠ b.getD k 0 → Lib.compareBytes a b = numC (a.getD k 0).toNat (b.getD k 0).toNat := by
  intro k
  induction k with
  | zero =>
    intro a b ha hb _ hne
    match a, b, ha, hb with
    | x :: a, y :: b, _, _ =>
      simp only [List.getD_cons_zero] at hne ⊢
      unfold Lib.compareBytes numC
      by_cases h1 : x < y
      · rw [if_pos h1, if_pos (by have := UInt8.lt_iff_toNat_lt.1 h1; omega)]
      · by_cases h2 : y < x
        · rw [if_neg h1, if_pos h2, if_neg (by have := UInt8.lt_iff_toNat_lt.1 h2; omega), if_pos (by have := UInt8.lt_iff_toNat_lt.1 h2; omega)]
        · exfalso
          rw [UInt8.lt_iff_toNat_lt] at h1 h2
          exact hne (UInt8.toNat_inj.1 (by omega))
  | succ k ih =>
    intro a b ha hb he hne
    match a, b, ha, hb with
    | x :: a, y :: b, ha, hb =>
      simp only [List.take_succ_cons, List.cons.injEq] at he
      obtain ⟨rfl, he⟩ := he
      simp only [List.getD_cons_succ] at hne ⊢
      rw [← ih a b (by simpa using ha) (by simpa using hb) he hne]
      conv => lhs; unfold Lib.compareBytes
      simp
theorem cmp_end : ∀ (k : Nat) (a b : List UInt8), a.take k = b.take k → (a.length ≤ k ∨ b.length ≤ k) → Lib.compareBytes a b = numC a.length b.length := by
  intro k
  induction k with
  | zero =>
    intro a b _ h
    cases a with
    | nil =>
      cases b with
      | nil => rfl
      | cons y b => unfold Lib.compareBytes numC; rw [if_pos (by simp)]
    | cons x a =>
      cases b with
      | nil => unfold Lib.compareBytes numC; rw [if_neg (by simp; omega), if_pos (by simp)]
      | cons y b => simp at h
  | succ k ih =>
    intro a b he h
    cases a with
    | nil =>
      cases b with
      | nil => rfl
      | cons y b => simp at he
    | cons x a =>
      cases b with
      | nil => simp at he
      | cons y b =>
        simp only [List.take_succ_cons, List.cons.injEq] at he
        obtain ⟨rfl, he⟩ := he
        have e := ih a b he (by simpa using h)
        have e2 : numC ((x :: a).length : Nat) ((x :: b).length : Nat) = numC a.length b.length := by
          unfold numC; simp
        rw [e2, ← e]
        conv => lhs; unfold Lib.compareBytes
        simp

theorem getD_str (s : ByteArray) (k : Nat) (h : k < s.size) : s.data.toList.getD k 0 = s[k] := by
  have : k < s.data.toList.length := by simpa using h
  rw [List.getD_eq_getElem?_getD, List.getElem?_eq_getElem this]; rfl
theorem take_str (s t : ByteArray) (k : Nat) (hs : k < s.size) (ht : k < t.size) (h : s.data.toList.take k = t.data.toList.take k) (he : s[k] = t[k]) : s.data.toList.take (k + 1) = t.data.toList.take (k + 1) := by
  rw [List.take_succ_eq_append_getElem (by simpa using hs), List.take_succ_eq_append_getElem (by simpa using ht), h]
  congr 1
  have : s.data.toList[k]'(by simpa using hs) = t.data.toList[k]'(by simpa using ht) := he
  rw [this]

theorem wrapb (c : UInt8) : IntKind.i64.wrap (c.toNat : Int) = c.toNat := by
  have := c.toNat_lt
  rw [IntKind.wrap_i64]; omega

end Go.Proofs.YtbjlnaaheahhnaaDoor.Str
