/- Plain facts: bits that were added are there, and those ahead of them stay. -/
import Derived.Test.YteblbcbfaomdmaaDoorMark
import Derived.Laws.BitsLemmas
namespace Go.Proofs.YteblbcbfaomdmaaDoor.Bts
open Go.RowKit Go.Proofs.YteblbcbfaomdmaaDoor.Byt

theorem good_of_G {zs : List Int} {s : Nat} (h : G zs s) (hs : s ≤ 80000) : good zs s = true := by
  rw [good_in zs s hs h.len, decide_eq_true_iff]
  by_cases h8 : s % 8 = 0
  · exact .inl h8
  · refine .inr ?_
    have e : zs.length - 1 = s / 8 := by have := h.len; omega
    rw [e]; exact h.low h8

theorem stay8 : ∀ (z : Fin 256) (r q : Fin 8), q.val < r.val → z.val % 2 ^ (8 - r.val) = 0 → (z.val + 2 ^ (7 - r.val)) / 2 ^ (7 - q.val) % 2 = z.val / 2 ^ (7 - q.val) % 2 := by decide +kernel
theorem put8 : ∀ (z : Fin 256) (r : Fin 8), z.val % 2 ^ (8 - r.val) = 0 → (z.val + 2 ^ (7 - r.val)) / 2 ^ (7 - r.val) % 2 = 1 ∧ z.val / 2 ^ (7 - r.val) % 2 = 0 := by decide +kernel

theorem cast_bit (a b : Nat) : ((a : Int) / 2 ^ b % 2) = ((a / 2 ^ b % 2 : Nat) : Int) := by rw [Int.natCast_emod, Int.natCast_ediv, Int.natCast_pow]; rfl
theorem cast_add (a b : Nat) : ((a : Int) + 2 ^ b) = ((a + 2 ^ b : Nat) : Int) := by rw [Int.natCast_add, Int.natCast_pow]; rfl

theorem stay_bit (z : Int) (r q : Nat) (h0 : 0 ≤ z) (h1 : z ≤ 255) (hr : r < 8) (hq : q < r) (h : z % 2 ^ (8 - r) = 0) (b : Int) (hb : b = 0 ∨ b = 1) :
    (z + b * 2 ^ (8 - r - 1)) / 2 ^ (7 - q) % 2 = z / 2 ^ (7 - q) % 2 := by
  rcases hb with rfl | rfl
  · rw [Int.zero_mul, Int.add_zero]
  · obtain ⟨y, rfl⟩ := nat_of_byte z h0 h1
    rw [cast_mod] at h
    have := stay8 y ⟨r, hr⟩ ⟨q, by omega⟩ hq (by simp only; omega)
    simp only at this
    rw [Int.one_mul, show 8 - r - 1 = 7 - r from by omega, cast_add, cast_bit, cast_bit, this]
theorem put_bit (z : Int) (r : Nat) (h0 : 0 ≤ z) (h1 : z ≤ 255) (hr : r < 8) (h : z % 2 ^ (8 - r) = 0) (b : Int) (hb : b = 0 ∨ b = 1) :
    (z + b * 2 ^ (8 - r - 1)) / 2 ^ (7 - r) % 2 = b := by
  obtain ⟨y, rfl⟩ := nat_of_byte z h0 h1
  rw [cast_mod] at h
  obtain ⟨e1, e2⟩ := put8 y ⟨r, hr⟩ (by simp only; omega)
  simp only at e1 e2
  rcases hb with rfl | rfl
  · rw [Int.zero_mul, Int.add_zero, cast_bit, e2]; rfl
  · rw [Int.one_mul, show 8 - r - 1 = 7 - r from by omega, cast_add, cast_bit, e1]; rfl

theorem getD_set_self (l : List Int) (i : Nat) (x : Int) (h : i < l.length) : (l.set i x).getD i 0 = x := by simp [h]
theorem getD_set_ne (l : List Int) (i j : Nat) (x : Int) (h : i ≠ j) : (l.set i x).getD j 0 = l.getD j 0 := by simp [h]

theorem bitOf_put_lt {zs : List Int} {s : Nat} (h : G zs s) (b : Int) (hb : b = 0 ∨ b = 1) (i : Nat) (hi : i < s) : bitOf (putq zs s 1 b) i = bitOf zs i := by
  have hl := h.ext_len
  obtain ⟨e1, e2, e3⟩ := h.ext_low
  have hlt : s / 8 < (ext zs s).length := by omega
  unfold bitOf putq
  by_cases hd : i / 8 = s / 8
  · have h8 : ¬ s % 8 = 0 := by omega
    have hx : ext zs s = zs := by unfold ext; rw [if_neg h8]
    rw [hd, getD_set_self _ _ _ hlt]
    rw [hx] at e1 e2 e3 ⊢
    exact stay_bit _ (s % 8) (i % 8) e2 e3 (by omega) (by omega) e1 b hb
  · rw [getD_set_ne _ _ _ _ (by omega)]
    have hx : (ext zs s).getD (i / 8) 0 = zs.getD (i / 8) 0 := by
      unfold ext
      split
      · have := h.len
        simp only [List.getD_eq_getElem?_getD]
        rw [List.getElem?_append_left (by omega)]
      · rfl
    rw [hx]
theorem bitOf_put_eq {zs : List Int} {s : Nat} (h : G zs s) (b : Int) (hb : b = 0 ∨ b = 1) : bitOf (putq zs s 1 b) s = b := by
  have hl := h.ext_len
  obtain ⟨e1, e2, e3⟩ := h.ext_low
  have hlt : s / 8 < (ext zs s).length := by omega
  unfold bitOf putq
  rw [getD_set_self _ _ _ hlt]
  exact put_bit _ (s % 8) e2 e3 (by omega) e1 b hb

theorem tk_congr (xs ys : List Int) (t : Nat) : ∀ m, (∀ i, i < t + m → bitOf xs i = bitOf ys i) → tk xs t m = tk ys t m := by
  intro m
  induction m with
  | zero => intro _; rfl
  | succ m ih =>
    intro h
    rw [tk, tk, ih (fun i hi => h i (by omega)), h (t + m) (by omega)]

theorem bitOf_addL_lt {zs : List Int} {s : Nat} (h : G zs s) (U : Int) (n : Nat) (i : Nat) (hi : i < s) : ∀ m, bitOf (addL zs s U n m) i = bitOf zs i := by
  intro m
  induction m with
  | zero => rfl
  | succ m ih => rw [addL, bitOf_put_lt (h.addL U n m) _ (bit01 _ _) i (by omega), ih]

theorem tk_addL {zs : List Int} {s : Nat} (h : G zs s) (U : Int) (n : Nat) : ∀ m, m ≤ n → tk (addL zs s U n m) s m = U / 2 ^ (n - m) % 2 ^ m := by
  intro m
  induction m with
  | zero => intro _; simp [tk, Int.emod_one]
  | succ m ih =>
    intro hm
    have hG := h.addL U n m
    rw [addL, tk, bitOf_put_eq hG _ (bit01 _ _), tk_congr _ (addL zs s U n m) s m (fun i hi => bitOf_put_lt hG _ (bit01 _ _) i hi), ih (by omega)]
    have e : U / 2 ^ (n - m) = U / 2 ^ (n - 1 - m) / 2 := by
      rw [Int.ediv_ediv_of_nonneg (by have := two_pow_pos (n - 1 - m); omega), show n - m = (n - 1 - m) + 1 from by omega, Int.pow_succ]
    rw [e, split_mod, show n - (m + 1) = n - 1 - m from by omega]

theorem i64_and_mask (v : Int) (k : Nat) (hk : k ≤ 63) : bits .and .i64 v (2 ^ k - 1) = v % 2 ^ k := by
  have hp := two_pow_pos k
  have hq := p64 k (by omega)
  have hm : (BitVec.ofInt 64 ((2 : Int) ^ k - 1)).toNat = 2 ^ k - 1 := by
    rw [BitVec.toNat_ofInt, Int.emod_eq_of_lt (by omega) (by omega)]
    rw [pow_cast]; omega
  have key : (BitVec.ofInt 64 v &&& BitVec.ofInt 64 ((2 : Int) ^ k - 1)).toNat = (v % ((2 ^ 64 : Nat) : Int)).toNat % 2 ^ k := by
    rw [BitVec.toNat_and, BitVec.toNat_ofInt, hm, Nat.and_two_pow_sub_one_eq_mod]
  show IntKind.i64.wrap ((BitVec.ofInt 64 v &&& BitVec.ofInt 64 ((2 : Int) ^ k - 1)).toNat : Nat) = v % 2 ^ k
  rw [key, IntKind.wrap_i64]
  have hd : (2 : Int) ^ k ∣ 18446744073709551616 := by
    rw [show (18446744073709551616 : Int) = 2 ^ 64 from rfl, show 64 = k + (64 - k) from by omega, Int.pow_add]
    exact Int.dvd_mul_right _ _
  have e : (((v % ((2 ^ 64 : Nat) : Int)).toNat % 2 ^ k : Nat) : Int) = v % 2 ^ k := by
    rw [Int.natCast_emod, Int.toNat_of_nonneg (Int.emod_nonneg _ (by decide)), ← pow_cast k, show ((2 ^ 64 : Nat) : Int) = 18446744073709551616 from rfl, Int.emod_emod_of_dvd _ hd]
  have b0 := Int.emod_nonneg v (show (2 : Int) ^ k ≠ 0 by omega)
  have b1 := Int.emod_lt_of_pos v (show (0 : Int) < 2 ^ k by omega)
  rw [e]
  omega

/-- What is taken is what was put. -/
theorem took_all (v : Int) (h0 : -9223372036854775808 ≤ v) (h1 : v ≤ 9223372036854775807) : wrap64 (IntKind.u64.wrap v / 2 ^ (64 - 64) % 2 ^ 64) = v := by
  rw [IntKind.wrap_u64, show (2 : Int) ^ 64 = 18446744073709551616 from rfl, Nat.sub_self, Int.pow_zero, Int.ediv_one]
  unfold wrap64; omega
theorem took (v : Int) (k : Nat) (hk : k ≤ 63) : wrap64 (IntKind.u64.wrap v / 2 ^ (k - k) % 2 ^ k) = v % 2 ^ k := by
  rw [IntKind.wrap_u64, Nat.sub_self, Int.pow_zero, Int.ediv_one]
  have hd : (2 : Int) ^ k ∣ 18446744073709551616 := by
    rw [show (18446744073709551616 : Int) = 2 ^ 64 from rfl, show 64 = k + (64 - k) from by omega, Int.pow_add]
    exact Int.dvd_mul_right _ _
  rw [Int.emod_emod_of_dvd _ hd]
  have hp := two_pow_pos k
  have hq := p64 k (by omega)
  have b0 := Int.emod_nonneg v (show (2 : Int) ^ k ≠ 0 by omega)
  have b1 := Int.emod_lt_of_pos v (show (0 : Int) < 2 ^ k by omega)
  unfold wrap64
  omega
end Go.Proofs.YteblbcbfaomdmaaDoor.Bts
