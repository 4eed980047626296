/- Plain facts on the pieces of seven bits: a piece more is a sum, and it is what 'or' gives. -/
import Derived.Test.YteblbcbfaomdmaaDoorVar
namespace Go.Proofs.YteblbcbfaomdmaaDoor.Var
open Go.RowKit

theorem p_pos (k : Nat) : (1 : Int) ≤ 2 ^ (7 * k) := by
  have h : (0 : Int) < 2 ^ (7 * k) := Int.pow_pos (by decide)
  omega
theorem p_le (k j : Nat) (h : k ≤ j) : (2 : Int) ^ (7 * k) ≤ 2 ^ (7 * j) := by
  have h1 : (2 : Nat) ^ (7 * k) ≤ 2 ^ (7 * j) := Nat.pow_le_pow_right (by omega) (by omega)
  exact_mod_cast h1
theorem p8 (k : Nat) (h : k ≤ 8) : (2 : Int) ^ (7 * k) ≤ 72057594037927936 := p_le k 8 h
theorem p9 : (2 : Int) ^ (7 * 9) = 9223372036854775808 := by decide
theorem p_succ (k : Nat) : (2 : Int) ^ (7 * (k + 1)) = 2 ^ (7 * k) * 128 := by
  rw [Nat.mul_add, Int.pow_add]; rfl

theorem piece_lo (k : Nat) (z : Int) : 0 ≤ z % 128 * 2 ^ (7 * k) := Int.mul_nonneg (by omega) (by have := p_pos k; omega)
theorem piece_hi (k : Nat) (z : Int) : z % 128 * 2 ^ (7 * k) ≤ 127 * 2 ^ (7 * k) := Int.mul_le_mul_of_nonneg_right (by omega) (by have := p_pos k; omega)

theorem more_sum (k : Nat) (x z : Int) (hx0 : 0 ≤ x) (hx1 : x < 2 ^ (7 * k)) (hz : 0 ≤ z) (h : k ≤ 8 ∨ k = 9 ∧ z ≤ 1) :
    more k x z = x + z % 128 * 2 ^ (7 * k) ∧ IntKind.u64.wrap (z % 128 * 2 ^ (7 * k)) = z % 128 * 2 ^ (7 * k) ∧ x + z % 128 * 2 ^ (7 * k) ≤ 18446744073709551615 := by
  have a1 := piece_lo k z
  have a2 := piece_hi k z
  have h3 : x + z % 128 * 2 ^ (7 * k) ≤ 18446744073709551615 := by
    rcases h with h | ⟨rfl, h⟩
    · have := p8 k h; omega
    · rw [p9] at *; omega
  have h2 : IntKind.u64.wrap (z % 128 * 2 ^ (7 * k)) = z % 128 * 2 ^ (7 * k) := by rw [IntKind.wrap_u64]; omega
  refine ⟨?_, h2, h3⟩
  unfold more
  rw [h2, IntKind.wrap_u64]
  omega

theorem more_lt (k : Nat) (x z : Int) (hx0 : 0 ≤ x) (hx1 : x < 2 ^ (7 * k)) (hz : 0 ≤ z) (h : k ≤ 8) : more k x z < 2 ^ (7 * (k + 1)) := by
  rw [(more_sum k x z hx0 hx1 hz (.inl h)).1, p_succ]
  have := piece_hi k z
  omega

theorem or_more (k : Nat) (x z : Int) (hx0 : 0 ≤ x) (hx1 : x < 2 ^ (7 * k)) (hz : 0 ≤ z) (h : k ≤ 8 ∨ k = 9 ∧ z ≤ 1) :
    bits .or .u64 x (IntKind.u64.wrap (z % 128 * 2 ^ (7 * k))) = more k x z := by
  obtain ⟨h1, h2, h3⟩ := more_sum k x z hx0 hx1 hz h
  have a1 := piece_lo k z
  rw [h1, h2]
  generalize hy : z % 128 * 2 ^ (7 * k) = y at *
  rw [u64_or x y hx0 (by omega) a1 (by omega), Nat.or_comm, nat_join (7 * k) y.toNat x.toNat ?_ ?_]
  · omega
  · have : y = ((z % 128).toNat * 2 ^ (7 * k) : Nat) := by
      rw [← hy, Int.natCast_mul, Int.natCast_pow]
      have : (((z % 128).toNat : Nat) : Int) = z % 128 := by omega
      rw [this]; rfl
    rw [this, Int.toNat_natCast, Nat.mul_mod_left]
  · have h5 : ((2 ^ (7 * k) : Nat) : Int) = 2 ^ (7 * k) := by rw [Int.natCast_pow]; rfl
    omega

theorem and_127 (z : Int) (h0 : 0 ≤ z) (h1 : z ≤ 255) : bits .and .u8 z 127 = z % 128 := by
  rw [u8_and z 127 h0 (by omega) (by omega) (by omega)]
  rw [show (127 : Int).toNat = 127 from rfl, nat_mask7]
  omega
end Go.Proofs.YteblbcbfaomdmaaDoor.Var
