/- Bits added one by one, and some at once: plain lists of bytes. -/
import Derived.Test.YteblbcbfaomdmaaDoorTake
namespace Go.Proofs.YteblbcbfaomdmaaDoor.Bts
open Go.RowKit

/-- The bytes with room for one bit more. -/
def ext (zs : List Int) (s : Nat) : List Int := if s % 8 = 0 then zs ++ [0] else zs
/-- q bits, which are the number P, put behind s bits (they lie within one byte). -/
def putq (zs : List Int) (s q : Nat) (P : Int) : List Int := (ext zs s).set (s / 8) ((ext zs s).getD (s / 8) 0 + P * 2 ^ (8 - s % 8 - q))
def addL (zs : List Int) (s : Nat) (U : Int) (n : Nat) : Nat → List Int
  | 0 => zs
  | i + 1 => putq (addL zs s U n i) (s + i) 1 (U / 2 ^ (n - 1 - i) % 2)

/-- Bytes that hold s bits and are 0 behind them. -/
structure G (zs : List Int) (s : Nat) : Prop where
  len : zs.length = (s + 7) / 8
  byte : ∀ z ∈ zs, 0 ≤ z ∧ z ≤ 255
  low : s % 8 ≠ 0 → zs.getD (s / 8) 0 % 2 ^ (8 - s % 8) = 0

theorem G.ext_len {zs : List Int} {s : Nat} (h : G zs s) : (ext zs s).length = s / 8 + 1 := by
  have := h.len
  unfold ext; split
  · simp; omega
  · omega
theorem G.ext_byte {zs : List Int} {s : Nat} (h : G zs s) : ∀ z ∈ ext zs s, 0 ≤ z ∧ z ≤ 255 := by
  unfold ext; split
  · intro z hz
    rcases List.mem_append.1 hz with hz | hz
    · exact h.byte z hz
    · simp at hz; omega
  · exact h.byte
theorem G.ext_low {zs : List Int} {s : Nat} (h : G zs s) : (ext zs s).getD (s / 8) 0 % 2 ^ (8 - s % 8) = 0 ∧ 0 ≤ (ext zs s).getD (s / 8) 0 ∧ (ext zs s).getD (s / 8) 0 ≤ 255 := by
  have hl := h.ext_len
  have hb := h.ext_byte
  have hlt : s / 8 < (ext zs s).length := by omega
  have e : (ext zs s).getD (s / 8) 0 = (ext zs s)[s / 8] := by simp [hlt]
  refine ⟨?_, by rw [e]; exact hb _ (List.getElem_mem hlt)⟩
  by_cases h8 : s % 8 = 0
  · have hz : (ext zs s).getD (s / 8) 0 = 0 := by
      have hl2 : zs.length = s / 8 := by have := h.len; omega
      unfold ext; rw [if_pos h8]
      simp [← hl2]
    rw [hz]; simp
  · unfold ext; rw [if_neg h8]; exact h.low h8

theorem one_bit8 : ∀ (z : Fin 256) (r : Fin 8), z.val % 2 ^ (8 - r.val) = 0 → z.val + 2 ^ (7 - r.val) < 256 ∧ (z.val + 2 ^ (7 - r.val)) % 2 ^ (7 - r.val) = 0 ∧ z.val % 2 ^ (7 - r.val) = 0 ∧ z.val ||| 2 ^ (7 - r.val) = z.val + 2 ^ (7 - r.val) := by decide +kernel

theorem cast_mod (a b : Nat) : ((a : Int) % 2 ^ b) = ((a % 2 ^ b : Nat) : Int) := by rw [Int.natCast_emod, Int.natCast_pow]; rfl

theorem one_bit (z : Int) (r : Nat) (h0 : 0 ≤ z) (h1 : z ≤ 255) (hr : r < 8) (h : z % 2 ^ (8 - r) = 0) :
    z + 2 ^ (7 - r) ≤ 255 ∧ (z + 2 ^ (7 - r)) % 2 ^ (7 - r) = 0 ∧ z % 2 ^ (7 - r) = 0 ∧ bits .or .u8 z (2 ^ (7 - r)) = z + 2 ^ (7 - r) := by
  obtain ⟨y, rfl⟩ := nat_of_byte z h0 h1
  rw [cast_mod] at h
  obtain ⟨q1, q2, q3, q4⟩ := one_bit8 y ⟨r, hr⟩ (by simp only; omega)
  simp only at q1 q2 q3 q4
  have e : ((y.val : Int) + 2 ^ (7 - r)) = ((y.val + 2 ^ (7 - r) : Nat) : Int) := by rw [Int.natCast_add, pow_cast]
  rw [e, cast_mod, cast_mod, q2, q3, pow_cast, u8_or_nat _ _ y.isLt (by omega), q4]
  refine ⟨by omega, rfl, rfl, rfl⟩

theorem G.put1 {zs : List Int} {s : Nat} (h : G zs s) (b : Int) (hb : b = 0 ∨ b = 1) : G (putq zs s 1 b) (s + 1) := by
  have hl := h.ext_len
  obtain ⟨e1, e2, e3⟩ := h.ext_low
  have hlt : s / 8 < (ext zs s).length := by omega
  obtain ⟨q1, q2, q3, _⟩ := one_bit _ (s % 8) e2 e3 (by omega) e1
  have hv : (ext zs s).getD (s / 8) 0 + b * 2 ^ (8 - s % 8 - 1) ≤ 255 ∧ 0 ≤ (ext zs s).getD (s / 8) 0 + b * 2 ^ (8 - s % 8 - 1) ∧ ((ext zs s).getD (s / 8) 0 + b * 2 ^ (8 - s % 8 - 1)) % 2 ^ (7 - s % 8) = 0 := by
    have := two_pow_pos (7 - s % 8)
    rw [show 8 - s % 8 - 1 = 7 - s % 8 from by omega]
    rcases hb with rfl | rfl
    · rw [Int.zero_mul, Int.add_zero]; exact ⟨e3, e2, q3⟩
    · rw [Int.one_mul]; exact ⟨q1, by omega, q2⟩
  unfold putq
  refine ⟨by rw [List.length_set]; omega, ?_, ?_⟩
  · intro z hz
    rcases List.mem_or_eq_of_mem_set hz with hz | rfl
    · exact h.ext_byte z hz
    · exact ⟨hv.2.1, hv.1⟩
  · intro h8
    rw [show (s + 1) / 8 = s / 8 from by omega, show 8 - (s + 1) % 8 = 7 - s % 8 from by omega]
    have : ((ext zs s).set (s / 8) ((ext zs s).getD (s / 8) 0 + b * 2 ^ (8 - s % 8 - 1))).getD (s / 8) 0 = (ext zs s).getD (s / 8) 0 + b * 2 ^ (8 - s % 8 - 1) := by
      simp [hlt]
    rw [this]; exact hv.2.2

theorem bit01 (U : Int) (e : Nat) : U / 2 ^ e % 2 = 0 ∨ U / 2 ^ e % 2 = 1 := by omega
theorem G.addL {zs : List Int} {s : Nat} (h : G zs s) (U : Int) (n : Nat) : ∀ i, G (addL zs s U n i) (s + i) := by
  intro i
  induction i with
  | zero => exact h
  | succ i ih => exact ih.put1 _ (bit01 _ _)

theorem put_put (zs : List Int) (t q : Nat) (P b : Int) (h : G zs t) (hq : 1 ≤ q) (hr : t % 8 + q + 1 ≤ 8) : putq (putq zs t q P) (t + q) 1 b = putq zs t (q + 1) (2 * P + b) := by
  have hl := h.ext_len
  have hlt : t / 8 < (ext zs t).length := by omega
  have e0 : ext (putq zs t q P) (t + q) = putq zs t q P := by unfold ext; rw [if_neg (by omega)]
  unfold putq at e0 ⊢
  rw [e0, show (t + q) / 8 = t / 8 from by omega, List.set_set]
  congr 1
  have e1 : ((ext zs t).set (t / 8) ((ext zs t).getD (t / 8) 0 + P * 2 ^ (8 - t % 8 - q))).getD (t / 8) 0 = (ext zs t).getD (t / 8) 0 + P * 2 ^ (8 - t % 8 - q) := by simp [hlt]
  rw [e1, show 8 - (t + q) % 8 - 1 = 8 - t % 8 - (q + 1) from by omega, show 8 - t % 8 - q = (8 - t % 8 - (q + 1)) + 1 from by omega, two_pow_succ, Int.add_assoc]
  congr 1
  rw [Int.add_mul, ← Int.mul_assoc, Int.mul_comm P 2]

/-- Some bits at once. -/
theorem add_chunk (zs : List Int) (s : Nat) (U : Int) (n : Nat) (h : G zs s) (i : Nat) : ∀ q, (s + i) % 8 + (q + 1) ≤ 8 → i + (q + 1) ≤ n →
    addL zs s U n (i + (q + 1)) = putq (addL zs s U n i) (s + i) (q + 1) (U / 2 ^ (n - i - (q + 1)) % 2 ^ (q + 1)) := by
  intro q
  induction q with
  | zero =>
    intro h1 h2
    rw [Nat.zero_add, addL, show n - 1 - i = n - i - 1 from by omega]; rfl
  | succ q ih =>
    intro h1 h2
    have e := ih (by omega) (by omega)
    rw [show i + (q + 1 + 1) = (i + (q + 1)) + 1 from by omega, addL, e, show s + (i + (q + 1)) = (s + i) + (q + 1) from by omega]
    rw [put_put _ _ _ _ _ (h.addL U n i) (by omega) (by omega)]
    congr 1
    have e2 : n - i - (q + 1) = (n - 1 - (i + (q + 1))) + 1 := by omega
    rw [e2, show n - i - (q + 1 + 1) = n - 1 - (i + (q + 1)) from by omega]
    generalize n - 1 - (i + (q + 1)) = j
    rw [Int.pow_succ, ← Int.ediv_ediv_of_nonneg (by have := two_pow_pos j; omega), split_mod]

/-- The program's or of a piece is a sum. -/
theorem or_piece (L P : Int) (r q : Nat) (h0 : 0 ≤ L) (h1 : L ≤ 255) (hl : L % 2 ^ (8 - r) = 0) (hr : r < 8) (hq : r + q ≤ 8) (p0 : 0 ≤ P) (p1 : P < 2 ^ q) :
    IntKind.u8.wrap (P * 2 ^ (8 - r - q)) = P * 2 ^ (8 - r - q) ∧ bits .or .u8 L (P * 2 ^ (8 - r - q)) = L + P * 2 ^ (8 - r - q) := by
  have e0 : 0 ≤ P * 2 ^ (8 - r - q) := Int.mul_nonneg p0 (by have := two_pow_pos (8 - r - q); omega)
  have e1 : (P + 1) * 2 ^ (8 - r - q) ≤ 2 ^ q * 2 ^ (8 - r - q) := Int.mul_le_mul_of_nonneg_right (by omega) (by have := two_pow_pos (8 - r - q); omega)
  rw [← Int.pow_add, show q + (8 - r - q) = 8 - r from by omega, Int.add_mul, Int.one_mul] at e1
  have e2 := two_pow_pos (8 - r - q)
  have e3 : (2 : Int) ^ (8 - r) ≤ 256 := by
    have h : (2 : Nat) ^ (8 - r) ≤ 2 ^ 8 := Nat.pow_le_pow_right (by omega) (by omega)
    rw [pow_cast]; omega
  have w1 : IntKind.u8.wrap (P * 2 ^ (8 - r - q)) = P * 2 ^ (8 - r - q) := by rw [IntKind.wrap_u8]; omega
  refine ⟨w1, ?_⟩
  rw [u8_or _ _ h0 (by omega) e0 (by omega)]
  have hj : L.toNat ||| (P * 2 ^ (8 - r - q)).toNat = L.toNat + (P * 2 ^ (8 - r - q)).toNat := by
    refine nat_join (8 - r) _ _ ?_ ?_
    · obtain ⟨x, rfl⟩ := Int.eq_ofNat_of_zero_le h0
      rw [cast_mod] at hl
      rw [Int.toNat_natCast]; omega
    · rw [pow_cast (8 - r)] at e1; omega
  rw [hj]; omega
end Go.Proofs.YteblbcbfaomdmaaDoor.Bts
