/- Plain facts on words: what xor with nought, with minus one, and a mask by one come to. -/
import Derived.WalkKit
import Derived.Laws.BitsAllLaws
namespace Go.Proofs.YteblbcbfaomdmaaDoor.Word
open Go.RowKit

theorem ofInt_toNat (x : Int) : ((BitVec.ofInt 64 x).toNat : Int) = x % 18446744073709551616 := by
  rw [BitVec.toNat_ofInt]
  have : (0 : Int) ≤ x % 18446744073709551616 := by omega
  simp only [Nat.reducePow]
  omega

theorem xor_zero (x : Int) (h1 : -9223372036854775808 ≤ x) (h2 : x ≤ 9223372036854775807) : bits .xor .i64 x 0 = x := by
  show IntKind.i64.wrap ((BitVec.ofInt 64 x ^^^ BitVec.ofInt 64 0).toNat : Int) = _
  have h0 : BitVec.ofInt 64 0 = 0#64 := by decide
  rw [h0, BitVec.xor_zero, ofInt_toNat, IntKind.wrap_i64]
  omega

theorem xor_neg (x : Int) (h1 : -9223372036854775808 ≤ x) (h2 : x ≤ 9223372036854775807) : bits .xor .i64 x (-1) = -1 - x := by
  show IntKind.i64.wrap ((BitVec.ofInt 64 x ^^^ BitVec.ofInt 64 (-1)).toNat : Int) = _
  have h0 : BitVec.ofInt 64 (-1) = BitVec.allOnes 64 := by decide
  rw [h0, BitVec.xor_allOnes, BitVec.toNat_not]
  have hx := ofInt_toNat x
  have hl := (BitVec.ofInt 64 x).isLt
  rw [IntKind.wrap_i64]
  omega

theorem and_one (x : Int) : bits .and .i64 x 1 = x % 2 := by
  show IntKind.i64.wrap ((BitVec.ofInt 64 x &&& BitVec.ofInt 64 1).toNat : Int) = _
  have h0 : BitVec.ofInt 64 1 = 1#64 := by decide
  have hx := ofInt_toNat x
  rw [h0, BitVec.toNat_and]
  have h1 : (1#64).toNat = 1 := by decide
  rw [h1, nat_mask1, IntKind.wrap_i64]
  omega
end Go.Proofs.YteblbcbfaomdmaaDoor.Word
