/- What ZigZag and UnZigZag come to, in the program and in its model: one plain function each. -/
import Derived.Test.YtdcnnlnhopjjfaaRows
import Derived.WalkKit
import Derived.ProofKit
import Derived.Handy
import Derived.Test.YtdcnnlnhopjjfaaWord
namespace Go.Proofs.Ytdcnnlnhopjjfaa.Zig
open Go.RowKit Go.Proofs.Ytdcnnlnhopjjfaa.Word

theorem ret_int {k : IntKind} {a b : Int} (h : a = b) : Ending.returned (.int k a) = .returned (.int k b) := by rw [h]

theorem hid {p : Prop} (h : p) : Hid p := h

def zz (a : Int) : Int := if a < 0 then wrap64 (wrap64 (-2 * a) - 1) else wrap64 (2 * a)
def un (a : Int) : Int := if a % 2 = 1 then -(a % 18446744073709551616 / 2) - 1 else a % 18446744073709551616 / 2

theorem zz_neg (a : Int) (h : a < 0) : zz a = wrap64 (wrap64 (-2 * a) - 1) := by simp [zz, h]
theorem zz_pos (a : Int) (h : 0 ≤ a) : zz a = wrap64 (2 * a) := by simp [zz, Int.not_lt.mpr h]

theorem zz_xor (a : Int) (h1 : -9223372036854775808 ≤ a) (h2 : a ≤ 9223372036854775807) :
    bits .xor .i64 (wrap64 (a * 2)) (a / 9223372036854775808) = zz a := by
  have b1 : -9223372036854775808 ≤ wrap64 (a * 2) ∧ wrap64 (a * 2) ≤ 9223372036854775807 := by unfold wrap64; omega
  by_cases h : a < 0
  · rw [show a / 9223372036854775808 = -1 from by omega, xor_neg _ b1.1 b1.2, zz_neg a h]
    unfold wrap64; omega
  · rw [show a / 9223372036854775808 = 0 from by omega, xor_zero _ b1.1 b1.2, zz_pos a (by omega)]
    unfold wrap64; omega

theorem un_xor (a : Int) :
    bits .xor .i64 (wrap64 (IntKind.u64.wrap a / 2)) (wrap64 (-bits .and .i64 a 1)) = un a := by
  rw [and_one, IntKind.wrap_u64]
  have b1 : -9223372036854775808 ≤ wrap64 (a % 18446744073709551616 / 2) ∧ wrap64 (a % 18446744073709551616 / 2) ≤ 9223372036854775807 := by unfold wrap64; omega
  unfold un
  by_cases h : a % 2 = 1
  · rw [h, show wrap64 (-1) = -1 from by unfold wrap64; omega, xor_neg _ b1.1 b1.2, if_pos rfl]
    unfold wrap64; omega
  · rw [show a % 2 = 0 from by omega, show wrap64 (-0) = 0 from by unfold wrap64; omega, xor_zero _ b1.1 b1.2, if_neg (by omega)]
    unfold wrap64; omega

theorem un_odd (a : Int) (h : a % 2 = 1) : -(IntKind.u64.wrap a / 2) - 1 = un a := by
  rw [IntKind.wrap_u64]; unfold un; rw [if_pos h]
theorem un_even (a : Int) (h : ¬ a % 2 = 1) : IntKind.u64.wrap a / 2 = un a := by
  rw [IntKind.wrap_u64]; unfold un; rw [if_neg h]

theorem zz_wf (a : Int) : -9223372036854775808 ≤ zz a ∧ zz a ≤ 9223372036854775807 := by
  unfold zz; split <;> (unfold wrap64; omega)
theorem un_wf (a : Int) : -9223372036854775808 ≤ un a ∧ un a ≤ 9223372036854775807 := by
  unfold un; split <;> omega
theorem un_zz (a : Int) (h1 : -9223372036854775808 ≤ a) (h2 : a ≤ 9223372036854775807) : un (zz a) = a := by
  unfold un zz wrap64; split <;> split <;> omega
theorem zz_un (a : Int) (h1 : -9223372036854775808 ≤ a) (h2 : a ≤ 9223372036854775807) : zz (un a) = a := by
  unfold un zz wrap64; split <;> split <;> omega

theorem f24 (a : Int) (w : World) (h1 : -9223372036854775808 ≤ a) (h2 : a ≤ 9223372036854775807) :
    Calls Try.prog 24 #[.int .i64 a] w fun e w' => e = .returned (.int .i64 (zz a)) ∧ w' = w := by
  have HZ : Hid (bits .xor .i64 (wrap64 (a * 2)) (a / 9223372036854775808) = zz a) := zz_xor a h1 h2
  go_enter Try.func24, Try.ntmps24
  go_wp2
  go_ret
  exact ⟨ret_int HZ.out, rfl⟩

theorem f31 (a : Int) (w : World) :
    Calls Try.prog 31 #[.int .i64 a] w fun e w' => e = .returned (.int .i64 (zz a)) ∧ w' = w := by
  by_cases h : a < 0
  · have HZ : Hid (zz a = wrap64 (wrap64 (-2 * a) - 1)) := zz_neg a h
    go_enter Try.func31, Try.ntmps31
    go_wp2
    go_ret
    exact ⟨ret_int HZ.out.symm, rfl⟩
  · have HZ : Hid (zz a = wrap64 (2 * a)) := zz_pos a (by omega)
    go_enter Try.func31, Try.ntmps31
    go_wp2
    go_ret
    exact ⟨ret_int HZ.out.symm, rfl⟩

theorem f23 (a : Int) (w : World) :
    Calls Try.prog 23 #[.int .i64 a] w fun e w' => e = .returned (.int .i64 (un a)) ∧ w' = w := by
  have HZ : Hid (bits .xor .i64 (wrap64 (IntKind.u64.wrap a / 2)) (wrap64 (-bits .and .i64 a 1)) = un a) := un_xor a
  go_enter Try.func23, Try.ntmps23
  go_wp2
  go_ret
  exact ⟨ret_int HZ.out, rfl⟩

theorem u64_mod2 (a : Int) : IntKind.u64.wrap a % 2 = a % 2 := by rw [IntKind.wrap_u64]; omega

theorem u64_lo (a : Int) : 0 ≤ IntKind.u64.wrap a := by rw [IntKind.wrap_u64]; omega
theorem u64_hi (a : Int) : IntKind.u64.wrap a ≤ 18446744073709551615 := by rw [IntKind.wrap_u64]; omega

theorem f32 (a : Int) (w : World) :
    Calls Try.prog 32 #[.int .i64 a] w fun e w' => e = .returned (.int .i64 (un a)) ∧ w' = w := by
  have l0 := u64_lo a
  have l1 := u64_hi a
  by_cases h : a % 2 = 1
  · have HZ := hid (un_odd a h)
    have hb : (IntKind.u64.wrap a % 2 == 1) = true := by rw [u64_mod2]; simp [h]
    have H := hid h
    clear h
    go_enter Try.func32, Try.ntmps32
    go_wp2
    go_ret
    exact ⟨ret_int HZ.out, rfl⟩
  · have HZ := hid (un_even a h)
    have hb : (IntKind.u64.wrap a % 2 == 1) = false := by rw [u64_mod2]; simp [h]
    have H := hid h
    clear h
    go_enter Try.func32, Try.ntmps32
    go_wp2
    go_ret
    exact ⟨ret_int HZ.out, rfl⟩
end Go.Proofs.Ytdcnnlnhopjjfaa.Zig
