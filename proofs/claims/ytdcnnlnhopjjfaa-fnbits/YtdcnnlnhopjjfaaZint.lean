/- zByte and zInt of bytes: a byte, an int. -/
import Derived.Test.YtdcnnlnhopjjfaaByt
import Derived.Laws.BitsAllLaws
namespace Go.Proofs.Ytdcnnlnhopjjfaa.Zint
open Go.RowKit Go.Proofs.Ytdcnnlnhopjjfaa.Byt
theorem hid {p : Prop} (h : p) : Hid p := h

theorem f20 (a : Option Addr) (n c : Nat) (i : Int) (zs : List Int) (w : World) (hn : zs.length = n) (hi0 : 0 ≤ i) (hr : Has w a zs) (h255 : ∀ j, 0 ≤ zs.getD j 0 ∧ zs.getD j 0 ≤ 255) :
    Calls Try.prog 20 #[.slice a n c, .int .i64 i] w fun e w' => ∃ x : Int, e = .returned (.int .i64 x) ∧ 0 ≤ x ∧ x ≤ 255 ∧ w' = w := by
  obtain ⟨t, rfl⟩ := Int.eq_ofNat_of_zero_le hi0
  by_cases ht : t < n
  · rcases hr with hr | ⟨b, off, rfl, hbl, hc⟩
    · exact absurd hn (by rw [hr]; simp; omega)
    · have hcx := hc t (by omega)
      obtain ⟨z0, z1⟩ := h255 t
      obtain ⟨z, hz⟩ : ∃ z, z = zs.getD t 0 := ⟨_, rfl⟩
      rw [← hz] at hcx z0 z1
      clear hz hn h255 hc
      go_enter Try.func20, Try.ntmps20
      go_wp2
      go_ret
      exact ⟨z, rfl, z0, z1, rfl⟩
  · clear hn h255
    go_enter Try.func20, Try.ntmps20
    go_wp2
    go_ret
    exact ⟨0, rfl, by omega, by omega, rfl⟩

theorem bits_lo (op : BinOp) (x y : Int) : -9223372036854775808 ≤ bits op .i64 x y := by unfold bits; rw [IntKind.wrap_i64]; omega
theorem bits_hi (op : BinOp) (x y : Int) : bits op .i64 x y ≤ 9223372036854775807 := by unfold bits; rw [IntKind.wrap_i64]; omega

theorem f19 (a : Option Addr) (n c : Nat) (zs : List Int) (w : World) (hn : zs.length = n) (hr : Has w a zs) (h255 : ∀ j, 0 ≤ zs.getD j 0 ∧ zs.getD j 0 ≤ 255) :
    Calls Try.prog 19 #[.slice a n c, .int .i64 1] w fun e w' => ∃ x : Int, e = .returned (.int .i64 x) ∧ -9223372036854775808 ≤ x ∧ x ≤ 9223372036854775807 ∧ w' = w := by
  have HN := hid hn
  have HF := hid h255
  clear hn h255
  go_enter Try.func19, Try.ntmps19
  go_wp2_with fail
  go_loop [5, 6] (fun s i => ∃ (k : Nat) (x : Int), k ≤ 8 ∧ i = .int .i64 k ∧ s = .int .i64 x ∧ -9223372036854775808 ≤ x ∧ x ≤ 9223372036854775807) (fun _ i => 8 - (intOf i).toNat)
  case atStart => exact ⟨0, 0, by omega, rfl, rfl, by omega, by omega⟩
  case round =>
    obtain ⟨k, x, hk, rfl, rfl, hx0, hx1⟩ := hrel
    by_cases hlt : k < 8
    · go_wp2_with (go_at_call 20; refine (f20 _ _ _ _ zs _ HN.out (by omega) hr HF.out).mono ?_; rintro e w' ⟨z, rfl, hz0, hz1, rfl⟩)
      go_round
      case rel => exact ⟨k + 1, _, by omega, by go_num, rfl, bits_lo _ _ _, bits_hi _ _ _⟩
      case measure => simp [intOf]; omega
    · go_wp2
      go_ret
      exact ⟨x, rfl, hx0, hx1, rfl⟩
end Go.Proofs.Ytdcnnlnhopjjfaa.Zint
