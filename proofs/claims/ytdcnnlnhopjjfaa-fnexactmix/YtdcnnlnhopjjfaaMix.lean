/- What Mix comes to, in the program and in its model: one fold over the bytes. -/
import Derived.Test.YtdcnnlnhopjjfaaByt
import Derived.Laws.BitsAllLaws
namespace Go.Proofs.Ytdcnnlnhopjjfaa.Mix
open Go.RowKit Go.Proofs.Ytdcnnlnhopjjfaa.Byt

theorem ret_int {k : IntKind} {a b : Int} (h : a = b) : Ending.returned (.int k a) = .returned (.int k b) := by rw [h]
def step (x z : Int) : Int :=
  bits .xor .u64 (IntKind.u64.wrap (bits .xor .u64 x (IntKind.u64.wrap z) * 1099511628211)) (IntKind.u64.wrap (bits .xor .u64 x (IntKind.u64.wrap z) * 1099511628211) / 536870912)
def upto (zs : List Int) (k : Nat) : Int := (zs.take k).foldl step 1469598103
def mix (zs : List Int) : Int := upto zs zs.length / 2

theorem bits_lo (op : BinOp) (x y : Int) : 0 ≤ bits op .u64 x y := by unfold bits; rw [IntKind.wrap_u64]; omega
theorem bits_hi (op : BinOp) (x y : Int) : bits op .u64 x y ≤ 18446744073709551615 := by unfold bits; rw [IntKind.wrap_u64]; omega

theorem upto_succ (zs : List Int) (k : Nat) (h : k < zs.length) : upto zs (k + 1) = step (upto zs k) (zs[k]?.getD 0) := by
  unfold upto; rw [List.take_succ_eq_append_getElem h, List.foldl_append]; simp [h]
theorem upto_bd (zs : List Int) (k : Nat) (hk : k ≤ zs.length) : 0 ≤ upto zs k ∧ upto zs k ≤ 18446744073709551615 := by
  cases k with
  | zero => simp [upto]
  | succ k => rw [upto_succ zs k hk]; exact ⟨bits_lo _ _ _, bits_hi _ _ _⟩

theorem f39 (a : Option Addr) (n c : Nat) (zs : List Int) (w : World) (hn : zs.length = n) (hb : n ≤ 140737488351232) (hr : Has w a zs) :
    Calls Try.prog 39 #[.slice a n c] w fun e w' => e = .returned (.int .i64 (mix zs)) ∧ w' = w := by
  have HN : Hid (zs.length = n) := hn
  clear hn
  go_enter Try.func39, Try.ntmps39
  go_wp2
  go_loop [3, 8] (fun h i => ∃ (k : Nat) (x : Int), k ≤ n ∧ i = .int .i64 k ∧ h = .int .u64 x ∧ 0 ≤ x ∧ x ≤ 18446744073709551615 ∧ Hid (x = upto zs k))
    (fun _ i => n - (intOf i).toNat)
  case atStart => exact ⟨0, 1469598103, Nat.zero_le _, rfl, rfl, by decide, by decide, rfl⟩
  case round =>
    obtain ⟨k, x, hk, rfl, rfl, hx0, hx1, HX⟩ := hrel
    by_cases hlt : k < n
    · rcases hr with hr | ⟨b, off, rfl, hbl, hc⟩
      · exact absurd HN.out (by rw [hr]; simp; omega)
      · have hcx := hc k (by rw [HN.out]; exact hlt)
        clear hc
        go_wp2
        go_round
        case rel => exact ⟨k + 1, _, by omega, by go_num, rfl, bits_lo _ _ _, bits_hi _ _ _, by rw [upto_succ zs k (by rw [HN.out]; exact hlt), ← HX.out]; rfl⟩
        case measure => simp [intOf]; omega
    · go_wp2
      go_ret
      refine ⟨ret_int ?_, rfl⟩
      have : k = n := by omega
      subst this
      unfold mix
      rw [HN.out, ← HX.out]

theorem f40 (a : Option Addr) (n c : Nat) (zs : List Int) (w : World) (hn : zs.length = n) (hb : n ≤ 140737488351232) (hr : Has w a zs) :
    Calls Try.prog 40 #[.slice a n c] w fun e w' => e = .returned (.int .i64 (mix zs)) ∧ w' = w := by
  have HN : Hid (zs.length = n) := hn
  clear hn
  go_enter Try.func40, Try.ntmps40
  go_wp2
  go_loop [3, 8] (fun h i => ∃ (k : Nat) (x : Int), k ≤ n ∧ i = .int .i64 k ∧ h = .int .u64 x ∧ 0 ≤ x ∧ x ≤ 18446744073709551615 ∧ Hid (x = upto zs k))
    (fun _ i => n - (intOf i).toNat)
  case atStart => exact ⟨0, 1469598103, Nat.zero_le _, rfl, rfl, by decide, by decide, rfl⟩
  case round =>
    obtain ⟨k, x, hk, rfl, rfl, hx0, hx1, HX⟩ := hrel
    by_cases hlt : k < n
    · rcases hr with hr | ⟨b, off, rfl, hbl, hc⟩
      · exact absurd HN.out (by rw [hr]; simp; omega)
      · have hcx := hc k (by rw [HN.out]; exact hlt)
        clear hc
        go_wp2
        go_round
        case rel => exact ⟨k + 1, _, by omega, by go_num, rfl, bits_lo _ _ _, bits_hi _ _ _, by rw [upto_succ zs k (by rw [HN.out]; exact hlt), ← HX.out]; rfl⟩
        case measure => simp [intOf]; omega
    · go_wp2
      go_ret
      refine ⟨ret_int ?_, rfl⟩
      have : k = n := by omega
      subst this
      unfold mix
      rw [HN.out, ← HX.out]
end Go.Proofs.Ytdcnnlnhopjjfaa.Mix
