/- What the program's reader of bits and its TakeBits come to. -/
import Derived.Test.YteblbcbfaomdmaaDoorTk
namespace Go.Proofs.YteblbcbfaomdmaaDoor.Bts
open Go.RowKit Go.Proofs.YteblbcbfaomdmaaDoor.Byt

theorem pow_cast (q : Nat) : ((2 : Int) ^ q) = ((2 ^ q : Nat) : Int) := by rw [Int.natCast_pow]; rfl
theorem pow_le64 (k : Nat) (h : k ≤ 64) : (2 : Int) ^ k ≤ 18446744073709551616 := by
  have h1 : (2 : Nat) ^ k ≤ 2 ^ 64 := Nat.pow_le_pow_right (by omega) h
  rw [pow_cast]; omega

/-- Bits behind others: 'or' is the sum. -/
theorem join_bits (X P : Int) (y q : Nat) (h0 : 0 ≤ X) (h1 : X < 2 ^ y) (h : y + q ≤ 64) (p0 : 0 ≤ P) (p1 : P < 2 ^ q) :
    bits .or .u64 (IntKind.u64.wrap (X * 2 ^ q)) (IntKind.u64.wrap P) = X * 2 ^ q + P := by
  have e0 : 0 ≤ X * 2 ^ q := Int.mul_nonneg h0 (by have := two_pow_pos q; omega)
  have e1 : (X + 1) * 2 ^ q ≤ 2 ^ y * 2 ^ q := Int.mul_le_mul_of_nonneg_right (by omega) (by have := two_pow_pos q; omega)
  rw [← Int.pow_add, Int.add_mul, Int.one_mul] at e1
  have e2 := pow_le64 (y + q) h
  have e3 := two_pow_pos q
  have w1 : IntKind.u64.wrap (X * 2 ^ q) = X * 2 ^ q := by rw [IntKind.wrap_u64]; omega
  have w2 : IntKind.u64.wrap P = P := by rw [IntKind.wrap_u64]; omega
  rw [w1, w2, u64_or _ _ e0 (by omega) p0 (by omega)]
  have hj : (X * 2 ^ q).toNat ||| P.toNat = (X * 2 ^ q).toNat + P.toNat := by
    refine nat_join q _ _ ?_ ?_
    · obtain ⟨x, rfl⟩ := Int.eq_ofNat_of_zero_le h0
      have : ((x : Int) * 2 ^ q).toNat = x * 2 ^ q := by rw [pow_cast, ← Int.natCast_mul, Int.toNat_natCast]
      rw [this, Nat.mul_mod_left]
    · rw [pow_cast] at p1; omega
  rw [hj]; omega

theorem ediv_byte (z : Int) (e : Nat) (z0 : 0 ≤ z) (z1 : z ≤ 255) : 0 ≤ z / 2 ^ e ∧ z / 2 ^ e ≤ 255 := by
  have hp := two_pow_pos e
  generalize (2 : Int) ^ e = p at *
  exact ⟨Int.ediv_nonneg z0 (by omega), Int.le_trans (Int.ediv_le_self _ z0) z1⟩

theorem take_step (zs : List Int) (t y T q : Nat) (z : Int) (hT : T = t + y) (hz : z = zs.getD (T / 8) 0) (z0 : 0 ≤ z) (z1 : z ≤ 255) (hq : q ≤ 8 - T % 8) (h : y + q ≤ 64) :
    bits .or .u64 (IntKind.u64.wrap (tk zs t y * 2 ^ q)) (IntKind.u64.wrap (bits .and .u8 (z / 2 ^ (8 - T % 8 - q)) (2 ^ q - 1))) = tk zs t (y + q) := by
  have hd := ediv_byte z (8 - T % 8 - q) z0 z1
  rw [and_mask _ q hd.1 hd.2 (by omega)]
  have hb := tk_byte zs T q (by omega)
  rw [← hz] at hb
  rw [← hb, join_bits _ _ y q (tk_lo _ _ _) (tk_hi _ _ _) h (tk_lo _ _ _) (tk_hi _ _ _), tk_add, hT]
theorem take_step' (zs : List Int) (t y T : Nat) (z : Int) (hT : T = t + y) (hz : z = zs.getD (T / 8) 0) (z0 : 0 ≤ z) (z1 : z ≤ 255) (h : y + (8 - T % 8) ≤ 64) :
    bits .or .u64 (IntKind.u64.wrap (tk zs t y * 2 ^ (8 - T % 8))) (IntKind.u64.wrap (bits .and .u8 z (2 ^ (8 - T % 8) - 1))) = tk zs t (y + (8 - T % 8)) := by
  have := take_step zs t y T (8 - T % 8) z hT hz z0 z1 (Nat.le_refl _) h
  rwa [Nat.sub_self, Int.pow_zero, Int.ediv_one] at this

set_option maxHeartbeats 2000000 in
theorem f79 (a : Option Addr) (n c t m R : Nat) (zs : List Int) (w0 w : World) (hn : zs.length = n) (hb : n ≤ 1048576) (hR : R = w0.heap.size) (hr : Has w0 a zs) (h255 : ∀ j, 0 ≤ zs.getD j 0 ∧ zs.getD j 0 ≤ 255)
    (hbw : Below R w0 w) (hm : m ≤ 64) (htm : t + m ≤ 8 * n) (hc0 : w.cell? ⟨R, 0, none⟩ = some (.slice a n c)) (hc1 : w.cell? ⟨R, 1, none⟩ = some (.int .i64 t)) (hf1 : w.frozen? ⟨R, 1, none⟩ = false) :
    Calls Tryd.prog 79 #[.pointer (some ⟨R, 0, none⟩), .int .i64 m] w fun e w' => e = .returned (.int .u64 (tk zs t m)) ∧ Below R w0 w' := by
  have HN := hid hn
  have HF := hid h255
  have HR := hid hR
  clear hn h255 hR
  go_enter Tryd.func79, Tryd.ntmps79
  go_wp2
  go_loopw [1, 5] (fun sn sw wr => ∃ (y k : Nat), k + y = m ∧ sn = .int .i64 k ∧ sw = .int .u64 (tk zs t y) ∧ Below R w0 wr ∧ wr.cell? ⟨R, 0, none⟩ = some (.slice a n c) ∧ wr.cell? ⟨R, 1, none⟩ = some (.int .i64 ((t + y : Nat) : Int)) ∧ wr.frozen? ⟨R, 1, none⟩ = false)
    (fun sn _ _ => (intOf sn).toNat)
  case atStart => exact ⟨0, m, rfl, rfl, rfl, hbw, hc0, hc1, hf1⟩
  case round =>
    obtain ⟨y, k, hky, rfl, rfl, hbel, g0, g1, gf⟩ := hrel
    clear hc0 hc1 hf1
    by_cases hk : 0 < k
    · rcases hr with hr | ⟨b, off, rfl, hbl, hc⟩
      · exact absurd HN.out (by rw [hr]; simp; omega)
      obtain ⟨T, hT⟩ : ∃ T, T = t + y := ⟨_, rfl⟩
      rw [← hT] at g1
      have hTn : T / 8 < n := by omega
      have hcx := (hbel.cell (p := ⟨b, off + T / 8, none⟩) (by show b < R; rw [HR.out]; exact hbl)).trans (hc (T / 8) (by rw [HN.out]; exact hTn))
      obtain ⟨z0, z1⟩ := HF.out (T / 8)
      obtain ⟨z, hz⟩ : ∃ z, z = zs.getD (T / 8) 0 := ⟨_, rfl⟩
      rw [← hz] at hcx z0 z1
      have HZ := hid hz
      have HT := hid hT
      have HK := hid hky
      clear hz hT hc hky
      have hTb : T ≤ 8388672 := by have := HT.out; have := HK.out; omega
      have x0 := tk_lo zs t y
      have x1 : tk zs t y ≤ 18446744073709551615 := by have := tk_hi zs t y; have := p64 y (by have := HK.out; omega); omega
      generalize hX : tk zs t y = X at *
      have HX := hid hX
      clear hX
      have hk64 : k ≤ 64 := by have := HK.out; omega
      by_cases hmin : k ≤ 8 - T % 8
      · have HS := hid (take_step zs t y T k z HT.out HZ.out z0 z1 hmin (by have := HK.out; omega))
        rw [HX.out] at HS
        go_wp2
        go_quiet ((go_at_call 47; exact Calls.quiet_of_same (f47i _ _ (by omega) (by omega))))
        go_wp2
        go_roundw
        case rel => exact ⟨y + k, 0, by have := HK.out; omega, rfl, by rw [HS.out], (below_drewN hbel nq).setCell (Nat.le_refl _) _, by go_cell, by rw [show t + (y + k) = T + k from by have := HT.out; omega]; go_cell, by simpa using gf⟩
        case measure => simp [intOf]; omega
      · have HS := hid (take_step' zs t y T z HT.out HZ.out z0 z1 (by have := HK.out; omega))
        rw [HX.out] at HS
        go_wp2
        go_quiet ((go_at_call 47; exact Calls.quiet_of_same (f47i _ _ (by omega) (by omega))))
        go_wp2
        go_roundw
        case rel => exact ⟨y + (8 - T % 8), k - (8 - T % 8), by have := HK.out; omega, by go_num, by rw [HS.out], (below_drewN hbel nq).setCell (Nat.le_refl _) _, by go_cell, by rw [show ((t + (y + (8 - T % 8)) : Nat) : Int) = (T : Int) + (8 - (T : Int) % 8) from by have := HT.out; omega]; go_cell, by simpa using gf⟩
        case measure => simp [intOf]; omega
    · go_wp2
      go_ret
      have e1 : k = 0 := by omega
      subst e1
      rw [Nat.zero_add] at hky
      subst hky
      exact ⟨rfl, hbel⟩
end Go.Proofs.YteblbcbfaomdmaaDoor.Bts
