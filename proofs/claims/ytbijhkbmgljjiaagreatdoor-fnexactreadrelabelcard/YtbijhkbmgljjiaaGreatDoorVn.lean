/- The model's l2Num at any number: some text. -/
import Derived.Test.YtbijhkbmgljjiaaGreatDoorNu
namespace Go.Proofs.YtbijhkbmgljjiaaGreatDoor.Fil
open Go.RowKit

theorem pow_room {a k : Nat} (h : a * 10 ^ k ≤ 9223372036854775808) (ha : 1 ≤ a) : k ≤ 18 := by
  rcases Nat.lt_or_ge k 19 with h1 | h1
  · omega
  · have h2 : 10 ^ 19 ≤ 10 ^ k := Nat.pow_le_pow_right (by decide) h1
    have h3 : 1 * 10 ^ k ≤ a * 10 ^ k := Nat.mul_le_mul_right _ ha
    have h4 : (10 : Nat) ^ 19 = 10000000000000000000 := by decide
    omega
theorem pow_step {a k : Nat} (h : a * 10 ^ k ≤ 9223372036854775808) : a / 10 * 10 ^ (k + 1) ≤ 9223372036854775808 := by
  have h1 : a / 10 * 10 ≤ a := Nat.div_mul_le_self a 10
  have h2 : a / 10 * 10 ^ (k + 1) = a / 10 * 10 * 10 ^ k := by rw [Nat.pow_succ, Nat.mul_assoc, Nat.mul_comm (10 ^ k) 10]
  rw [h2]
  exact Nat.le_trans (Nat.mul_le_mul_right _ h1) h
theorem sz1 (b : UInt8) (t : ByteArray) : (mkS [b] ++ t).size = t.size + 1 := by rw [ByteArray.size_append, mkS_size]; simp; omega
set_option maxRecDepth 100000 in
set_option maxHeartbeats 4000000 in
theorem f27w (N : Int) (w : World) (h0 : -9223372036854775808 ≤ N) (h1 : N ≤ 9223372036854775807) : Calls Tryz.prog 27 #[.int .i64 N] w fun e w' => (∃ t : ByteArray, e = .returned (.string t)) ∧ Below w.heap.size w w' := by
  by_cases hz : N = 0
  · subst hz
    go_enter Tryz.func27, Tryz.ntmps27
    go_wp2
    go_ret
    exact ⟨⟨_, rfl⟩, Below.refl _ _⟩
  · have q0 : (N == 0) = false := by simpa using hz
    have HN : Hid (N.natAbs * 10 ^ 0 ≤ 9223372036854775808) := by unfold Hid; simp; omega
    clear hz
    by_cases hneg : N < 0
    · go_enter Tryz.func27, Tryz.ntmps27
      go_wp2
      go_loopw [0, 3] (fun s0 s3 wr => ∃ (m : Nat) (t : ByteArray), m ≤ 9223372036854775808 ∧ s0 = .int .i64 (-(m : Int)) ∧ s3 = .string t ∧ t.size ≤ 19 ∧ Hid (m * 10 ^ t.size ≤ 9223372036854775808) ∧ Hid (Below w.heap.size w wr)) (fun s0 _ _ => (intOf s0).natAbs)
      case atStart => exact ⟨N.natAbs, ⟨#[]⟩, by omega, by rw [show -((N.natAbs : Nat) : Int) = N from by omega], rfl, by decide, HN, Below.refl _ _⟩
      case round =>
        obtain ⟨m, t, hm, rfl, rfl, hts, HP, HB⟩ := hrel
        by_cases hlt : m = 0
        · subst hlt
          have ha := add_run ⟨#[45]⟩ t (by have : (⟨#[45]⟩ : ByteArray).size = 1 := rfl; omega)
          go_wp2
          go_ret
          exact ⟨⟨_, rfl⟩, HB.out⟩
        · obtain ⟨d, hd⟩ : ∃ d : Nat, d = m % 10 := ⟨_, rfl⟩
          obtain ⟨q, hq⟩ : ∃ q : Nat, q = m / 10 := ⟨_, rfl⟩
          have hroom := pow_room HP.out (by omega)
          have HP2 : Hid (q * 10 ^ (t.size + 1) ≤ 9223372036854775808) := by unfold Hid; rw [hq]; exact pow_step HP.out
          have hne : (-(m : Int) != 0) = true := by simp; omega
          have r1 : Int.tmod (-(m : Int)) 10 = -(d : Int) := by rw [Int.neg_tmod, hd]; rfl
          have r2 : Int.tdiv (-(m : Int)) 10 = -(q : Int) := by rw [Int.neg_tdiv, hq]; rfl
          have hd9 : d ≤ 9 := by omega
          have hqm : q < m := by omega
          have hqb : q ≤ 9223372036854775808 := by omega
          obtain ⟨b, hb⟩ : ∃ b : UInt8, b = UInt8.ofNat (48 + d) := ⟨_, rfl⟩
          have ha := add_run (mkS [b]) t (by have : (mkS [b]).size = 1 := rfl; omega)
          have HSZ := hid (sz1 b t)
          have hc := conv_one wr d
          rw [show ((d : Nat) : Int) % 10 = (d : Int) from by omega, show d % 10 = d from by omega, ← hb] at hc
          have HB2 := hid (HB.out.alloc HB.out.size (.cells #[.int .u8 (48 + (d : Int))] 5))
          clear hd hq hlt hb
          by_cases hd0 : d = 0
          · subst hd0
            rw [show ((0 : Nat) : Int) = 0 from rfl, Int.neg_zero] at r1
            rw [show (48 : Int) + ((0 : Nat) : Int) = 48 from rfl] at hc HB2
            go_wp2
            go_roundw
            case rel => exact ⟨q, _, hqb, by go_num, rfl, by rw [HSZ.out]; omega, by rw [HSZ.out]; exact HP2, HB2⟩
            case measure => simp [intOf]; omega
          · have hneg2 : -(d : Int) < 0 := by omega
            have hnn : - -(d : Int) = (d : Int) := by omega
            go_wp2
            go_roundw
            case rel => exact ⟨q, _, hqb, by go_num, rfl, by rw [HSZ.out]; omega, by rw [HSZ.out]; exact HP2, HB2⟩
            case measure => simp [intOf]; omega
    · go_enter Tryz.func27, Tryz.ntmps27
      go_wp2
      go_loopw [0, 3] (fun s0 s3 wr => ∃ (m : Nat) (t : ByteArray), m ≤ 9223372036854775807 ∧ s0 = .int .i64 (m : Int) ∧ s3 = .string t ∧ t.size ≤ 19 ∧ Hid (m * 10 ^ t.size ≤ 9223372036854775808) ∧ Hid (Below w.heap.size w wr)) (fun s0 _ _ => (intOf s0).natAbs)
      case atStart => exact ⟨N.natAbs, ⟨#[]⟩, by omega, by rw [show ((N.natAbs : Nat) : Int) = N from by omega], rfl, by decide, HN, Below.refl _ _⟩
      case round =>
        obtain ⟨m, t, hm, rfl, rfl, hts, HP, HB⟩ := hrel
        by_cases hlt : m = 0
        · subst hlt
          go_wp2
          go_ret
          exact ⟨⟨_, rfl⟩, HB.out⟩
        · obtain ⟨d, hd⟩ : ∃ d : Nat, d = m % 10 := ⟨_, rfl⟩
          obtain ⟨q, hq⟩ : ∃ q : Nat, q = m / 10 := ⟨_, rfl⟩
          have hroom := pow_room HP.out (by omega)
          have HP2 : Hid (q * 10 ^ (t.size + 1) ≤ 9223372036854775808) := by unfold Hid; rw [hq]; exact pow_step HP.out
          have hne : ((m : Int) != 0) = true := by simp; omega
          have r1 : Int.tmod (m : Int) 10 = (d : Int) := by rw [hd]; rfl
          have r2 : Int.tdiv (m : Int) 10 = (q : Int) := by rw [hq]; rfl
          have hd9 : d ≤ 9 := by omega
          have hqm : q < m := by omega
          have hqb : q ≤ 9223372036854775807 := by omega
          obtain ⟨b, hb⟩ : ∃ b : UInt8, b = UInt8.ofNat (48 + d) := ⟨_, rfl⟩
          have ha := add_run (mkS [b]) t (by have : (mkS [b]).size = 1 := rfl; omega)
          have HSZ := hid (sz1 b t)
          have hc := conv_one wr d
          rw [show ((d : Nat) : Int) % 10 = (d : Int) from by omega, show d % 10 = d from by omega, ← hb] at hc
          have HB2 := hid (HB.out.alloc HB.out.size (.cells #[.int .u8 (48 + (d : Int))] 5))
          clear hd hq hlt hb
          go_wp2
          go_roundw
          case rel => exact ⟨q, _, hqb, by go_num, rfl, by rw [HSZ.out]; omega, by rw [HSZ.out]; exact HP2, HB2⟩
          case measure => simp [intOf]; omega
end Go.Proofs.YtbijhkbmgljjiaaGreatDoor.Fil
