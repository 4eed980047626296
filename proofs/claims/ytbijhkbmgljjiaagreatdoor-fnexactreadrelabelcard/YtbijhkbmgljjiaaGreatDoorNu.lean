/- Numbers in digits: what the model's l2Num comes to. -/
import Derived.Test.YtbijhkbmgljjiaaGreatDoorQu
import Derived.Lib.ItoaNum
namespace Go.Proofs.YtbijhkbmgljjiaaGreatDoor.Fil
open Go.RowKit

abbrev mkS (l : List UInt8) : ByteArray := ⟨l.toArray⟩
theorem mkS_app (a b : List UInt8) : mkS a ++ mkS b = mkS (a ++ b) := by
  apply ByteArray.ext; simp
theorem mkS_self (s : ByteArray) : mkS s.data.toList = s := by apply ByteArray.ext; simp
theorem mkS_size (l : List UInt8) : (mkS l).size = l.length := by simp [ByteArray.size]
theorem add_run (a b : ByteArray) (h : a.size + b.size ≤ 9223372036854775807) : ∀ w, (Op.stringOp .add a b).run Tryz.prog w = .ok (.string (a ++ b)) w := fun w => run_string_add_sum w a b h

def dd (m : Nat) : List UInt8 := if m = 0 then [] else Lib.decDigits m
theorem dd_step {m : Nat} (h : 0 < m) : dd m = dd (m / 10) ++ [UInt8.ofNat (48 + m % 10)] := by
  unfold dd
  rw [if_neg (by omega), Lib.decDigits]
  by_cases h10 : m < 10
  · rw [dif_pos h10, if_pos (by omega), Nat.mod_eq_of_lt h10]; rfl
  · rw [dif_neg h10, if_neg (by omega)]
theorem nd_le (u : Nat) : Lib.nDigits u ≤ u + 1 := by
  induction u using Nat.strongRecOn with
  | _ u ih =>
    by_cases h : u < 10
    · rw [Lib.nDigits_small h]; omega
    · rw [Lib.nDigits_big h]
      have := ih (u / 10) (by omega)
      omega
theorem dig_toNat (m : Nat) : (UInt8.ofNat (48 + m % 10)).toNat = 48 + m % 10 := by
  rw [UInt8.toNat_ofNat']; omega
theorem conv_one (w : World) (m : Nat) : (convert 61 9 (.slice (some ⟨w.heap.size, 0, none⟩) 1 1)).run Tryz.prog (w.alloc (.cells #[.int .u8 (48 + (m : Int) % 10)] 5)) = .ok (.string (mkS [UInt8.ofNat (48 + m % 10)])) (w.alloc (.cells #[.int .u8 (48 + (m : Int) % 10)] 5)) := by
  have hb : Lib.Bytes (w.alloc (.cells #[.int .u8 (48 + (m : Int) % 10)] 5)) w.heap.size 0 (mkS [UInt8.ofNat (48 + m % 10)]) := by
    intro i hi
    have hi' : i = 0 := by rw [mkS_size] at hi; simp at hi; exact hi
    subst hi'
    have e : ((mkS [UInt8.ofNat (48 + m % 10)])[0]).toNat = 48 + m % 10 := dig_toNat m
    simp only [e]
    simp
  have := Lib.run_convert_whole (P := Tryz.prog) (w.alloc (.cells #[.int .u8 (48 + (m : Int) % 10)] 5)) 61 5 9 Tryz.underlying61 Tryz.underlying5 Tryz.underlying9 w.heap.size 0 (mkS [UInt8.ofNat (48 + m % 10)]) hb 1
  exact this

set_option maxRecDepth 100000 in
set_option maxHeartbeats 2000000 in
theorem f27 (N : Nat) (w : World) (h0 : 0 < N) (h1 : N ≤ 1000000) : Calls Tryz.prog 27 #[.int .i64 N] w fun e w' => e = .returned (.string (mkS (Lib.itoa N))) ∧ Below w.heap.size w w' := by
  have HD : Hid (dd N = Lib.itoa N) := by
    unfold Hid dd Lib.itoa
    rw [if_neg (by omega), if_neg (by omega)]; simp
  have hlen : (dd N).length ≤ 1000001 := by
    unfold dd; rw [if_neg (by omega), Lib.decDigits_length]; have := nd_le N; omega
  have q0 : ((N : Int) == 0) = false := by simp; omega
  go_enter Tryz.func27, Tryz.ntmps27
  go_wp2
  go_loopw [0, 3] (fun s0 s3 wr => ∃ (m : Nat) (t : List UInt8), m ≤ N ∧ s0 = .int .i64 m ∧ s3 = .string (mkS t) ∧ Hid (dd m ++ t = dd N) ∧ Hid (Below w.heap.size w wr)) (fun s0 _ _ => (intOf s0).toNat)
  case atStart => exact ⟨N, [], Nat.le_refl _, rfl, rfl, by unfold Hid; simp, Below.refl _ _⟩
  case round =>
    obtain ⟨m, t, hm, rfl, rfl, HA, HB⟩ := hrel
    have hts : (mkS t).size ≤ 1000001 := by
      have := congrArg List.length HA.out
      rw [List.length_append] at this
      rw [mkS_size]; omega
    by_cases hlt : m = 0
    · subst hlt
      have HT : Hid (t = Lib.itoa N) := by
        have := HA.out
        unfold Hid
        rw [← HD.out, ← this]; simp [dd]
      go_wp2
      go_ret
      exact ⟨by rw [← HT.out]; rfl, HB.out⟩
    · have hne : ((m : Int) != 0) = true := by simp; exact hlt
      obtain ⟨d, hd⟩ : ∃ d : UInt8, d = UInt8.ofNat (48 + m % 10) := ⟨_, rfl⟩
      have HA2 : Hid (dd (m / 10) ++ (d :: t) = dd N) := by
        unfold Hid; rw [← HA.out, dd_step (m := m) (by omega), hd]; simp
      have r1 : Int.tmod (m : Int) 10 = (m : Int) % 10 := rfl
      have r2 : Int.tdiv (m : Int) 10 = (m : Int) / 10 := rfl
      have r3 : 0 ≤ (m : Int) % 10 := by omega
      have r4 : (m : Int) % 10 ≤ 9 := by omega
      have hc := conv_one wr m
      rw [← hd] at hc
      have ha := add_run (mkS [d]) (mkS t) (by have : (mkS [d]).size = 1 := rfl; omega)
      have HE : Hid (mkS [d] ++ mkS t = mkS (d :: t)) := mkS_app _ _
      have HB2 := hid (HB.out.alloc HB.out.size (.cells #[.int .u8 (48 + (m : Int) % 10)] 5))
      clear hd
      go_wp2
      go_roundw
      case rel => exact ⟨m / 10, _, by omega, by go_num, by rw [← HE.out], HA2, HB2⟩
      case measure => simp [intOf]; omega
end Go.Proofs.YtbijhkbmgljjiaaGreatDoor.Fil
