/- Numbers in digits: the model's l2Num and the library's Itoa, at every int; texts put together. -/
import Derived.Test.YtpeffjkagaegjaaDoorRows
import Derived.Test.YtpeffjkagaegjaaDoorItl
import Derived.WalkKit
import Derived.ProofKit
import Derived.WalkSmall
import Derived.Below
import Derived.Handy
import Derived.Lib.ItoaNum
import Derived.Lib.ItoaLen
import Derived.Lib.AppendIntMem
import Derived.Lib.LaidTab
import Derived.Lib.SlBytesRow
namespace Go.Proofs.YtpeffjkagaegjaaDoor.Unt
open Go.RowKit

theorem hid {p : Prop} (h : p) : Hid p := h
abbrev mkS (l : List UInt8) : ByteArray := ⟨l.toArray⟩
theorem mkS_app (a b : List UInt8) : mkS a ++ mkS b = mkS (a ++ b) := by
  apply ByteArray.ext; simp
theorem mkS_size (l : List UInt8) : (mkS l).size = l.length := by simp [ByteArray.size]
theorem add_run (a b : List UInt8) (h : a.length + b.length ≤ 1000000) : ∀ w, (Op.stringOp .add (mkS a) (mkS b)).run Tryd.prog w = .ok (.string (mkS (a ++ b))) w := fun w => by
  rw [← mkS_app]
  exact run_string_add_sum w (mkS a) (mkS b) (by rw [mkS_size, mkS_size]; omega)
/-- The digits of a number; none of 0. -/
def dd (m : Nat) : List UInt8 := if m = 0 then [] else Lib.decDigits m
theorem dd_step {m : Nat} (h : 0 < m) : dd m = dd (m / 10) ++ [UInt8.ofNat (48 + m % 10)] := by
  unfold dd
  rw [if_neg (by omega), Lib.decDigits]
  by_cases h10 : m < 10
  · rw [dif_pos h10, if_pos (by omega), Nat.mod_eq_of_lt h10]; rfl
  · rw [dif_neg h10, if_neg (by omega)]
theorem dd_len (m : Nat) (h : m < 18446744073709551616) : (dd m).length ≤ 20 := by
  unfold dd
  split
  · simp
  · rw [Lib.decDigits_length]; exact Lib.nDigits_le20 m h
theorem dig_toNat (m : Nat) : (UInt8.ofNat (48 + m % 10)).toNat = 48 + m % 10 := by
  rw [UInt8.toNat_ofNat']; omega
theorem conv_one (w : World) (m : Nat) : (convert 58 9 (.slice (some ⟨w.heap.size, 0, none⟩) 1 1)).run Tryd.prog (w.alloc (.cells #[.int .u8 (48 + (m : Int) % 10)] 5)) = .ok (.string (mkS [UInt8.ofNat (48 + m % 10)])) (w.alloc (.cells #[.int .u8 (48 + (m : Int) % 10)] 5)) := by
  have hb : Lib.Bytes (w.alloc (.cells #[.int .u8 (48 + (m : Int) % 10)] 5)) w.heap.size 0 (mkS [UInt8.ofNat (48 + m % 10)]) := by
    intro i hi
    have hi' : i = 0 := by rw [mkS_size] at hi; simp at hi; exact hi
    subst hi'
    have e : ((mkS [UInt8.ofNat (48 + m % 10)])[0]).toNat = 48 + m % 10 := dig_toNat m
    simp only [e]
    simp
  have := Lib.run_convert_whole (P := Tryd.prog) (w.alloc (.cells #[.int .u8 (48 + (m : Int) % 10)] 5)) 58 5 9 Tryd.underlying58 Tryd.underlying5 Tryd.underlying9 w.heap.size 0 (mkS [UInt8.ofNat (48 + m % 10)]) hb 1
  exact this
theorem itoa_pos {N : Nat} (h : 0 < N) : Lib.itoa (N : Int) = dd N := by
  unfold dd Lib.itoa
  rw [if_neg (by omega), if_neg (by omega)]; simp
theorem itoa_neg {N : Nat} (h : 0 < N) : Lib.itoa (-(N : Int)) = 45 :: dd N := by
  unfold dd Lib.itoa
  rw [if_pos (by omega), if_neg (by omega)]; simp
theorem itoa_zero : Lib.itoa 0 = [48] := by
  unfold Lib.itoa
  rw [if_neg (by omega), Lib.decDigits]
  rfl
theorem ret_str {a b : List UInt8} (h : a = b) : Ending.returned (.string (mkS a)) = .returned (.string (mkS b)) := by rw [h]

set_option maxHeartbeats 2000000 in
theorem numPos (N : Nat) (w : World) (h0 : 0 < N) (h1 : N ≤ 9223372036854775807) : Calls Tryd.prog 22 #[.int .i64 N] w fun e w' => e = .returned (.string (mkS (Lib.itoa N))) ∧ Below w.heap.size w w' := by
  have HD := hid (itoa_pos h0)
  have hlen := dd_len N (by omega)
  have q0 : ((N : Int) == 0) = false := by simp; omega
  have q1 : ¬ (N : Int) < 0 := by omega
  go_enter Tryd.func22, Tryd.ntmps22
  go_wp2
  go_loopw [0, 3] (fun s0 s3 wr => ∃ (m : Nat) (t : List UInt8), m ≤ N ∧ s0 = .int .i64 m ∧ s3 = .string (mkS t) ∧ Hid (dd m ++ t = dd N) ∧ Hid (Below w.heap.size w wr)) (fun s0 _ _ => (intOf s0).toNat)
  case atStart => exact ⟨N, [], Nat.le_refl _, rfl, rfl, by unfold Hid; simp, Below.refl _ _⟩
  case round =>
    obtain ⟨m, t, hm, rfl, rfl, HA, HB⟩ := hrel
    have hts : t.length ≤ 20 := by
      have := congrArg List.length HA.out
      rw [List.length_append] at this
      omega
    by_cases hlt : m = 0
    · subst hlt
      have HT : Hid (t = Lib.itoa N) := by
        have := HA.out
        unfold Hid
        rw [HD.out, ← this]; simp [dd]
      go_wp2
      go_ret
      exact ⟨ret_str HT.out, HB.out⟩
    · have hne : ((m : Int) != 0) = true := by simp; exact hlt
      obtain ⟨d, hd⟩ : ∃ d : UInt8, d = UInt8.ofNat (48 + m % 10) := ⟨_, rfl⟩
      have HA2 : Hid (dd (m / 10) ++ (d :: t) = dd N) := by
        unfold Hid; rw [← HA.out, dd_step (m := m) (by omega), hd]; simp
      have r1 : Int.tmod (m : Int) 10 = (m : Int) % 10 := rfl
      have r2 : Int.tdiv (m : Int) 10 = (m : Int) / 10 := rfl
      have r3 : 0 ≤ (m : Int) % 10 := by omega
      have r4 : (m : Int) % 10 ≤ 9 := by omega
      have hc := conv_one wr m
      rw [← hd] at hc
      have ha := add_run [d] t (by simp; omega)
      have HB2 := hid (HB.out.alloc HB.out.size (.cells #[.int .u8 (48 + (m : Int) % 10)] 5))
      clear hd
      go_wp2
      go_roundw
      case rel => exact ⟨m / 10, _, by omega, by go_num, rfl, HA2, HB2⟩
      case measure => simp [intOf]; omega

set_option maxHeartbeats 2000000 in
theorem numNeg (N : Nat) (w : World) (h0 : 0 < N) (h1 : N ≤ 9223372036854775808) : Calls Tryd.prog 22 #[.int .i64 (-(N : Int))] w fun e w' => e = .returned (.string (mkS (Lib.itoa (-(N : Int))))) ∧ Below w.heap.size w w' := by
  have HD := hid (itoa_neg h0)
  have hlen := dd_len N (by omega)
  have q0 : (-(N : Int) == 0) = false := by simp; omega
  have q1 : -(N : Int) < 0 := by omega
  have q2 : (0 : Int) < (N : Int) := by omega
  go_enter Tryd.func22, Tryd.ntmps22
  go_wp2
  go_loopw [0, 3, 5] (fun s0 s3 _ wr => ∃ (m : Nat) (t : List UInt8), m ≤ N ∧ s0 = .int .i64 (-(m : Int)) ∧ s3 = .string (mkS t) ∧ Hid (dd m ++ t = dd N) ∧ Hid (Below w.heap.size w wr)) (fun s0 _ _ _ => (intOf s0).natAbs)
  case atStart => exact ⟨N, [], Nat.le_refl _, rfl, rfl, by unfold Hid; simp, Below.refl _ _⟩
  case round =>
    obtain ⟨m, t, hm, rfl, rfl, HA, HB⟩ := hrel
    have hts : t.length ≤ 20 := by
      have := congrArg List.length HA.out
      rw [List.length_append] at this
      omega
    by_cases hlt : m = 0
    · subst hlt
      have HT : Hid (45 :: t = Lib.itoa (-(N : Int))) := by
        have := HA.out
        unfold Hid
        rw [HD.out, ← this]; simp [dd]
      have ha := add_run [45] t (by simp; omega)
      have z1 : (-((0 : Nat) : Int) != 0) = false := by simp
      go_wp2
      go_ret
      exact ⟨ret_str HT.out, HB.out⟩
    · have hne : (-(m : Int) != 0) = true := by simp; exact hlt
      obtain ⟨d, hd⟩ : ∃ d : UInt8, d = UInt8.ofNat (48 + m % 10) := ⟨_, rfl⟩
      have HA2 : Hid (dd (m / 10) ++ (d :: t) = dd N) := by
        unfold Hid; rw [← HA.out, dd_step (m := m) (by omega), hd]; simp
      have r1 : Int.tmod (-(m : Int)) 10 = -((m : Int) % 10) := by rw [Int.neg_tmod]; rfl
      have r2 : Int.tdiv (-(m : Int)) 10 = -((m : Int) / 10) := by rw [Int.neg_tdiv]; rfl
      have r3 : 0 ≤ (m : Int) % 10 := by omega
      have r4 : (m : Int) % 10 ≤ 9 := by omega
      have hc := conv_one wr m
      rw [← hd] at hc
      have ha := add_run [d] t (by simp; omega)
      have HB2 := hid (HB.out.alloc HB.out.size (.cells #[.int .u8 (48 + (m : Int) % 10)] 5))
      clear hd
      by_cases hz : (m : Int) % 10 = 0
      · have r5 : ¬ -((m : Int) % 10) < 0 := by omega
        have r6 : -((m : Int) % 10) = (m : Int) % 10 := by omega
        clear hz
        generalize hx : (m : Int) % 10 = x at *
        have HX := hid hx
        clear hx
        rw [r6] at r1
        clear r6
        go_wp2
        go_roundw
        case rel => exact ⟨m / 10, _, by omega, by go_num, rfl, HA2, HB2⟩
        case measure => simp [intOf]; omega
      · have r5 : -((m : Int) % 10) < 0 := by omega
        go_wp2
        go_roundw
        case rel => exact ⟨m / 10, _, by omega, by go_num, rfl, HA2, HB2⟩
        case measure => simp [intOf]; omega

theorem f22 (n : Int) (w : World) (h0 : -9223372036854775808 ≤ n) (h1 : n ≤ 9223372036854775807) : Calls Tryd.prog 22 #[.int .i64 n] w fun e w' => e = .returned (.string (mkS (Lib.itoa n))) ∧ Below w.heap.size w w' := by
  by_cases h : n = 0
  · subst h
    rw [itoa_zero]
    go_enter Tryd.func22, Tryd.ntmps22
    go_wp2
    go_ret
    exact ⟨rfl, Below.refl _ _⟩
  · by_cases hp : 0 < n
    · obtain ⟨N, rfl⟩ : ∃ N : Nat, n = (N : Int) := ⟨n.toNat, by omega⟩
      exact numPos N w (by omega) (by omega)
    · obtain ⟨N, rfl⟩ : ∃ N : Nat, n = -(N : Int) := ⟨n.natAbs, by omega⟩
      exact numNeg N w (by omega) (by omega)
theorem itoa_len (n : Int) (h0 : -9223372036854775808 ≤ n) (h1 : n ≤ 9223372036854775807) : (Lib.itoa n).length ≤ 21 := Lib.itoa_length_le n h0 h1
/-- The table of powers of ten, as it is laid. -/
theorem gPow : Tryd.prog.globalNamed "internal/strconv.uint64pow10" = some 1 := by kernel_rfl
def Pow (w : World) : Prop := 1 < w.heap.size ∧ Lib.TabIs Tryd.prog w "internal/strconv.uint64pow10" .u64 Lib.pow10Tab
theorem Pow.below {w w' : World} (h : Pow w) (hb : Below w.heap.size w w') : Pow w' := ⟨Nat.lt_of_lt_of_le h.1 hb.size, var?_below hb gPow h.1 h.2⟩
theorem f44 (n : Int) (w : World) (h0 : -9223372036854775808 ≤ n) (h1 : n ≤ 9223372036854775807) (hp : Pow w) : Calls Tryd.prog 44 #[.int .i64 n] w fun e w' => e = .returned (.string (mkS (Lib.itoa n))) ∧ Below w.heap.size w w' := by
  refine (Tryd.strconv_Itoa n h0 h1 w hp.2).mono ?_
  rintro e w' ⟨rfl, k, os, rfl⟩
  exact ⟨rfl, Lib.below_grow _ _ (Nat.le_refl _) _ _⟩
end Go.Proofs.YtpeffjkagaegjaaDoor.Unt
