/- Fillings: what the program's isFilling and the model's l4Filling come to. -/
import Derived.Test.YthcogkoleiejgaaGreatDoorRows
import Derived.WalkKit
import Derived.ProofKit
import Derived.Handy
import Derived.BigQuiet
import Derived.Deep.QuietTactic
namespace Go.Proofs.YthcogkoleiejgaaGreatDoor.Fil
open Go.RowKit

theorem hid {p : Prop} (h : p) : Hid p := h
theorem ret_bool {a b : Bool} (h : a = b) : Ending.returned (.bool a) = .returned (.bool b) := by rw [h]
def prB (c : UInt8) : Bool := decide (32 ≤ c.toNat ∧ c.toNat ≤ 126)
def printL (l : List UInt8) : Bool := l.all prB
theorem all_take_succ (p : UInt8 → Bool) (s : ByteArray) (k : Nat) (h : k < s.size) : (s.data.toList.take (k + 1)).all p = ((s.data.toList.take k).all p && p s[k]) := by
  rw [List.take_succ_eq_append_getElem (by simpa using h), List.all_append]; simp; rfl
theorem all_false (p : UInt8 → Bool) (s : ByteArray) (k : Nat) (h : k < s.size) (hp : p s[k] = false) : s.data.toList.all p = false := by
  rw [List.all_eq_false]
  refine ⟨s[k], ?_, by simp [hp]⟩
  exact List.getElem_mem (l := s.data.toList) (n := k) (by simpa using h)
theorem take_all (p : UInt8 → Bool) (s : ByteArray) (k : Nat) (h : s.size ≤ k) (hp : (s.data.toList.take k).all p = true) : s.data.toList.all p = true := by
  rwa [List.take_of_length_le (by simpa using h)] at hp

theorem f89 (s : ByteArray) (w : World) (hs : s.size ≤ maxLen) : Calls Tryz.prog 89 #[.string s] w fun e w' => e = .returned (.bool (printL s.data.toList)) ∧ w' = w := by
  unfold maxLen at hs
  go_enter Tryz.func89, Tryz.ntmps89
  go_wp2
  go_loop [3] (fun i => ∃ k : Nat, k ≤ s.size ∧ i = .int .i64 k ∧ Hid ((s.data.toList.take k).all prB = true)) (fun i => s.size - (intOf i).toNat)
  case atStart => exact ⟨0, Nat.zero_le _, rfl, by unfold Hid; simp⟩
  case round =>
    obtain ⟨k, hk, rfl, hp⟩ := hrel
    by_cases hlt : k < s.size
    · have HS := hid (all_take_succ prB s k hlt)
      have HA := hid (all_false prB s k hlt)
      by_cases h1 : (s[k].toNat : Int) < 32
      · go_wp2
        go_ret
        exact ⟨ret_bool (HA.out (by unfold prB; rw [decide_eq_false]; omega)).symm, rfl⟩
      · by_cases h2 : 126 < (s[k].toNat : Int)
        · go_wp2
          go_ret
          exact ⟨ret_bool (HA.out (by unfold prB; rw [decide_eq_false]; omega)).symm, rfl⟩
        · go_wp2
          go_round
          case rel => exact ⟨k + 1, by omega, by go_num, by unfold Hid; rw [HS.out, hp.out, Bool.true_and]; unfold prB; rw [decide_eq_true]; omega⟩
          case measure => simp [intOf]; omega
    · go_wp2
      go_ret
      exact ⟨ret_bool (take_all prB s k (by omega) hp.out).symm, rfl⟩

theorem f145 (s : ByteArray) (w : World) (hs : s.size ≤ maxLen) : Calls Tryz.prog 145 #[.string s] w fun e w' => e = .returned (.bool (printL s.data.toList)) ∧ w' = w := by
  unfold maxLen at hs
  go_enter Tryz.func145, Tryz.ntmps145
  go_wp2
  go_loop [6] (fun i => ∃ k : Nat, k ≤ s.size ∧ i = .int .i64 k ∧ Hid ((s.data.toList.take k).all prB = true)) (fun i => s.size - (intOf i).toNat)
  case atStart => exact ⟨0, Nat.zero_le _, rfl, by unfold Hid; simp⟩
  case round =>
    obtain ⟨k, hk, rfl, hp⟩ := hrel
    by_cases hlt : k < s.size
    · have HS := hid (all_take_succ prB s k hlt)
      have HA := hid (all_false prB s k hlt)
      by_cases h1 : (s[k].toNat : Int) < 32
      · go_wp2
        go_ret
        exact ⟨ret_bool (HA.out (by unfold prB; rw [decide_eq_false]; omega)).symm, rfl⟩
      · by_cases h2 : 126 < (s[k].toNat : Int)
        · go_wp2
          go_ret
          exact ⟨ret_bool (HA.out (by unfold prB; rw [decide_eq_false]; omega)).symm, rfl⟩
        · go_wp2
          go_round
          case rel => exact ⟨k + 1, by omega, by go_num, by unfold Hid; rw [HS.out, hp.out, Bool.true_and]; unfold prB; rw [decide_eq_true]; omega⟩
          case measure => simp [intOf]; omega
    · go_wp2
      go_ret
      exact ⟨ret_bool (take_all prB s k (by omega) hp.out).symm, rfl⟩

/-- A sign that may stand behind a dollar. -/
def sgB (z : Int) : Bool := decide (z = 36 ∨ (49 ≤ z ∧ z ≤ 57))
def escL : List UInt8 → Bool
  | [] => true
  | [c] => !decide ((c.toNat : Int) = 36)
  | c :: d :: r => if (c.toNat : Int) = 36 then sgB d.toNat && escL r else escL (d :: r)
theorem esc_plain (c : UInt8) (r : List UInt8) (h : (c.toNat : Int) ≠ 36) : escL (c :: r) = escL r := by
  cases r with
  | nil => simp [escL, h]
  | cons d r => rw [escL, if_neg h]
theorem esc_end (c : UInt8) (h : (c.toNat : Int) = 36) : escL [c] = false := by simp [escL, h]
theorem esc_sign (c d : UInt8) (r : List UInt8) (h : (c.toNat : Int) = 36) : escL (c :: d :: r) = (sgB d.toNat && escL r) := by rw [escL, if_pos h]
theorem drop_str (s : ByteArray) (k : Nat) (h : k < s.size) : s.data.toList.drop k = s[k] :: s.data.toList.drop (k + 1) := by
  rw [List.drop_eq_getElem_cons (by simpa using h)]; rfl
/-- The rest from k on decides. -/
def From (s : ByteArray) (k : Nat) : Prop := escL s.data.toList = escL (s.data.toList.drop k)
theorem From.zero (s : ByteArray) : From s 0 := rfl
theorem From.plain {s : ByteArray} {k : Nat} (h : From s k) (hk : k < s.size) (hc : (s[k].toNat : Int) ≠ 36) : From s (k + 1) := by
  unfold From at *; rw [h, drop_str s k hk, esc_plain _ _ hc]
theorem From.last {s : ByteArray} {k : Nat} (h : From s k) (hk : k < s.size) (hc : (s[k].toNat : Int) = 36) (he : k + 1 = s.size) : escL s.data.toList = false := by
  unfold From at h; rw [h, drop_str s k hk, List.drop_eq_nil_of_le (by simp; omega), esc_end _ hc]
theorem From.bad {s : ByteArray} {k : Nat} (h : From s k) (hk : k < s.size) (hc : (s[k].toNat : Int) = 36) (hk1 : k + 1 < s.size) (hs : sgB (s[k + 1].toNat : Int) = false) : escL s.data.toList = false := by
  unfold From at h; rw [h, drop_str s k hk, drop_str s (k + 1) hk1, esc_sign _ _ _ hc, hs]; rfl
theorem From.sign {s : ByteArray} {k : Nat} (h : From s k) (hk : k < s.size) (hc : (s[k].toNat : Int) = 36) (hk1 : k + 1 < s.size) (hs : sgB (s[k + 1].toNat : Int) = true) : From s (k + 1 + 1) := by
  unfold From at *; rw [h, drop_str s k hk, drop_str s (k + 1) hk1, esc_sign _ _ _ hc, hs]; rfl
theorem From.done {s : ByteArray} {k : Nat} (h : From s k) (hk : s.size ≤ k) : escL s.data.toList = true := by
  unfold From at h; rw [h, List.drop_eq_nil_of_le (by simpa using hk)]; rfl
def filB (s : ByteArray) : Bool := decide (s.size ≤ 100) && printL s.data.toList && escL s.data.toList
theorem fil_ok {s : ByteArray} {b : Bool} (h1 : s.size ≤ 100) (h2 : printL s.data.toList = true) (h3 : escL s.data.toList = b) : filB s = b := by unfold filB; rw [h2, h3]; simp [h1]
theorem fil_long {s : ByteArray} (h1 : 100 < s.size) : filB s = false := by unfold filB; rw [decide_eq_false (by omega)]; rfl
theorem fil_unprinted {s : ByteArray} (h1 : printL s.data.toList = false) : filB s = false := by unfold filB; rw [h1]; simp

end Go.Proofs.YthcogkoleiejgaaGreatDoor.Fil
