/- Bytes and texts: what the small tests of chapter 2 come to. -/
import Derived.Test.YtbdlahhejfamhaaGreatDoorRows
import Derived.WalkKit
import Derived.ProofKit
import Derived.Handy
import Derived.BigQuiet
import Derived.Deep.QuietTactic
import Derived.Lib.Bytealg
import Derived.Deep.RegionWith
namespace Go.Proofs.YtbdlahhejfamhaaGreatDoor.Str
open Go.RowKit

theorem hid {p : Prop} (h : p) : Hid p := h
theorem ret_bool {a b : Bool} (h : a = b) : Ending.returned (.bool a) = .returned (.bool b) := by rw [h]
theorem ret_int {k : IntKind} {a b : Int} (h : a = b) : Ending.returned (.int k a) = .returned (.int k b) := by rw [h]

def digB (z : Int) : Bool := decide (48 ≤ z ∧ z ≤ 57)
def letB (z : Int) : Bool := decide ((97 ≤ z ∧ z ≤ 122) ∨ (65 ≤ z ∧ z ≤ 90))
def nbB (z : Int) : Bool := letB z || digB z || decide (z = 95)

theorem f118 (z : Int) (w : World) : Calls Tryz.prog 118 #[.int .u8 z] w fun e w' => e = .returned (.bool (digB z)) ∧ w' = w := by
  by_cases h1 : 48 ≤ z
  · by_cases h2 : z ≤ 57
    · go_enter Tryz.func118, Tryz.ntmps118
      go_wp2
      go_ret
      exact ⟨ret_bool (by simp [digB, h1, h2]), rfl⟩
    · go_enter Tryz.func118, Tryz.ntmps118
      go_wp2
      go_ret
      exact ⟨ret_bool (by simp [digB, h2]), rfl⟩
  · go_enter Tryz.func118, Tryz.ntmps118
    go_wp2
    go_ret
    exact ⟨ret_bool (by unfold digB; rw [Bool.eq_iff_iff]; simp; omega), rfl⟩
theorem f124 (z : Int) (w : World) : Calls Tryz.prog 124 #[.int .u8 z] w fun e w' => e = .returned (.bool (digB z)) ∧ w' = w := by
  by_cases h1 : 48 ≤ z
  · by_cases h2 : z ≤ 57
    · go_enter Tryz.func124, Tryz.ntmps124
      go_wp2
      go_ret
      exact ⟨ret_bool (by simp [digB, h1, h2]), rfl⟩
    · go_enter Tryz.func124, Tryz.ntmps124
      go_wp2
      go_ret
      exact ⟨ret_bool (by simp [digB, h2]), rfl⟩
  · go_enter Tryz.func124, Tryz.ntmps124
    go_wp2
    go_ret
    exact ⟨ret_bool (by unfold digB; rw [Bool.eq_iff_iff]; simp; omega), rfl⟩
theorem f119 (z : Int) (w : World) : Calls Tryz.prog 119 #[.int .u8 z] w fun e w' => e = .returned (.bool (letB z)) ∧ w' = w := by
  go_enter Tryz.func119, Tryz.ntmps119
  go_wp2
  all_goals
    go_ret
    exact ⟨ret_bool (by unfold letB; rw [Bool.eq_iff_iff]; simp; omega), rfl⟩
theorem f154 (z : Int) (w : World) : Calls Tryz.prog 154 #[.int .u8 z] w fun e w' => e = .returned (.bool (letB z)) ∧ w' = w := by
  go_enter Tryz.func154, Tryz.ntmps154
  go_wp2
  all_goals
    go_ret
    exact ⟨ret_bool (by unfold letB; rw [Bool.eq_iff_iff]; simp; omega), rfl⟩
theorem f125 (z : Int) (w : World) : Calls Tryz.prog 125 #[.int .u8 z] w fun e w' => e = .returned (.bool (nbB z)) ∧ w' = w := by
  by_cases h1 : letB z = true
  · go_enter Tryz.func125, Tryz.ntmps125
    go_wp2_with (first | (go_at_call 154; refine (f154 _ _).mono ?_; rintro e w' ⟨rfl, rfl⟩) | (go_at_call 124; refine (f124 _ _).mono ?_; rintro e w' ⟨rfl, rfl⟩))
    go_ret
    exact ⟨ret_bool (by simp [nbB, h1]), rfl⟩
  · have h1' : letB z = false := by simpa using h1
    by_cases h2 : digB z = true
    · go_enter Tryz.func125, Tryz.ntmps125
      go_wp2_with (first | (go_at_call 154; refine (f154 _ _).mono ?_; rintro e w' ⟨rfl, rfl⟩) | (go_at_call 124; refine (f124 _ _).mono ?_; rintro e w' ⟨rfl, rfl⟩))
      go_ret
      exact ⟨ret_bool (by simp [nbB, h2]), rfl⟩
    · have h2' : digB z = false := by simpa using h2
      go_enter Tryz.func125, Tryz.ntmps125
      go_wp2_with (first | (go_at_call 154; refine (f154 _ _).mono ?_; rintro e w' ⟨rfl, rfl⟩) | (go_at_call 124; refine (f124 _ _).mono ?_; rintro e w' ⟨rfl, rfl⟩))
      go_ret
      exact ⟨ret_bool (by simp [nbB, h1', h2']; rfl), rfl⟩

def prB (c : UInt8) : Bool := decide (32 ≤ c.toNat ∧ c.toNat ≤ 126)
def nbC (c : UInt8) : Bool := nbB c.toNat
def nameL (l : List UInt8) : Bool := decide (1 ≤ l.length ∧ l.length ≤ 40) && !digB (l.getD 0 0).toNat && l.all nbC
def printL (l : List UInt8) : Bool := l.all prB
def valueL (l : List UInt8) : Bool := decide (1 ≤ l.length ∧ l.length ≤ 100) && printL l

theorem all_take_succ (p : UInt8 → Bool) (s : ByteArray) (k : Nat) (h : k < s.size) : (s.data.toList.take (k + 1)).all p = ((s.data.toList.take k).all p && p s[k]) := by
  rw [List.take_succ_eq_append_getElem (by simpa using h), List.all_append]; simp; rfl
theorem all_false (p : UInt8 → Bool) (s : ByteArray) (k : Nat) (h : k < s.size) (hp : p s[k] = false) : s.data.toList.all p = false := by
  rw [List.all_eq_false]
  refine ⟨s[k], ?_, by simp [hp]⟩
  exact List.getElem_mem (l := s.data.toList) (n := k) (by simpa using h)
theorem take_all (p : UInt8 → Bool) (s : ByteArray) (k : Nat) (h : s.size ≤ k) (hp : (s.data.toList.take k).all p = true) : s.data.toList.all p = true := by
  rwa [List.take_of_length_le (by simpa using h)] at hp
end Go.Proofs.YtbdlahhejfamhaaGreatDoor.Str
/- Names and values: what the tests of texts come to. -/
namespace Go.Proofs.YtbdlahhejfamhaaGreatDoor.Str
open Go.RowKit

theorem f134 (s : ByteArray) (w : World) (hs : s.size ≤ maxLen) : Calls Tryz.prog 134 #[.string s] w fun e w' => e = .returned (.bool (printL s.data.toList)) ∧ w' = w := by
  unfold maxLen at hs
  go_enter Tryz.func134, Tryz.ntmps134
  go_wp2
  go_loop [3] (fun i => ∃ k : Nat, k ≤ s.size ∧ i = .int .i64 k ∧ Hid ((s.data.toList.take k).all prB = true)) (fun i => s.size - (intOf i).toNat)
  case atStart => exact ⟨0, Nat.zero_le _, rfl, by unfold Hid; simp⟩
  case round =>
    obtain ⟨k, hk, rfl, hp⟩ := hrel
    by_cases hlt : k < s.size
    · have HS := hid (all_take_succ prB s k hlt)
      have HA := hid (all_false prB s k hlt)
      by_cases h1 : (s[k].toNat : Int) < 32
      · go_wp2
        go_ret
        exact ⟨ret_bool (HA.out (by unfold prB; rw [decide_eq_false]; omega)).symm, rfl⟩
      · by_cases h2 : 126 < (s[k].toNat : Int)
        · go_wp2
          go_ret
          exact ⟨ret_bool (HA.out (by unfold prB; rw [decide_eq_false]; omega)).symm, rfl⟩
        · go_wp2
          go_round
          case rel => exact ⟨k + 1, by omega, by go_num, by unfold Hid; rw [HS.out, hp.out, Bool.true_and]; unfold prB; rw [decide_eq_true]; omega⟩
          case measure => simp [intOf]; omega
    · go_wp2
      go_ret
      exact ⟨ret_bool (take_all prB s k (by omega) hp.out).symm, rfl⟩

theorem f142 (s : ByteArray) (w : World) (hs : s.size ≤ maxLen) : Calls Tryz.prog 142 #[.string s] w fun e w' => e = .returned (.bool (printL s.data.toList)) ∧ w' = w := by
  unfold maxLen at hs
  go_enter Tryz.func142, Tryz.ntmps142
  go_wp2
  go_loop [6] (fun i => ∃ k : Nat, k ≤ s.size ∧ i = .int .i64 k ∧ Hid ((s.data.toList.take k).all prB = true)) (fun i => s.size - (intOf i).toNat)
  case atStart => exact ⟨0, Nat.zero_le _, rfl, by unfold Hid; simp⟩
  case round =>
    obtain ⟨k, hk, rfl, hp⟩ := hrel
    by_cases hlt : k < s.size
    · have HS := hid (all_take_succ prB s k hlt)
      have HA := hid (all_false prB s k hlt)
      by_cases h1 : (s[k].toNat : Int) < 32
      · go_wp2
        go_ret
        exact ⟨ret_bool (HA.out (by unfold prB; rw [decide_eq_false]; omega)).symm, rfl⟩
      · by_cases h2 : 126 < (s[k].toNat : Int)
        · go_wp2
          go_ret
          exact ⟨ret_bool (HA.out (by unfold prB; rw [decide_eq_false]; omega)).symm, rfl⟩
        · go_wp2
          go_round
          case rel => exact ⟨k + 1, by omega, by go_num, by unfold Hid; rw [HS.out, hp.out, Bool.true_and]; unfold prB; rw [decide_eq_true]; omega⟩
          case measure => simp [intOf]; omega
    · go_wp2
      go_ret
      exact ⟨ret_bool (take_all prB s k (by omega) hp.out).symm, rfl⟩

theorem f120 (s : ByteArray) (w : World) (hs : s.size ≤ maxLen) : Calls Tryz.prog 120 #[.string s] w fun e w' => e = .returned (.bool (valueL s.data.toList)) ∧ w' = w := by
  have hs' := hs
  unfold maxLen at hs'
  by_cases h1 : 1 ≤ s.size
  · by_cases h2 : s.size ≤ 100
    · go_enter Tryz.func120, Tryz.ntmps120
      go_wp2_with (go_at_call 134; refine (f134 _ _ hs).mono ?_; rintro e w' ⟨rfl, rfl⟩)
      all_goals
        go_ret
        exact ⟨ret_bool (by simp [valueL, h1, h2]), rfl⟩
    · go_enter Tryz.func120, Tryz.ntmps120
      go_wp2_with (go_at_call 134; refine (f134 _ _ hs).mono ?_; rintro e w' ⟨rfl, rfl⟩)
      go_ret
      exact ⟨ret_bool (by simp [valueL]; omega), rfl⟩
  · go_enter Tryz.func120, Tryz.ntmps120
    go_wp2_with (go_at_call 134; refine (f134 _ _ hs).mono ?_; rintro e w' ⟨rfl, rfl⟩)
    go_ret
    exact ⟨ret_bool (by simp [valueL]; omega), rfl⟩

theorem f126 (s : ByteArray) (w : World) (hs : s.size ≤ maxLen) : Calls Tryz.prog 126 #[.string s] w fun e w' => e = .returned (.bool (valueL s.data.toList)) ∧ w' = w := by
  have hs' := hs
  unfold maxLen at hs'
  by_cases h1 : 1 ≤ s.size
  · by_cases h2 : s.size ≤ 100
    · go_enter Tryz.func126, Tryz.ntmps126
      go_wp2_with (go_at_call 142; refine (f142 _ _ hs).mono ?_; rintro e w' ⟨rfl, rfl⟩)
      all_goals
        go_ret
        exact ⟨ret_bool (by simp [valueL, h1, h2]), rfl⟩
    · go_enter Tryz.func126, Tryz.ntmps126
      go_wp2_with (go_at_call 142; refine (f142 _ _ hs).mono ?_; rintro e w' ⟨rfl, rfl⟩)
      go_ret
      exact ⟨ret_bool (by simp [valueL]; omega), rfl⟩
  · go_enter Tryz.func126, Tryz.ntmps126
    go_wp2_with (go_at_call 142; refine (f142 _ _ hs).mono ?_; rintro e w' ⟨rfl, rfl⟩)
    go_ret
    exact ⟨ret_bool (by simp [valueL]; omega), rfl⟩

set_option maxHeartbeats 1000000 in
theorem f90 (s : ByteArray) (w : World) (hs : s.size ≤ maxLen) : Calls Tryz.prog 90 #[.string s] w fun e w' => e = .returned (.bool (nameL s.data.toList)) ∧ w' = w := by
  unfold maxLen at hs
  by_cases g1 : s.size < 1
  · go_enter Tryz.func90, Tryz.ntmps90
    go_wp2
    go_ret
    exact ⟨ret_bool (by simp [nameL]; omega), rfl⟩
  by_cases g2 : 40 < s.size
  · go_enter Tryz.func90, Tryz.ntmps90
    go_wp2
    go_ret
    exact ⟨ret_bool (by simp [nameL]; omega), rfl⟩
  have g3 : 0 < s.size := by omega
  have HZ : Hid (s.data.toList.getD 0 0 = s[0]) := by
    have : 0 < s.data.toList.length := by simpa using g3
    unfold Hid; rw [List.getD_eq_getElem?_getD, List.getElem?_eq_getElem this]; rfl
  by_cases g4 : digB (s[0].toNat : Int) = true
  · go_enter Tryz.func90, Tryz.ntmps90
    go_wp2_with (go_at_call 118; refine (f118 _ _).mono ?_; rintro e w' ⟨rfl, rfl⟩)
    go_ret
    exact ⟨ret_bool (by unfold nameL; rw [HZ.out, g4]; simp), rfl⟩
  have g4' : digB (s[0].toNat : Int) = false := by simpa using g4
  clear g4
  go_enter Tryz.func90, Tryz.ntmps90
  go_wp2_with (go_at_call 118; refine (f118 _ _).mono ?_; rintro e w' ⟨rfl, rfl⟩)
  go_loop [3] (fun i => ∃ k : Nat, k ≤ s.size ∧ i = .int .i64 k ∧ Hid ((s.data.toList.take k).all nbC = true)) (fun i => s.size - (intOf i).toNat)
  case atStart => exact ⟨0, Nat.zero_le _, rfl, by unfold Hid; simp⟩
  case round =>
    obtain ⟨k, hk, rfl, hp⟩ := hrel
    by_cases hlt : k < s.size
    · have HS := hid (all_take_succ nbC s k hlt)
      have HA := hid (all_false nbC s k hlt)
      by_cases h1 : letB (s[k].toNat : Int) = true
      · go_wp2_with (first | (go_at_call 119; refine (f119 _ _).mono ?_; rintro e w' ⟨rfl, rfl⟩) | (go_at_call 118; refine (f118 _ _).mono ?_; rintro e w' ⟨rfl, rfl⟩))
        go_round
        case rel => exact ⟨k + 1, by omega, by go_num, by unfold Hid; rw [HS.out, hp.out]; simp [nbC, nbB, h1]⟩
        case measure => simp [intOf]; omega
      · have h1' : letB (s[k].toNat : Int) = false := by simpa using h1
        by_cases h2 : digB (s[k].toNat : Int) = true
        · go_wp2_with (first | (go_at_call 119; refine (f119 _ _).mono ?_; rintro e w' ⟨rfl, rfl⟩) | (go_at_call 118; refine (f118 _ _).mono ?_; rintro e w' ⟨rfl, rfl⟩))
          go_round
          case rel => exact ⟨k + 1, by omega, by go_num, by unfold Hid; rw [HS.out, hp.out]; simp [nbC, nbB, h2]⟩
          case measure => simp [intOf]; omega
        · have h2' : digB (s[k].toNat : Int) = false := by simpa using h2
          by_cases h3 : (s[k].toNat : Int) = 95
          · have h3' : ((s[k].toNat : Int) != 95) = false := by simp [h3]
            have HN := hid h3
            clear h3
            go_wp2_with (first | (go_at_call 119; refine (f119 _ _).mono ?_; rintro e w' ⟨rfl, rfl⟩) | (go_at_call 118; refine (f118 _ _).mono ?_; rintro e w' ⟨rfl, rfl⟩))
            go_round
            case rel => exact ⟨k + 1, by omega, by go_num, by unfold Hid; rw [HS.out, hp.out, Bool.true_and]; unfold nbC nbB; rw [HN.out]; simp⟩
            case measure => simp [intOf]; omega
          · have h3' : ((s[k].toNat : Int) != 95) = true := by simp [h3]
            have HN := hid h3
            clear h3
            go_wp2_with (first | (go_at_call 119; refine (f119 _ _).mono ?_; rintro e w' ⟨rfl, rfl⟩) | (go_at_call 118; refine (f118 _ _).mono ?_; rintro e w' ⟨rfl, rfl⟩))
            go_ret
            exact ⟨ret_bool (by unfold nameL; rw [HA.out (by unfold nbC nbB; rw [h1', h2']; simpa using HN.out)]; simp), rfl⟩
    · go_wp2
      go_ret
      exact ⟨ret_bool (by unfold nameL; rw [HZ.out, g4', take_all nbC s k (by omega) hp.out]; simp; omega), rfl⟩

set_option maxHeartbeats 1000000 in
theorem f95 (s : ByteArray) (w : World) (hs : s.size ≤ maxLen) : Calls Tryz.prog 95 #[.string s] w fun e w' => e = .returned (.bool (nameL s.data.toList)) ∧ w' = w := by
  unfold maxLen at hs
  by_cases g1 : s.size < 1
  · go_enter Tryz.func95, Tryz.ntmps95
    go_wp2
    go_ret
    exact ⟨ret_bool (by simp [nameL]; omega), rfl⟩
  by_cases g2 : 40 < s.size
  · go_enter Tryz.func95, Tryz.ntmps95
    go_wp2
    go_ret
    exact ⟨ret_bool (by simp [nameL]; omega), rfl⟩
  have g3 : 0 < s.size := by omega
  have HZ : Hid (s.data.toList.getD 0 0 = s[0]) := by
    have : 0 < s.data.toList.length := by simpa using g3
    unfold Hid; rw [List.getD_eq_getElem?_getD, List.getElem?_eq_getElem this]; rfl
  by_cases g4 : digB (s[0].toNat : Int) = true
  · go_enter Tryz.func95, Tryz.ntmps95
    go_wp2_with (go_at_call 124; refine (f124 _ _).mono ?_; rintro e w' ⟨rfl, rfl⟩)
    go_ret
    exact ⟨ret_bool (by unfold nameL; rw [HZ.out, g4]; simp), rfl⟩
  have g4' : digB (s[0].toNat : Int) = false := by simpa using g4
  clear g4
  go_enter Tryz.func95, Tryz.ntmps95
  go_wp2_with (go_at_call 124; refine (f124 _ _).mono ?_; rintro e w' ⟨rfl, rfl⟩)
  go_loop [19] (fun i => ∃ k : Nat, k ≤ s.size ∧ i = .int .i64 k ∧ Hid ((s.data.toList.take k).all nbC = true)) (fun i => s.size - (intOf i).toNat)
  case atStart => exact ⟨0, Nat.zero_le _, rfl, by unfold Hid; simp⟩
  case round =>
    obtain ⟨k, hk, rfl, hp⟩ := hrel
    by_cases hlt : k < s.size
    · have HS := hid (all_take_succ nbC s k hlt)
      have HA := hid (all_false nbC s k hlt)
      by_cases h1 : nbB (s[k].toNat : Int) = true
      · go_wp2_with (go_at_call 125; refine (f125 _ _).mono ?_; rintro e w' ⟨rfl, rfl⟩)
        go_round
        case rel => exact ⟨k + 1, by omega, by go_num, by unfold Hid; rw [HS.out, hp.out]; simp [nbC, h1]⟩
        case measure => simp [intOf]; omega
      · have h1' : nbB (s[k].toNat : Int) = false := by simpa using h1
        go_wp2_with (go_at_call 125; refine (f125 _ _).mono ?_; rintro e w' ⟨rfl, rfl⟩)
        go_ret
        exact ⟨ret_bool (by unfold nameL; rw [HA.out h1']; simp), rfl⟩
    · go_wp2
      go_ret
      exact ⟨ret_bool (by unfold nameL; rw [HZ.out, g4', take_all nbC s k (by omega) hp.out]; simp; omega), rfl⟩
end Go.Proofs.YtbdlahhejfamhaaGreatDoor.Str
/- Texts compared: l2CmpNum, l2CmpText, strings.Compare. -/
namespace Go.Proofs.YtbdlahhejfamhaaGreatDoor.Str
open Go.RowKit

def numC (x y : Int) : Int := if x < y then -1 else if y < x then 1 else 0
theorem f151 (x y : Int) (w : World) : Calls Tryz.prog 151 #[.int .i64 x, .int .i64 y] w fun e w' => e = .returned (.int .i64 (numC x y)) ∧ w' = w := by
  by_cases h1 : x < y
  · go_enter Tryz.func151, Tryz.ntmps151
    go_wp2
    go_ret
    exact ⟨ret_int (by unfold numC; rw [if_pos h1]), rfl⟩
  · by_cases h2 : y < x
    · go_enter Tryz.func151, Tryz.ntmps151
      go_wp2
      go_ret
      exact ⟨ret_int (by unfold numC; rw [if_neg (by omega), if_pos h2]), rfl⟩
    · go_enter Tryz.func151, Tryz.ntmps151
      go_wp2
      go_ret
      exact ⟨ret_int (by unfold numC; rw [if_neg (by omega), if_neg (by omega)]), rfl⟩

theorem cmp_at : ∀ (k : Nat) (a b : List UInt8), k < a.length → k < b.length → a.take k = b.take k → a.getD k 0 ≠ b.getD k 0 → Lib.compareBytes a b = numC (a.getD k 0).toNat (b.getD k 0).toNat := by
  intro k
  induction k with
  | zero =>
    intro a b ha hb _ hne
    match a, b, ha, hb with
    | x :: a, y :: b, _, _ =>
      simp only [List.getD_cons_zero] at hne ⊢
      unfold Lib.compareBytes numC
      by_cases h1 : x < y
      · rw [if_pos h1, if_pos (by have := UInt8.lt_iff_toNat_lt.1 h1; omega)]
      · by_cases h2 : y < x
        · rw [if_neg h1, if_pos h2, if_neg (by have := UInt8.lt_iff_toNat_lt.1 h2; omega), if_pos (by have := UInt8.lt_iff_toNat_lt.1 h2; omega)]
        · exfalso
          rw [UInt8.lt_iff_toNat_lt] at h1 h2
          exact hne (UInt8.toNat_inj.1 (by omega))
  | succ k ih =>
    intro a b ha hb he hne
    match a, b, ha, hb with
    | x :: a, y :: b, ha, hb =>
      simp only [List.take_succ_cons, List.cons.injEq] at he
      obtain ⟨rfl, he⟩ := he
      simp only [List.getD_cons_succ] at hne ⊢
      rw [← ih a b (by simpa using ha) (by simpa using hb) he hne]
      conv => lhs; unfold Lib.compareBytes
      simp
theorem cmp_end : ∀ (k : Nat) (a b : List UInt8), a.take k = b.take k → (a.length ≤ k ∨ b.length ≤ k) → Lib.compareBytes a b = numC a.length b.length := by
  intro k
  induction k with
  | zero =>
    intro a b _ h
    cases a with
    | nil =>
      cases b with
      | nil => rfl
      | cons y b => unfold Lib.compareBytes numC; rw [if_pos (by simp)]
    | cons x a =>
      cases b with
      | nil => unfold Lib.compareBytes numC; rw [if_neg (by simp; omega), if_pos (by simp)]
      | cons y b => simp at h
  | succ k ih =>
    intro a b he h
    cases a with
    | nil =>
      cases b with
      | nil => rfl
      | cons y b => simp at he
    | cons x a =>
      cases b with
      | nil => simp at he
      | cons y b =>
        simp only [List.take_succ_cons, List.cons.injEq] at he
        obtain ⟨rfl, he⟩ := he
        have e := ih a b he (by simpa using h)
        have e2 : numC ((x :: a).length : Nat) ((x :: b).length : Nat) = numC a.length b.length := by
          unfold numC; simp
        rw [e2, ← e]
        conv => lhs; unfold Lib.compareBytes
        simp

theorem getD_str (s : ByteArray) (k : Nat) (h : k < s.size) : s.data.toList.getD k 0 = s[k] := by
  have : k < s.data.toList.length := by simpa using h
  rw [List.getD_eq_getElem?_getD, List.getElem?_eq_getElem this]; rfl
theorem take_str (s t : ByteArray) (k : Nat) (hs : k < s.size) (ht : k < t.size) (h : s.data.toList.take k = t.data.toList.take k) (he : s[k] = t[k]) : s.data.toList.take (k + 1) = t.data.toList.take (k + 1) := by
  rw [List.take_succ_eq_append_getElem (by simpa using hs), List.take_succ_eq_append_getElem (by simpa using ht), h]
  congr 1
  have : s.data.toList[k]'(by simpa using hs) = t.data.toList[k]'(by simpa using ht) := he
  rw [this]

set_option maxRecDepth 100000 in
theorem f170 (a b : ByteArray) (w : World) : Calls Tryz.prog 170 #[.string a, .string b] w fun e w' => e = .returned (.int .i64 (Lib.compareBytes a.data.toList b.data.toList)) ∧ w' = w := by
  go_enter Tryz.func170, Tryz.ntmps170
  go_wp2
  rw [run_callFunc_extern Tryz.func180 (by kernel_rfl) (by kernel_rfl) (by kernel_rfl) (e := Extern.BytealgCompare.compare) (by kernel_rfl), Lib.run_compareString]
  simp only [Result.andThen]
  rw [Oper.upon_value]
  go_wp2
  go_ret
  exact ⟨rfl, rfl⟩
theorem f155 (a b : ByteArray) (w : World) : Calls Tryz.prog 155 #[.string a, .string b] w fun e w' => e = .returned (.int .i64 (Lib.compareBytes a.data.toList b.data.toList)) ∧ w' = w := by
  go_enter Tryz.func155, Tryz.ntmps155
  go_wp2_with (go_at_call 170; refine (f170 _ _ _).mono ?_; rintro e w' ⟨rfl, rfl⟩)
  go_ret
  exact ⟨rfl, rfl⟩

theorem wrapb (c : UInt8) : IntKind.i64.wrap (c.toNat : Int) = c.toNat := by
  have := c.toNat_lt
  rw [IntKind.wrap_i64]; omega

set_option maxHeartbeats 1000000 in
theorem f121 (s t : ByteArray) (w : World) (hs : s.size ≤ maxLen) : Calls Tryz.prog 121 #[.string s, .string t] w fun e w' => e = .returned (.int .i64 (Lib.compareBytes s.data.toList t.data.toList)) ∧ ∃ q, w' = w.drewN q := by
  unfold maxLen at hs
  go_enter Tryz.func121, Tryz.ntmps121
  go_wp2
  go_loopw [5] (fun i wr => ∃ (k q : Nat), k ≤ s.size ∧ k ≤ t.size ∧ i = .int .i64 k ∧ Hid (s.data.toList.take k = t.data.toList.take k) ∧ wr = w.drewN q) (fun i _ => s.size - (intOf i).toNat)
  case atStart => exact ⟨0, 0, Nat.zero_le _, Nat.zero_le _, rfl, by unfold Hid; simp, rfl⟩
  case round =>
    obtain ⟨k, q, hk, hk2, rfl, hp, rfl⟩ := hrel
    by_cases h1 : k < s.size
    · by_cases h2 : k < t.size
      · have i1 : (k : Int) < (s.size : Int) := by omega
        have i2 : (k : Int) < (t.size : Int) := by omega
        have HT := hid (take_str s t k h1 h2 hp.out)
        have HC := hid (cmp_at k s.data.toList t.data.toList (by simpa using h1) (by simpa using h2) hp.out)
        have HG1 := hid (getD_str s k h1)
        have HG2 := hid (getD_str t k h2)
        by_cases h3 : s[k] = t[k]
        · have h3' : ((s[k].toNat : Int) != (t[k].toNat : Int)) = false := by rw [h3]; simp
          have HE := hid h3
          clear h3
          go_wp2
          go_quiet (fail)
          go_wp2
          go_roundw
          case rel => exact ⟨k + 1, _, by omega, by omega, by go_num, HT.out HE.out, rfl⟩
          case measure => simp [intOf]; omega
        · have h3' : ((s[k].toNat : Int) != (t[k].toNat : Int)) = true := by
            simp only [bne_iff_ne, ne_eq]; intro h; exact h3 (UInt8.toNat_inj.1 (by omega))
          have HE : Hid (Lib.compareBytes s.data.toList t.data.toList = numC (s[k].toNat : Int) (t[k].toNat : Int)) := by
            have := HC.out (by rw [HG1.out, HG2.out]; exact h3)
            rw [HG1.out, HG2.out] at this
            exact this
          clear h3
          go_wp2
          go_quiet (fail)
          go_wp2
          go_region_with (go_at_call 151; refine (f151 _ _ _).mono ?_; rintro e w' ⟨rfl, rfl⟩)
          all_goals
            go_wp2
            go_ret
            exact ⟨ret_int (by rw [HE.out, wrapb, wrapb]), _, rfl⟩
      · have HE : Hid (Lib.compareBytes s.data.toList t.data.toList = numC (s.size : Int) (t.size : Int)) := by
          have := cmp_end k _ _ hp.out (.inr (by simp; omega))
          unfold Hid; simpa using this
        go_wp2_with (go_at_call 151; refine (f151 _ _ _).mono ?_; rintro e w' ⟨rfl, rfl⟩)
        go_ret
        exact ⟨ret_int HE.out.symm, _, rfl⟩
    · have HE : Hid (Lib.compareBytes s.data.toList t.data.toList = numC (s.size : Int) (t.size : Int)) := by
        have := cmp_end k _ _ hp.out (.inl (by simp; omega))
        unfold Hid; simpa using this
      go_wp2_with (go_at_call 151; refine (f151 _ _ _).mono ?_; rintro e w' ⟨rfl, rfl⟩)
      go_ret
      exact ⟨ret_int HE.out.symm, _, rfl⟩
end Go.Proofs.YtbdlahhejfamhaaGreatDoor.Str
