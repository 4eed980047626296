/- Bytes and texts: what the small tests of chapter 2 come to. -/
import Derived.Test.YtkjodikccehmkaaGreatRows
import Derived.WalkKit
import Derived.ProofKit
import Derived.Handy
import Derived.BigQuiet
import Derived.Deep.QuietTactic
import Derived.Lib.Bytealg
import Derived.Deep.RegionWith
namespace Go.Proofs.YtkjodikccehmkaaGreat.Str
open Go.RowKit

theorem hid {p : Prop} (h : p) : Hid p := h
theorem ret_bool {a b : Bool} (h : a = b) : Ending.returned (.bool a) = .returned (.bool b) := by rw [h]
theorem ret_int {k : IntKind} {a b : Int} (h : a = b) : Ending.returned (.int k a) = .returned (.int k b) := by rw [h]

def digB (z : Int) : Bool := decide (48 ≤ z ∧ z ≤ 57)
def letB (z : Int) : Bool := decide ((97 ≤ z ∧ z ≤ 122) ∨ (65 ≤ z ∧ z ≤ 90))
def nbB (z : Int) : Bool := letB z || digB z || decide (z = 95)

theorem f56 (z : Int) (w : World) : Calls Tryz.prog 56 #[.int .u8 z] w fun e w' => e = .returned (.bool (digB z)) ∧ w' = w := by
  by_cases h1 : 48 ≤ z
  · by_cases h2 : z ≤ 57
    · go_enter Tryz.func56, Tryz.ntmps56
      go_wp2
      go_ret
      exact ⟨ret_bool (by simp [digB, h1, h2]), rfl⟩
    · go_enter Tryz.func56, Tryz.ntmps56
      go_wp2
      go_ret
      exact ⟨ret_bool (by simp [digB, h2]), rfl⟩
  · go_enter Tryz.func56, Tryz.ntmps56
    go_wp2
    go_ret
    exact ⟨ret_bool (by unfold digB; rw [Bool.eq_iff_iff]; simp; omega), rfl⟩
theorem f70 (z : Int) (w : World) : Calls Tryz.prog 70 #[.int .u8 z] w fun e w' => e = .returned (.bool (digB z)) ∧ w' = w := by
  by_cases h1 : 48 ≤ z
  · by_cases h2 : z ≤ 57
    · go_enter Tryz.func70, Tryz.ntmps70
      go_wp2
      go_ret
      exact ⟨ret_bool (by simp [digB, h1, h2]), rfl⟩
    · go_enter Tryz.func70, Tryz.ntmps70
      go_wp2
      go_ret
      exact ⟨ret_bool (by simp [digB, h2]), rfl⟩
  · go_enter Tryz.func70, Tryz.ntmps70
    go_wp2
    go_ret
    exact ⟨ret_bool (by unfold digB; rw [Bool.eq_iff_iff]; simp; omega), rfl⟩
theorem f57 (z : Int) (w : World) : Calls Tryz.prog 57 #[.int .u8 z] w fun e w' => e = .returned (.bool (letB z)) ∧ w' = w := by
  go_enter Tryz.func57, Tryz.ntmps57
  go_wp2
  all_goals
    go_ret
    exact ⟨ret_bool (by unfold letB; rw [Bool.eq_iff_iff]; simp; omega), rfl⟩
theorem f87 (z : Int) (w : World) : Calls Tryz.prog 87 #[.int .u8 z] w fun e w' => e = .returned (.bool (letB z)) ∧ w' = w := by
  go_enter Tryz.func87, Tryz.ntmps87
  go_wp2
  all_goals
    go_ret
    exact ⟨ret_bool (by unfold letB; rw [Bool.eq_iff_iff]; simp; omega), rfl⟩
theorem f71 (z : Int) (w : World) : Calls Tryz.prog 71 #[.int .u8 z] w fun e w' => e = .returned (.bool (nbB z)) ∧ w' = w := by
  by_cases h1 : letB z = true
  · go_enter Tryz.func71, Tryz.ntmps71
    go_wp2_with (first | (go_at_call 87; refine (f87 _ _).mono ?_; rintro e w' ⟨rfl, rfl⟩) | (go_at_call 70; refine (f70 _ _).mono ?_; rintro e w' ⟨rfl, rfl⟩))
    go_ret
    exact ⟨ret_bool (by simp [nbB, h1]), rfl⟩
  · have h1' : letB z = false := by simpa using h1
    by_cases h2 : digB z = true
    · go_enter Tryz.func71, Tryz.ntmps71
      go_wp2_with (first | (go_at_call 87; refine (f87 _ _).mono ?_; rintro e w' ⟨rfl, rfl⟩) | (go_at_call 70; refine (f70 _ _).mono ?_; rintro e w' ⟨rfl, rfl⟩))
      go_ret
      exact ⟨ret_bool (by simp [nbB, h2]), rfl⟩
    · have h2' : digB z = false := by simpa using h2
      go_enter Tryz.func71, Tryz.ntmps71
      go_wp2_with (first | (go_at_call 87; refine (f87 _ _).mono ?_; rintro e w' ⟨rfl, rfl⟩) | (go_at_call 70; refine (f70 _ _).mono ?_; rintro e w' ⟨rfl, rfl⟩))
      go_ret
      exact ⟨ret_bool (by simp [nbB, h1', h2']; rfl), rfl⟩

def prB (c : UInt8) : Bool := decide (32 ≤ c.toNat ∧ c.toNat ≤ 126)
def nbC (c : UInt8) : Bool := nbB c.toNat
def nameL (l : List UInt8) : Bool := decide (1 ≤ l.length ∧ l.length ≤ 40) && !digB (l.getD 0 0).toNat && l.all nbC
def printL (l : List UInt8) : Bool := l.all prB
def valueL (l : List UInt8) : Bool := decide (1 ≤ l.length ∧ l.length ≤ 100) && printL l

theorem all_take_succ (p : UInt8 → Bool) (s : ByteArray) (k : Nat) (h : k < s.size) : (s.data.toList.take (k + 1)).all p = ((s.data.toList.take k).all p && p s[k]) := by
  rw [List.take_succ_eq_append_getElem (by simpa using h), List.all_append]; simp; rfl
theorem all_false (p : UInt8 → Bool) (s : ByteArray) (k : Nat) (h : k < s.size) (hp : p s[k] = false) : s.data.toList.all p = false := by
  rw [List.all_eq_false]
  refine ⟨s[k], ?_, by simp [hp]⟩
  exact List.getElem_mem (l := s.data.toList) (n := k) (by simpa using h)
theorem take_all (p : UInt8 → Bool) (s : ByteArray) (k : Nat) (h : s.size ≤ k) (hp : (s.data.toList.take k).all p = true) : s.data.toList.all p = true := by
  rwa [List.take_of_length_le (by simpa using h)] at hp
end Go.Proofs.YtkjodikccehmkaaGreat.Str
/- Names and values: what the tests of texts come to. -/
namespace Go.Proofs.YtkjodikccehmkaaGreat.Str
open Go.RowKit

theorem f58 (s : ByteArray) (w : World) (hs : s.size ≤ maxLen) : Calls Tryz.prog 58 #[.string s] w fun e w' => e = .returned (.bool (printL s.data.toList)) ∧ w' = w := by
  unfold maxLen at hs
  go_enter Tryz.func58, Tryz.ntmps58
  go_wp2
  go_loop [3] (fun i => ∃ k : Nat, k ≤ s.size ∧ i = .int .i64 k ∧ Hid ((s.data.toList.take k).all prB = true)) (fun i => s.size - (intOf i).toNat)
  case atStart => exact ⟨0, Nat.zero_le _, rfl, by unfold Hid; simp⟩
  case round =>
    obtain ⟨k, hk, rfl, hp⟩ := hrel
    by_cases hlt : k < s.size
    · have HS := hid (all_take_succ prB s k hlt)
      have HA := hid (all_false prB s k hlt)
      by_cases h1 : (s[k].toNat : Int) < 32
      · go_wp2
        go_ret
        exact ⟨ret_bool (HA.out (by unfold prB; rw [decide_eq_false]; omega)).symm, rfl⟩
      · by_cases h2 : 126 < (s[k].toNat : Int)
        · go_wp2
          go_ret
          exact ⟨ret_bool (HA.out (by unfold prB; rw [decide_eq_false]; omega)).symm, rfl⟩
        · go_wp2
          go_round
          case rel => exact ⟨k + 1, by omega, by go_num, by unfold Hid; rw [HS.out, hp.out, Bool.true_and]; unfold prB; rw [decide_eq_true]; omega⟩
          case measure => simp [intOf]; omega
    · go_wp2
      go_ret
      exact ⟨ret_bool (take_all prB s k (by omega) hp.out).symm, rfl⟩

theorem f72 (s : ByteArray) (w : World) (hs : s.size ≤ maxLen) : Calls Tryz.prog 72 #[.string s] w fun e w' => e = .returned (.bool (printL s.data.toList)) ∧ w' = w := by
  unfold maxLen at hs
  go_enter Tryz.func72, Tryz.ntmps72
  go_wp2
  go_loop [6] (fun i => ∃ k : Nat, k ≤ s.size ∧ i = .int .i64 k ∧ Hid ((s.data.toList.take k).all prB = true)) (fun i => s.size - (intOf i).toNat)
  case atStart => exact ⟨0, Nat.zero_le _, rfl, by unfold Hid; simp⟩
  case round =>
    obtain ⟨k, hk, rfl, hp⟩ := hrel
    by_cases hlt : k < s.size
    · have HS := hid (all_take_succ prB s k hlt)
      have HA := hid (all_false prB s k hlt)
      by_cases h1 : (s[k].toNat : Int) < 32
      · go_wp2
        go_ret
        exact ⟨ret_bool (HA.out (by unfold prB; rw [decide_eq_false]; omega)).symm, rfl⟩
      · by_cases h2 : 126 < (s[k].toNat : Int)
        · go_wp2
          go_ret
          exact ⟨ret_bool (HA.out (by unfold prB; rw [decide_eq_false]; omega)).symm, rfl⟩
        · go_wp2
          go_round
          case rel => exact ⟨k + 1, by omega, by go_num, by unfold Hid; rw [HS.out, hp.out, Bool.true_and]; unfold prB; rw [decide_eq_true]; omega⟩
          case measure => simp [intOf]; omega
    · go_wp2
      go_ret
      exact ⟨ret_bool (take_all prB s k (by omega) hp.out).symm, rfl⟩

theorem f37 (s : ByteArray) (w : World) (hs : s.size ≤ maxLen) : Calls Tryz.prog 37 #[.string s] w fun e w' => e = .returned (.bool (valueL s.data.toList)) ∧ w' = w := by
  have hs' := hs
  unfold maxLen at hs'
  by_cases h1 : 1 ≤ s.size
  · by_cases h2 : s.size ≤ 100
    · go_enter Tryz.func37, Tryz.ntmps37
      go_wp2_with (go_at_call 58; refine (f58 _ _ hs).mono ?_; rintro e w' ⟨rfl, rfl⟩)
      all_goals
        go_ret
        exact ⟨ret_bool (by simp [valueL, h1, h2]), rfl⟩
    · go_enter Tryz.func37, Tryz.ntmps37
      go_wp2_with (go_at_call 58; refine (f58 _ _ hs).mono ?_; rintro e w' ⟨rfl, rfl⟩)
      go_ret
      exact ⟨ret_bool (by simp [valueL]; omega), rfl⟩
  · go_enter Tryz.func37, Tryz.ntmps37
    go_wp2_with (go_at_call 58; refine (f58 _ _ hs).mono ?_; rintro e w' ⟨rfl, rfl⟩)
    go_ret
    exact ⟨ret_bool (by simp [valueL]; omega), rfl⟩

theorem f47 (s : ByteArray) (w : World) (hs : s.size ≤ maxLen) : Calls Tryz.prog 47 #[.string s] w fun e w' => e = .returned (.bool (valueL s.data.toList)) ∧ w' = w := by
  have hs' := hs
  unfold maxLen at hs'
  by_cases h1 : 1 ≤ s.size
  · by_cases h2 : s.size ≤ 100
    · go_enter Tryz.func47, Tryz.ntmps47
      go_wp2_with (go_at_call 72; refine (f72 _ _ hs).mono ?_; rintro e w' ⟨rfl, rfl⟩)
      all_goals
        go_ret
        exact ⟨ret_bool (by simp [valueL, h1, h2]), rfl⟩
    · go_enter Tryz.func47, Tryz.ntmps47
      go_wp2_with (go_at_call 72; refine (f72 _ _ hs).mono ?_; rintro e w' ⟨rfl, rfl⟩)
      go_ret
      exact ⟨ret_bool (by simp [valueL]; omega), rfl⟩
  · go_enter Tryz.func47, Tryz.ntmps47
    go_wp2_with (go_at_call 72; refine (f72 _ _ hs).mono ?_; rintro e w' ⟨rfl, rfl⟩)
    go_ret
    exact ⟨ret_bool (by simp [valueL]; omega), rfl⟩

set_option maxHeartbeats 1000000 in
theorem f36 (s : ByteArray) (w : World) (hs : s.size ≤ maxLen) : Calls Tryz.prog 36 #[.string s] w fun e w' => e = .returned (.bool (nameL s.data.toList)) ∧ w' = w := by
  unfold maxLen at hs
  by_cases g1 : s.size < 1
  · go_enter Tryz.func36, Tryz.ntmps36
    go_wp2
    go_ret
    exact ⟨ret_bool (by simp [nameL]; omega), rfl⟩
  by_cases g2 : 40 < s.size
  · go_enter Tryz.func36, Tryz.ntmps36
    go_wp2
    go_ret
    exact ⟨ret_bool (by simp [nameL]; omega), rfl⟩
  have g3 : 0 < s.size := by omega
  have HZ : Hid (s.data.toList.getD 0 0 = s[0]) := by
    have : 0 < s.data.toList.length := by simpa using g3
    unfold Hid; rw [List.getD_eq_getElem?_getD, List.getElem?_eq_getElem this]; rfl
  by_cases g4 : digB (s[0].toNat : Int) = true
  · go_enter Tryz.func36, Tryz.ntmps36
    go_wp2_with (go_at_call 56; refine (f56 _ _).mono ?_; rintro e w' ⟨rfl, rfl⟩)
    go_ret
    exact ⟨ret_bool (by unfold nameL; rw [HZ.out, g4]; simp), rfl⟩
  have g4' : digB (s[0].toNat : Int) = false := by simpa using g4
  clear g4
  go_enter Tryz.func36, Tryz.ntmps36
  go_wp2_with (go_at_call 56; refine (f56 _ _).mono ?_; rintro e w' ⟨rfl, rfl⟩)
  go_loop [3] (fun i => ∃ k : Nat, k ≤ s.size ∧ i = .int .i64 k ∧ Hid ((s.data.toList.take k).all nbC = true)) (fun i => s.size - (intOf i).toNat)
  case atStart => exact ⟨0, Nat.zero_le _, rfl, by unfold Hid; simp⟩
  case round =>
    obtain ⟨k, hk, rfl, hp⟩ := hrel
    by_cases hlt : k < s.size
    · have HS := hid (all_take_succ nbC s k hlt)
      have HA := hid (all_false nbC s k hlt)
      by_cases h1 : letB (s[k].toNat : Int) = true
      · go_wp2_with (first | (go_at_call 57; refine (f57 _ _).mono ?_; rintro e w' ⟨rfl, rfl⟩) | (go_at_call 56; refine (f56 _ _).mono ?_; rintro e w' ⟨rfl, rfl⟩))
        go_round
        case rel => exact ⟨k + 1, by omega, by go_num, by unfold Hid; rw [HS.out, hp.out]; simp [nbC, nbB, h1]⟩
        case measure => simp [intOf]; omega
      · have h1' : letB (s[k].toNat : Int) = false := by simpa using h1
        by_cases h2 : digB (s[k].toNat : Int) = true
        · go_wp2_with (first | (go_at_call 57; refine (f57 _ _).mono ?_; rintro e w' ⟨rfl, rfl⟩) | (go_at_call 56; refine (f56 _ _).mono ?_; rintro e w' ⟨rfl, rfl⟩))
          go_round
          case rel => exact ⟨k + 1, by omega, by go_num, by unfold Hid; rw [HS.out, hp.out]; simp [nbC, nbB, h2]⟩
          case measure => simp [intOf]; omega
        · have h2' : digB (s[k].toNat : Int) = false := by simpa using h2
          by_cases h3 : (s[k].toNat : Int) = 95
          · have h3' : ((s[k].toNat : Int) != 95) = false := by simp [h3]
            have HN := hid h3
            clear h3
            go_wp2_with (first | (go_at_call 57; refine (f57 _ _).mono ?_; rintro e w' ⟨rfl, rfl⟩) | (go_at_call 56; refine (f56 _ _).mono ?_; rintro e w' ⟨rfl, rfl⟩))
            go_round
            case rel => exact ⟨k + 1, by omega, by go_num, by unfold Hid; rw [HS.out, hp.out, Bool.true_and]; unfold nbC nbB; rw [HN.out]; simp⟩
            case measure => simp [intOf]; omega
          · have h3' : ((s[k].toNat : Int) != 95) = true := by simp [h3]
            have HN := hid h3
            clear h3
            go_wp2_with (first | (go_at_call 57; refine (f57 _ _).mono ?_; rintro e w' ⟨rfl, rfl⟩) | (go_at_call 56; refine (f56 _ _).mono ?_; rintro e w' ⟨rfl, rfl⟩))
            go_ret
            exact ⟨ret_bool (by unfold nameL; rw [HA.out (by unfold nbC nbB; rw [h1', h2']; simpa using HN.out)]; simp), rfl⟩
    · go_wp2
      go_ret
      exact ⟨ret_bool (by unfold nameL; rw [HZ.out, g4', take_all nbC s k (by omega) hp.out]; simp; omega), rfl⟩

set_option maxHeartbeats 1000000 in
theorem f46 (s : ByteArray) (w : World) (hs : s.size ≤ maxLen) : Calls Tryz.prog 46 #[.string s] w fun e w' => e = .returned (.bool (nameL s.data.toList)) ∧ w' = w := by
  unfold maxLen at hs
  by_cases g1 : s.size < 1
  · go_enter Tryz.func46, Tryz.ntmps46
    go_wp2
    go_ret
    exact ⟨ret_bool (by simp [nameL]; omega), rfl⟩
  by_cases g2 : 40 < s.size
  · go_enter Tryz.func46, Tryz.ntmps46
    go_wp2
    go_ret
    exact ⟨ret_bool (by simp [nameL]; omega), rfl⟩
  have g3 : 0 < s.size := by omega
  have HZ : Hid (s.data.toList.getD 0 0 = s[0]) := by
    have : 0 < s.data.toList.length := by simpa using g3
    unfold Hid; rw [List.getD_eq_getElem?_getD, List.getElem?_eq_getElem this]; rfl
  by_cases g4 : digB (s[0].toNat : Int) = true
  · go_enter Tryz.func46, Tryz.ntmps46
    go_wp2_with (go_at_call 70; refine (f70 _ _).mono ?_; rintro e w' ⟨rfl, rfl⟩)
    go_ret
    exact ⟨ret_bool (by unfold nameL; rw [HZ.out, g4]; simp), rfl⟩
  have g4' : digB (s[0].toNat : Int) = false := by simpa using g4
  clear g4
  go_enter Tryz.func46, Tryz.ntmps46
  go_wp2_with (go_at_call 70; refine (f70 _ _).mono ?_; rintro e w' ⟨rfl, rfl⟩)
  go_loop [19] (fun i => ∃ k : Nat, k ≤ s.size ∧ i = .int .i64 k ∧ Hid ((s.data.toList.take k).all nbC = true)) (fun i => s.size - (intOf i).toNat)
  case atStart => exact ⟨0, Nat.zero_le _, rfl, by unfold Hid; simp⟩
  case round =>
    obtain ⟨k, hk, rfl, hp⟩ := hrel
    by_cases hlt : k < s.size
    · have HS := hid (all_take_succ nbC s k hlt)
      have HA := hid (all_false nbC s k hlt)
      by_cases h1 : nbB (s[k].toNat : Int) = true
      · go_wp2_with (go_at_call 71; refine (f71 _ _).mono ?_; rintro e w' ⟨rfl, rfl⟩)
        go_round
        case rel => exact ⟨k + 1, by omega, by go_num, by unfold Hid; rw [HS.out, hp.out]; simp [nbC, h1]⟩
        case measure => simp [intOf]; omega
      · have h1' : nbB (s[k].toNat : Int) = false := by simpa using h1
        go_wp2_with (go_at_call 71; refine (f71 _ _).mono ?_; rintro e w' ⟨rfl, rfl⟩)
        go_ret
        exact ⟨ret_bool (by unfold nameL; rw [HA.out h1']; simp), rfl⟩
    · go_wp2
      go_ret
      exact ⟨ret_bool (by unfold nameL; rw [HZ.out, g4', take_all nbC s k (by omega) hp.out]; simp; omega), rfl⟩
end Go.Proofs.YtkjodikccehmkaaGreat.Str
/- Texts compared: l2CmpNum, l2CmpText, strings.Compare. -/
namespace Go.Proofs.YtkjodikccehmkaaGreat.Str
open Go.RowKit

def numC (x y : Int) : Int := if x < y then -1 else if y < x then 1 else 0
theorem f59 (x y : Int) (w : World) : Calls Tryz.prog 59 #[.int .i64 x, .int .i64 y] w fun e w' => e = .returned (.int .i64 (numC x y)) ∧ w' = w := by
  by_cases h1 : x < y
  · go_enter Tryz.func59, Tryz.ntmps59
    go_wp2
    go_ret
    exact ⟨ret_int (by unfold numC; rw [if_pos h1]), rfl⟩
  · by_cases h2 : y < x
    · go_enter Tryz.func59, Tryz.ntmps59
      go_wp2
      go_ret
      exact ⟨ret_int (by unfold numC; rw [if_neg (by omega), if_pos h2]), rfl⟩
    · go_enter Tryz.func59, Tryz.ntmps59
      go_wp2
      go_ret
      exact ⟨ret_int (by unfold numC; rw [if_neg (by omega), if_neg (by omega)]), rfl⟩

theorem cmp_at : ∀ (k : Nat) (a b : List UInt8), k < a.length → k < b.length → a.take k = b.take k → a.getD k 0 ≠ b.getD k 0 → Lib.compareBytes a b = numC (a.getD k 0).toNat (b.getD k 0).toNat := by
  intro k
  induction k with
  | zero =>
    intro a b ha hb _ hne
    match a, b, ha, hb with
    | x :: a, y :: b, _, _ =>
      simp only [List.getD_cons_zero] at hne ⊢
      unfold Lib.compareBytes numC
      by_cases h1 : x < y
      · rw [if_pos h1, if_pos (by have := UInt8.lt_iff_toNat_lt.1 h1; omega)]
      · by_cases h2 : y < x
        · rw [if_neg h1, if_pos h2, if_neg (by have := UInt8.lt_iff_toNat_lt.1 h2; omega), if_pos (by have := UInt8.lt_iff_toNat_lt.1 h2; omega)]
        · exfalso
          rw [UInt8.lt_iff_toNat_lt] at h1 h2
          exact hne (UInt8.toNat_inj.1 (by omega))
  | succ k ih =>
    intro a b ha hb he hne
    match a, b, ha, hb with
    | x :: a, y :: b, ha, hb =>
      simp only [List.take_succ_cons, List.cons.injEq] at he
      obtain ⟨rfl, he⟩ := he
      simp only [List.getD_cons_succ] at hne ⊢
      rw [← ih a b (by simpa using ha) (by simpa using hb) he hne]
      conv => lhs; unfold Lib.compareBytes
      simp
theorem cmp_end : ∀ (k : Nat) (a b : List UInt8), a.take k = b.take k → (a.length ≤ k ∨ b.length ≤ k) → Lib.compareBytes a b = numC a.length b.length := by
  intro k
  induction k with
  | zero =>
    intro a b _ h
    cases a with
    | nil =>
      cases b with
      | nil => rfl
      | cons y b => unfold Lib.compareBytes numC; rw [if_pos (by simp)]
    | cons x a =>
      cases b with
      | nil => unfold Lib.compareBytes numC; rw [if_neg (by simp; omega), if_pos (by simp)]
      | cons y b => simp at h
  | succ k ih =>
    intro a b he h
    cases a with
    | nil =>
      cases b with
      | nil => rfl
      | cons y b => simp at he
    | cons x a =>
      cases b with
      | nil => simp at he
      | cons y b =>
        simp only [List.take_succ_cons, List.cons.injEq] at he
        obtain ⟨rfl, he⟩ := he
        have e := ih a b he (by simpa using h)
        have e2 : numC ((x :: a).length : Nat) ((x :: b).length : Nat) = numC a.length b.length := by
          unfold numC; simp
        rw [e2, ← e]
        conv => lhs; unfold Lib.compareBytes
        simp

theorem getD_str (s : ByteArray) (k : Nat) (h : k < s.size) : s.data.toList.getD k 0 = s[k] := by
  have : k < s.data.toList.length := by simpa using h
  rw [List.getD_eq_getElem?_getD, List.getElem?_eq_getElem this]; rfl
theorem take_str (s t : ByteArray) (k : Nat) (hs : k < s.size) (ht : k < t.size) (h : s.data.toList.take k = t.data.toList.take k) (he : s[k] = t[k]) : s.data.toList.take (k + 1) = t.data.toList.take (k + 1) := by
  rw [List.take_succ_eq_append_getElem (by simpa using hs), List.take_succ_eq_append_getElem (by simpa using ht), h]
  congr 1
  have : s.data.toList[k]'(by simpa using hs) = t.data.toList[k]'(by simpa using ht) := he
  rw [this]

set_option maxRecDepth 100000 in
theorem f88 (a b : ByteArray) (w : World) : Calls Tryz.prog 88 #[.string a, .string b] w fun e w' => e = .returned (.int .i64 (Lib.compareBytes a.data.toList b.data.toList)) ∧ w' = w := by
  go_enter Tryz.func88, Tryz.ntmps88
  go_wp2
  rw [run_callFunc_extern Tryz.func97 (by kernel_rfl) (by kernel_rfl) (by kernel_rfl) (e := Extern.BytealgCompare.compare) (by kernel_rfl), Lib.run_compareString]
  simp only [Result.andThen]
  rw [Oper.upon_value]
  go_wp2
  go_ret
  exact ⟨rfl, rfl⟩
theorem f73 (a b : ByteArray) (w : World) : Calls Tryz.prog 73 #[.string a, .string b] w fun e w' => e = .returned (.int .i64 (Lib.compareBytes a.data.toList b.data.toList)) ∧ w' = w := by
  go_enter Tryz.func73, Tryz.ntmps73
  go_wp2_with (go_at_call 88; refine (f88 _ _ _).mono ?_; rintro e w' ⟨rfl, rfl⟩)
  go_ret
  exact ⟨rfl, rfl⟩

theorem wrapb (c : UInt8) : IntKind.i64.wrap (c.toNat : Int) = c.toNat := by
  have := c.toNat_lt
  rw [IntKind.wrap_i64]; omega

set_option maxHeartbeats 1000000 in
theorem f38 (s t : ByteArray) (w : World) (hs : s.size ≤ maxLen) : Calls Tryz.prog 38 #[.string s, .string t] w fun e w' => e = .returned (.int .i64 (Lib.compareBytes s.data.toList t.data.toList)) ∧ ∃ q, w' = w.drewN q := by
  unfold maxLen at hs
  go_enter Tryz.func38, Tryz.ntmps38
  go_wp2
  go_loopw [5] (fun i wr => ∃ (k q : Nat), k ≤ s.size ∧ k ≤ t.size ∧ i = .int .i64 k ∧ Hid (s.data.toList.take k = t.data.toList.take k) ∧ wr = w.drewN q) (fun i _ => s.size - (intOf i).toNat)
  case atStart => exact ⟨0, 0, Nat.zero_le _, Nat.zero_le _, rfl, by unfold Hid; simp, rfl⟩
  case round =>
    obtain ⟨k, q, hk, hk2, rfl, hp, rfl⟩ := hrel
    by_cases h1 : k < s.size
    · by_cases h2 : k < t.size
      · have i1 : (k : Int) < (s.size : Int) := by omega
        have i2 : (k : Int) < (t.size : Int) := by omega
        have HT := hid (take_str s t k h1 h2 hp.out)
        have HC := hid (cmp_at k s.data.toList t.data.toList (by simpa using h1) (by simpa using h2) hp.out)
        have HG1 := hid (getD_str s k h1)
        have HG2 := hid (getD_str t k h2)
        by_cases h3 : s[k] = t[k]
        · have h3' : ((s[k].toNat : Int) != (t[k].toNat : Int)) = false := by rw [h3]; simp
          have HE := hid h3
          clear h3
          go_wp2
          go_quiet (fail)
          go_wp2
          go_roundw
          case rel => exact ⟨k + 1, _, by omega, by omega, by go_num, HT.out HE.out, rfl⟩
          case measure => simp [intOf]; omega
        · have h3' : ((s[k].toNat : Int) != (t[k].toNat : Int)) = true := by
            simp only [bne_iff_ne, ne_eq]; intro h; exact h3 (UInt8.toNat_inj.1 (by omega))
          have HE : Hid (Lib.compareBytes s.data.toList t.data.toList = numC (s[k].toNat : Int) (t[k].toNat : Int)) := by
            have := HC.out (by rw [HG1.out, HG2.out]; exact h3)
            rw [HG1.out, HG2.out] at this
            exact this
          clear h3
          go_wp2
          go_quiet (fail)
          go_wp2
          go_region_with (go_at_call 59; refine (f59 _ _ _).mono ?_; rintro e w' ⟨rfl, rfl⟩)
          all_goals
            go_wp2
            go_ret
            exact ⟨ret_int (by rw [HE.out, wrapb, wrapb]), _, rfl⟩
      · have HE : Hid (Lib.compareBytes s.data.toList t.data.toList = numC (s.size : Int) (t.size : Int)) := by
          have := cmp_end k _ _ hp.out (.inr (by simp; omega))
          unfold Hid; simpa using this
        go_wp2_with (go_at_call 59; refine (f59 _ _ _).mono ?_; rintro e w' ⟨rfl, rfl⟩)
        go_ret
        exact ⟨ret_int HE.out.symm, _, rfl⟩
    · have HE : Hid (Lib.compareBytes s.data.toList t.data.toList = numC (s.size : Int) (t.size : Int)) := by
        have := cmp_end k _ _ hp.out (.inl (by simp; omega))
        unfold Hid; simpa using this
      go_wp2_with (go_at_call 59; refine (f59 _ _ _).mono ?_; rintro e w' ⟨rfl, rfl⟩)
      go_ret
      exact ⟨ret_int HE.out.symm, _, rfl⟩
end Go.Proofs.YtkjodikccehmkaaGreat.Str
/- Lists of labels: what szLabelS, toLabelS and eqLabelS come to. -/
namespace Go.Proofs.YtkjodikccehmkaaGreat.Lab
open Go.RowKit Go.Proofs.YtkjodikccehmkaaGreat.Str

abbrev Lb := ByteArray × ByteArray
def e0 : Lb := (ByteArray.empty, ByteArray.empty)

/-- The slice that begins at 'a' holds the labels 'ls' in the world 'w'. -/
def HasL (w : World) (a : Option Addr) (ls : List Lb) : Prop :=
  ls = [] ∨ ∃ b off, a = some ⟨b, off, none⟩ ∧ b < w.heap.size ∧ ∀ i, i < ls.length → w.cell? ⟨b, off + i * 2, none⟩ = some (.string (ls.getD i e0).1) ∧ w.cell? ⟨b, off + i * 2 + 1, none⟩ = some (.string (ls.getD i e0).2)

theorem HasL.below {w w' : World} {a : Option Addr} {ls : List Lb} (h : HasL w a ls) (hb : Below w.heap.size w w') : HasL w' a ls := by
  rcases h with h | ⟨b, off, h1, h2, h3⟩
  · exact .inl h
  · exact .inr ⟨b, off, h1, Nat.lt_of_lt_of_le h2 hb.size, fun i hi => ⟨(hb.cell (by exact h2)).trans (h3 i hi).1, (hb.cell (by exact h2)).trans (h3 i hi).2⟩⟩
theorem HasL.alloc {w : World} {a : Option Addr} {ls : List Lb} (h : HasL w a ls) (o : Obj) : HasL (w.alloc o) a ls := h.below ((Below.refl _ _).alloc (Nat.le_refl _) o)

/-- All texts are such as a machine can hold. -/
def Fit (ls : List Lb) : Prop := ∀ i, (ls.getD i e0).1.size ≤ maxLen ∧ (ls.getD i e0).2.size ≤ maxLen

theorem f18 (s t : ByteArray) (x : Int) (w : World) (hs : s.size ≤ maxLen) (ht : t.size ≤ maxLen) (hx0 : 0 ≤ x) (hx1 : x ≤ 1048576) :
    Calls Tryz.prog 18 #[.agg #[.string s, .string t], .int .i64 x] w fun e w' => ∃ y : Int, e = .returned (.int .i64 y) ∧ -1 ≤ y ∧ y ≤ 1048576 ∧ Below w.heap.size w w' := by
  unfold maxLen at hs ht
  have hb := (Below.refl w.heap.size w).alloc (Nat.le_refl _) (.cells #[.string s, .string t] 46)
  have HB := hid hb
  clear hb
  by_cases h1 : x < s.size
  · go_enter Tryz.func18, Tryz.ntmps18
    go_wp2
    go_ret
    exact ⟨-1, rfl, by omega, by omega, HB.out⟩
  · by_cases h2 : x < s.size + t.size
    · go_enter Tryz.func18, Tryz.ntmps18
      go_wp2
      go_ret
      exact ⟨-1, rfl, by omega, by omega, HB.out⟩
    · go_enter Tryz.func18, Tryz.ntmps18
      go_wp2
      go_ret
      exact ⟨_, rfl, by omega, by omega, HB.out⟩

set_option maxHeartbeats 1000000 in
theorem f5 (a : Option Addr) (n c : Nat) (ls : List Lb) (w : World) (hn : ls.length = n) (hr : HasL w a ls) (hf : Fit ls) (hmax : n ≤ maxLen) :
    Calls Tryz.prog 5 #[.slice a n c, .int .i64 1048576] w fun e w' => ∃ y : Int, e = .returned (.int .i64 y) ∧ (0 ≤ y → n ≤ 1048576) ∧ -1 ≤ y ∧ y ≤ 1048576 ∧ Below w.heap.size w w' := by
  unfold maxLen at hmax
  by_cases hbig : n ≤ 1048576
  · have HN := hid hn
    clear hn
    go_enter Tryz.func5, Tryz.ntmps5
    go_wp2
    go_loopw [1, 5] (fun sx i wr => ∃ (k : Nat) (x : Int), k ≤ n ∧ i = .int .i64 k ∧ sx = .int .i64 x ∧ 0 ≤ x ∧ x ≤ 1048576 ∧ Below w.heap.size w wr) (fun _ i _ => n - (intOf i).toNat)
    case atStart => exact ⟨0, _, Nat.zero_le _, rfl, rfl, by omega, by omega, Below.refl _ _⟩
    case round =>
      obtain ⟨k, x, hk, rfl, rfl, hx0, hx1, hb⟩ := hrel
      have HB := hid hb
      by_cases hlt : k < n
      · rcases hr with h | ⟨b, off, rfl, h2, h3⟩
        · exfalso; rw [h] at HN; have := HN.out; simp at this; omega
        obtain ⟨c0, c1⟩ := h3 k (by rw [HN.out]; exact hlt)
        obtain ⟨g0, g1⟩ := hf k
        have d0 := (hb.cell (p := ⟨b, off + k * 2, none⟩) h2).trans c0
        have d1 := (hb.cell (p := ⟨b, off + k * 2 + 1, none⟩) h2).trans c1
        clear h3 c0 c1 hb
        generalize (ls.getD k e0).1 = s at *
        generalize (ls.getD k e0).2 = t at *
        go_wp2_with fail
        refine (f18 s t x _ g0 g1 hx0 hx1).mono ?_
        rintro e w2 ⟨y, rfl, y0, y1, hb2⟩
        have HB2 := hid (HB.out.trans (hb2.mono HB.out.size))
        clear hb2 d0 d1
        by_cases hy : y < 0
        · go_wp2
          go_ret
          exact ⟨-1, rfl, fun h => absurd h (by omega), by omega, by omega, HB2.out⟩
        · go_wp2
          go_roundw
          case rel => exact ⟨k + 1, y, by omega, by go_num, rfl, by omega, y1, HB2.out⟩
          case measure => simp [intOf]; omega
      · go_wp2
        go_ret
        exact ⟨x, rfl, fun _ => hbig, by omega, hx1, HB.out⟩
  · go_enter Tryz.func5, Tryz.ntmps5
    go_wp2
    go_ret
    exact ⟨-1, rfl, by omega, by omega, by omega, Below.refl _ _⟩

set_option maxHeartbeats 1000000 in
theorem f23 (s t : ByteArray) (w : World) : Calls Tryz.prog 23 #[.agg #[.string s, .string t]] w fun e w' => e = .returned (.agg #[.string s, .string t]) ∧ Below w.heap.size w w' := by
  go_enter Tryz.func23, Tryz.ntmps23
  go_wp2
  refine bodyPost_ret (v := .agg #[.string s, .string t]) (by simp [results, Tryz.results23, go_sem]) rfl ⟨rfl, ?_⟩
  exact (((Below.refl w.heap.size w).alloc (Nat.le_refl _) _).alloc (by simp) _).alloc (by simp; omega) _

/-- The cells of a row of labels. -/
def flat (L : List Lb) : List Value := L.flatMap fun p => [.string p.1, .string p.2]
theorem flat_nil : flat [] = [] := rfl
theorem flat_cons (p : Lb) (L : List Lb) : flat (p :: L) = .string p.1 :: .string p.2 :: flat L := rfl
theorem flat_len (L : List Lb) : (flat L).length = L.length * 2 := by
  induction L with
  | nil => rfl
  | cons p L ih => rw [flat_cons]; simp [ih]; omega
theorem flat_get : ∀ (L : List Lb) (i : Nat), i < L.length → (flat L)[i * 2]? = some (.string (L.getD i e0).1) ∧ (flat L)[i * 2 + 1]? = some (.string (L.getD i e0).2) := by
  intro L
  induction L with
  | nil => intro i h; simp at h
  | cons p L ih =>
    intro i h
    cases i with
    | zero => exact ⟨rfl, rfl⟩
    | succ i =>
      have := ih i (by simpa using h)
      rw [flat_cons, show (i + 1) * 2 = i * 2 + 1 + 1 from by omega, show i * 2 + 1 + 1 + 1 = (i * 2 + 1) + 1 + 1 from rfl]
      simpa using this
theorem flat_set : ∀ (L : List Lb) (i : Nat) (s t : ByteArray), i < L.length → ((flat L).set (i * 2) (.string s)).set (i * 2 + 1) (.string t) = flat (L.set i (s, t)) := by
  intro L
  induction L with
  | nil => intro i s t h; simp at h
  | cons p L ih =>
    intro i s t h
    cases i with
    | zero => rfl
    | succ i =>
      have := ih i s t (by simpa using h)
      rw [List.set_cons_succ, flat_cons, flat_cons, ← this, show (i + 1) * 2 = i * 2 + 1 + 1 from by omega, show i * 2 + 1 + 1 + 1 = (i * 2 + 1) + 1 + 1 from rfl]
      rfl
theorem made_two (n : Nat) : (madeCells #[.string ByteArray.empty, .string ByteArray.empty] (n * 2)).toList = flat (List.replicate n e0) := by
  apply List.ext_getElem?
  intro j
  by_cases hj : j < n * 2
  · have e1 : (madeCells #[.string ByteArray.empty, .string ByteArray.empty] (n * 2)).toList[j]? = some (.string ByteArray.empty) := by
      have h2 : j % 2 = 0 ∨ j % 2 = 1 := by omega
      unfold madeCells
      simp [hj]
      rcases h2 with h | h <;> rw [h] <;> rfl
    rw [e1]
    obtain ⟨g0, g1⟩ := flat_get (List.replicate n e0) (j / 2) (by simp; omega)
    have h2 : (List.replicate n e0).getD (j / 2) e0 = e0 := by
      rw [List.getD_eq_getElem?_getD, List.getElem?_replicate]; split <;> rfl
    rw [h2] at g0 g1
    rcases (show j = j / 2 * 2 ∨ j = j / 2 * 2 + 1 by omega) with h | h
    · rw [h]; exact g0.symm
    · rw [h]; exact g1.symm
  · rw [List.getElem?_eq_none (by simp [size_madeCells]; omega), List.getElem?_eq_none (by rw [flat_len]; simp; omega)]

theorem own_below {w w' : World} {base e size n : Nat} {v : Value} {xs : List Value} (h : w.ownsRow base e size v n xs) (hb : Below w.heap.size w w') : w'.ownsRow base e size v n xs :=
  h.kept (row := none) ⟨hb.os, hb.tape, hb.output, hb.size, fun k hk _ => hb.block k hk⟩ (by cases hv : v.ownBlock <;> simp)
theorem HasL.own {w : World} {base g n c : Nat} {ls : List Lb} (h : w.ownsRow base 54 2 (.slice (some ⟨g, 0, none⟩) n c) n (flat ls)) : HasL w (some ⟨g, 0, none⟩) ls := by
  have hl := h.1
  rw [flat_len] at hl
  refine .inr ⟨g, 0, rfl, (h.lt g rfl).2, fun i hi => ?_⟩
  obtain ⟨h0, h1⟩ := flat_get ls i hi
  rw [Nat.zero_add]
  exact ⟨(h.cellAt (i * 2) (by omega)).trans h0, (h.cellAt (i * 2 + 1) (by omega)).trans h1⟩

theorem info50 : (Tryz.prog.info? 54).map (fun i => (i.zero, i.size, i.bytes)) = some (some (.agg #[.string ByteArray.empty, .string ByteArray.empty]), 2, 32) := by kernel_rfl

theorem step_set (ls : List Lb) (n k : Nat) (hn : ls.length = n) (hk : k < n) : (ls.take k ++ List.replicate (n - k) e0).set k (ls.getD k e0) = ls.take (k + 1) ++ List.replicate (n - (k + 1)) e0 := by
  have hl : (ls.take k).length = k := by simp; omega
  rw [List.set_append_right _ _ (by omega), hl, Nat.sub_self, show n - k = (n - (k + 1)) + 1 from by omega, List.replicate_succ, List.set_cons_zero, List.take_succ_eq_append_getElem (by omega), List.append_assoc]
  congr 2
  simp [hn, hk]
theorem step_len (ls : List Lb) (n k : Nat) (hn : ls.length = n) (hk : k ≤ n) : (ls.take k ++ List.replicate (n - k) e0).length = n := by simp; omega

set_option maxHeartbeats 1000000 in
theorem f8 (a : Option Addr) (n c : Nat) (ls : List Lb) (w : World) (hn : ls.length = n) (hb : n ≤ 1048576) (hr : HasL w a ls) :
    Calls Tryz.prog 8 #[.slice a n c] w fun e w' => e = .returned (.slice (some ⟨w.heap.size, 0, none⟩) n n) ∧
      w'.ownsRow w.heap.size 54 2 (.slice (some ⟨w.heap.size, 0, none⟩) n n) n (flat ls) ∧ Below w.heap.size w w' := by
  obtain ⟨i0, hi, hz0, hz1, hz2⟩ := info_parts info50
  have HN : Hid (ls.length = n) := hn
  clear hn
  go_enter Tryz.func8, Tryz.ntmps8
  go_wp2_with (at_make; refine wpList_make_full _ rfl _ _ 30 rfl w.heap.size 54 i0 (.agg #[.string ByteArray.empty, .string ByteArray.empty]) 2 Tryz.underlying30 hi hz0 hz1 _ _ _ _ n rfl rfl rfl rfl ?b2 ?b3 (Nat.le_refl _) ?_)
  case b2 => rw [hz2]; omega
  case b3 => unfold maxLen; omega
  intro w0 hown0 hgrow0
  have hown1 : Hid (w0.ownsRow w.heap.size 54 2 (.slice (some ⟨w.heap.size, 0, none⟩) n n) n (flat (List.replicate n e0))) := by
    rw [← made_two]; exact hown0
  have hb0 := hid ((Below.refl w.heap.size w).grown hgrow0 (Nat.le_refl _) (fun k h => by cases h))
  clear hown0 hgrow0
  go_wp2
  go_loopw [4] (fun i wr => ∃ k : Nat, k ≤ n ∧ i = .int .i64 k ∧ wr.ownsRow w.heap.size 54 2 (.slice (some ⟨w.heap.size, 0, none⟩) n n) n (flat (ls.take k ++ List.replicate (n - k) e0)) ∧ Below w.heap.size w wr)
    (fun i _ => n - (intOf i).toNat)
  case atStart => exact ⟨0, Nat.zero_le _, rfl, by simpa using hown1.out, hb0.out⟩
  case round =>
    obtain ⟨k, hk, rfl, hown, hnx⟩ := hrel
    by_cases hlt : k < n
    · rcases hr with hr | ⟨b, off, rfl, hbl, hc⟩
      · exact absurd HN.out (by rw [hr]; simp; omega)
      · obtain ⟨c0, c1⟩ := hc k (by rw [HN.out]; exact hlt)
        have d0 := (hnx.cell (p := ⟨b, off + k * 2, none⟩) hbl).trans c0
        have d1 := (hnx.cell (p := ⟨b, off + k * 2 + 1, none⟩) hbl).trans c1
        have HO := hid hown
        have HX := hid hnx
        have HST := hid (step_set ls n k HN.out hlt)
        have HSL := hid (step_len ls n k HN.out hk)
        clear hc c0 c1 hown hnx hown1 hb0
        generalize hp : ls.getD k e0 = p at *
        obtain ⟨s, t⟩ := p
        clear hp
        go_wp2_with fail
        refine (f23 s t _).mono ?_
        rintro e w2 ⟨rfl, hb2⟩
        have HO2 := hid (own_below HO.out hb2)
        have HX2 := hid (HX.out.trans (hb2.mono HX.out.size))
        have f0 := HO2.out.frozenAt (k * 2)
        have f1 := HO2.out.frozenAt (k * 2 + 1)
        have e0' := HO2.out.cellAt (k * 2) (by omega)
        have e1' := HO2.out.cellAt (k * 2 + 1) (by omega)
        obtain ⟨y0, y1⟩ := flat_get _ k (by rw [HSL.out]; exact hlt)
        rw [y0] at e0'
        rw [y1] at e1'
        have HS2 := hid (((HO2.out.stored (k * 2) (.string s)).1.stored (k * 2 + 1) (.string t)).1)
        clear hb2 y0 y1
        go_wp2
        go_roundw
        case rel =>
          refine ⟨k + 1, by omega, by go_num, ?_, (HX2.out.setCell (Nat.le_refl _) _).setCell (Nat.le_refl _) _⟩
          have := HS2.out
          rw [flat_set _ k s t (by rw [HSL.out]; exact hlt), HST.out] at this
          exact this
        case measure => simp [intOf]; omega
    · go_wp2
      go_ret
      have : k = n := by omega
      subst this
      refine ⟨rfl, ?_, hnx⟩
      have e := HN.out
      simpa [← e] using hown

theorem f28 (s t : ByteArray) (w : World) : Calls Tryz.prog 28 #[.agg #[.string s, .string t], .agg #[.string s, .string t]] w fun e w' => e = .returned (.bool true) ∧ Below w.heap.size w w' := by
  have hb := hid (((Below.refl w.heap.size w).alloc (Nat.le_refl _) (.cells #[.string s, .string t] 54)).alloc (by simp) (.cells #[.string s, .string t] 54))
  go_enter Tryz.func28, Tryz.ntmps28
  go_wp2
  go_ret
  exact ⟨rfl, hb.out⟩
end Go.Proofs.YtkjodikccehmkaaGreat.Lab
