/- Names, in this cut. -/
import Derived.Test.YtpeffjkagaegjaaDoorPat
namespace Go.Proofs.YtpeffjkagaegjaaDoor.Pat
open Go.RowKit

def digB (z : Int) : Bool := decide (48 ≤ z ∧ z ≤ 57)
def letB (z : Int) : Bool := decide ((97 ≤ z ∧ z ≤ 122) ∨ (65 ≤ z ∧ z ≤ 90))
def nbB (z : Int) : Bool := letB z || digB z || decide (z = 95)

theorem f35 (z : Int) (w : World) : Calls Tryd.prog 35 #[.int .u8 z] w fun e w' => e = .returned (.bool (digB z)) ∧ w' = w := by
  by_cases h1 : 48 ≤ z
  · by_cases h2 : z ≤ 57
    · go_enter Tryd.func35, Tryd.ntmps35
      go_wp2
      go_ret
      exact ⟨ret_bool (by simp [digB, h1, h2]), rfl⟩
    · go_enter Tryd.func35, Tryd.ntmps35
      go_wp2
      go_ret
      exact ⟨ret_bool (by simp [digB, h2]), rfl⟩
  · go_enter Tryd.func35, Tryd.ntmps35
    go_wp2
    go_ret
    exact ⟨ret_bool (by unfold digB; rw [Bool.eq_iff_iff]; simp; omega), rfl⟩
theorem f40 (z : Int) (w : World) : Calls Tryd.prog 40 #[.int .u8 z] w fun e w' => e = .returned (.bool (digB z)) ∧ w' = w := by
  by_cases h1 : 48 ≤ z
  · by_cases h2 : z ≤ 57
    · go_enter Tryd.func40, Tryd.ntmps40
      go_wp2
      go_ret
      exact ⟨ret_bool (by simp [digB, h1, h2]), rfl⟩
    · go_enter Tryd.func40, Tryd.ntmps40
      go_wp2
      go_ret
      exact ⟨ret_bool (by simp [digB, h2]), rfl⟩
  · go_enter Tryd.func40, Tryd.ntmps40
    go_wp2
    go_ret
    exact ⟨ret_bool (by unfold digB; rw [Bool.eq_iff_iff]; simp; omega), rfl⟩
theorem f36 (z : Int) (w : World) : Calls Tryd.prog 36 #[.int .u8 z] w fun e w' => e = .returned (.bool (letB z)) ∧ w' = w := by
  go_enter Tryd.func36, Tryd.ntmps36
  go_wp2
  all_goals
    go_ret
    exact ⟨ret_bool (by unfold letB; rw [Bool.eq_iff_iff]; simp; omega), rfl⟩
theorem f47 (z : Int) (w : World) : Calls Tryd.prog 47 #[.int .u8 z] w fun e w' => e = .returned (.bool (letB z)) ∧ w' = w := by
  go_enter Tryd.func47, Tryd.ntmps47
  go_wp2
  all_goals
    go_ret
    exact ⟨ret_bool (by unfold letB; rw [Bool.eq_iff_iff]; simp; omega), rfl⟩
theorem f41 (z : Int) (w : World) : Calls Tryd.prog 41 #[.int .u8 z] w fun e w' => e = .returned (.bool (nbB z)) ∧ w' = w := by
  by_cases h1 : letB z = true
  · go_enter Tryd.func41, Tryd.ntmps41
    go_wp2_with (first | (go_at_call 47; refine (f47 _ _).mono ?_; rintro e w' ⟨rfl, rfl⟩) | (go_at_call 40; refine (f40 _ _).mono ?_; rintro e w' ⟨rfl, rfl⟩))
    go_ret
    exact ⟨ret_bool (by simp [nbB, h1]), rfl⟩
  · have h1' : letB z = false := by simpa using h1
    by_cases h2 : digB z = true
    · go_enter Tryd.func41, Tryd.ntmps41
      go_wp2_with (first | (go_at_call 47; refine (f47 _ _).mono ?_; rintro e w' ⟨rfl, rfl⟩) | (go_at_call 40; refine (f40 _ _).mono ?_; rintro e w' ⟨rfl, rfl⟩))
      go_ret
      exact ⟨ret_bool (by simp [nbB, h2]), rfl⟩
    · have h2' : digB z = false := by simpa using h2
      go_enter Tryd.func41, Tryd.ntmps41
      go_wp2_with (first | (go_at_call 47; refine (f47 _ _).mono ?_; rintro e w' ⟨rfl, rfl⟩) | (go_at_call 40; refine (f40 _ _).mono ?_; rintro e w' ⟨rfl, rfl⟩))
      go_ret
      exact ⟨ret_bool (by simp [nbB, h1', h2']; rfl), rfl⟩

def nbC (c : UInt8) : Bool := nbB c.toNat
def nameL (l : List UInt8) : Bool := decide (1 ≤ l.length ∧ l.length ≤ 40) && !digB (l.getD 0 0).toNat && l.all nbC
set_option maxHeartbeats 1000000 in
theorem f19 (s : ByteArray) (w : World) (hs : s.size ≤ maxLen) : Calls Tryd.prog 19 #[.string s] w fun e w' => e = .returned (.bool (nameL s.data.toList)) ∧ w' = w := by
  unfold maxLen at hs
  by_cases g1 : s.size < 1
  · go_enter Tryd.func19, Tryd.ntmps19
    go_wp2
    go_ret
    exact ⟨ret_bool (by simp [nameL]; omega), rfl⟩
  by_cases g2 : 40 < s.size
  · go_enter Tryd.func19, Tryd.ntmps19
    go_wp2
    go_ret
    exact ⟨ret_bool (by simp [nameL]; omega), rfl⟩
  have g3 : 0 < s.size := by omega
  have HZ : Hid (s.data.toList.getD 0 0 = s[0]) := by
    have : 0 < s.data.toList.length := by simpa using g3
    unfold Hid; rw [List.getD_eq_getElem?_getD, List.getElem?_eq_getElem this]; rfl
  by_cases g4 : digB (s[0].toNat : Int) = true
  · go_enter Tryd.func19, Tryd.ntmps19
    go_wp2_with (go_at_call 35; refine (f35 _ _).mono ?_; rintro e w' ⟨rfl, rfl⟩)
    go_ret
    exact ⟨ret_bool (by unfold nameL; rw [HZ.out, g4]; simp), rfl⟩
  have g4' : digB (s[0].toNat : Int) = false := by simpa using g4
  clear g4
  go_enter Tryd.func19, Tryd.ntmps19
  go_wp2_with (go_at_call 35; refine (f35 _ _).mono ?_; rintro e w' ⟨rfl, rfl⟩)
  go_loop [3] (fun i => ∃ k : Nat, k ≤ s.size ∧ i = .int .i64 k ∧ Hid ((s.data.toList.take k).all nbC = true)) (fun i => s.size - (intOf i).toNat)
  case atStart => exact ⟨0, Nat.zero_le _, rfl, by unfold Hid; simp⟩
  case round =>
    obtain ⟨k, hk, rfl, hp⟩ := hrel
    by_cases hlt : k < s.size
    · have HS := hid (all_take_succ nbC s k hlt)
      have HA := hid (all_false nbC s k hlt)
      by_cases h1 : letB (s[k].toNat : Int) = true
      · go_wp2_with (first | (go_at_call 36; refine (f36 _ _).mono ?_; rintro e w' ⟨rfl, rfl⟩) | (go_at_call 35; refine (f35 _ _).mono ?_; rintro e w' ⟨rfl, rfl⟩))
        go_round
        case rel => exact ⟨k + 1, by omega, by go_num, by unfold Hid; rw [HS.out, hp.out]; simp [nbC, nbB, h1]⟩
        case measure => simp [intOf]; omega
      · have h1' : letB (s[k].toNat : Int) = false := by simpa using h1
        by_cases h2 : digB (s[k].toNat : Int) = true
        · go_wp2_with (first | (go_at_call 36; refine (f36 _ _).mono ?_; rintro e w' ⟨rfl, rfl⟩) | (go_at_call 35; refine (f35 _ _).mono ?_; rintro e w' ⟨rfl, rfl⟩))
          go_round
          case rel => exact ⟨k + 1, by omega, by go_num, by unfold Hid; rw [HS.out, hp.out]; simp [nbC, nbB, h2]⟩
          case measure => simp [intOf]; omega
        · have h2' : digB (s[k].toNat : Int) = false := by simpa using h2
          by_cases h3 : (s[k].toNat : Int) = 95
          · have h3' : ((s[k].toNat : Int) != 95) = false := by simp [h3]
            have HN := hid h3
            clear h3
            go_wp2_with (first | (go_at_call 36; refine (f36 _ _).mono ?_; rintro e w' ⟨rfl, rfl⟩) | (go_at_call 35; refine (f35 _ _).mono ?_; rintro e w' ⟨rfl, rfl⟩))
            go_round
            case rel => exact ⟨k + 1, by omega, by go_num, by unfold Hid; rw [HS.out, hp.out, Bool.true_and]; unfold nbC nbB; rw [HN.out]; simp⟩
            case measure => simp [intOf]; omega
          · have h3' : ((s[k].toNat : Int) != 95) = true := by simp [h3]
            have HN := hid h3
            clear h3
            go_wp2_with (first | (go_at_call 36; refine (f36 _ _).mono ?_; rintro e w' ⟨rfl, rfl⟩) | (go_at_call 35; refine (f35 _ _).mono ?_; rintro e w' ⟨rfl, rfl⟩))
            go_ret
            exact ⟨ret_bool (by unfold nameL; rw [HA.out (by unfold nbC nbB; rw [h1', h2']; simpa using HN.out)]; simp), rfl⟩
    · go_wp2
      go_ret
      exact ⟨ret_bool (by unfold nameL; rw [HZ.out, g4', take_all nbC s k (by omega) hp.out]; simp; omega), rfl⟩

set_option maxHeartbeats 1000000 in
theorem f26 (s : ByteArray) (w : World) (hs : s.size ≤ maxLen) : Calls Tryd.prog 26 #[.string s] w fun e w' => e = .returned (.bool (nameL s.data.toList)) ∧ w' = w := by
  unfold maxLen at hs
  by_cases g1 : s.size < 1
  · go_enter Tryd.func26, Tryd.ntmps26
    go_wp2
    go_ret
    exact ⟨ret_bool (by simp [nameL]; omega), rfl⟩
  by_cases g2 : 40 < s.size
  · go_enter Tryd.func26, Tryd.ntmps26
    go_wp2
    go_ret
    exact ⟨ret_bool (by simp [nameL]; omega), rfl⟩
  have g3 : 0 < s.size := by omega
  have HZ : Hid (s.data.toList.getD 0 0 = s[0]) := by
    have : 0 < s.data.toList.length := by simpa using g3
    unfold Hid; rw [List.getD_eq_getElem?_getD, List.getElem?_eq_getElem this]; rfl
  by_cases g4 : digB (s[0].toNat : Int) = true
  · go_enter Tryd.func26, Tryd.ntmps26
    go_wp2_with (go_at_call 40; refine (f40 _ _).mono ?_; rintro e w' ⟨rfl, rfl⟩)
    go_ret
    exact ⟨ret_bool (by unfold nameL; rw [HZ.out, g4]; simp), rfl⟩
  have g4' : digB (s[0].toNat : Int) = false := by simpa using g4
  clear g4
  go_enter Tryd.func26, Tryd.ntmps26
  go_wp2_with (go_at_call 40; refine (f40 _ _).mono ?_; rintro e w' ⟨rfl, rfl⟩)
  go_loop [19] (fun i => ∃ k : Nat, k ≤ s.size ∧ i = .int .i64 k ∧ Hid ((s.data.toList.take k).all nbC = true)) (fun i => s.size - (intOf i).toNat)
  case atStart => exact ⟨0, Nat.zero_le _, rfl, by unfold Hid; simp⟩
  case round =>
    obtain ⟨k, hk, rfl, hp⟩ := hrel
    by_cases hlt : k < s.size
    · have HS := hid (all_take_succ nbC s k hlt)
      have HA := hid (all_false nbC s k hlt)
      by_cases h1 : nbB (s[k].toNat : Int) = true
      · go_wp2_with (go_at_call 41; refine (f41 _ _).mono ?_; rintro e w' ⟨rfl, rfl⟩)
        go_round
        case rel => exact ⟨k + 1, by omega, by go_num, by unfold Hid; rw [HS.out, hp.out]; simp [nbC, h1]⟩
        case measure => simp [intOf]; omega
      · have h1' : nbB (s[k].toNat : Int) = false := by simpa using h1
        go_wp2_with (go_at_call 41; refine (f41 _ _).mono ?_; rintro e w' ⟨rfl, rfl⟩)
        go_ret
        exact ⟨ret_bool (by unfold nameL; rw [HA.out h1']; simp), rfl⟩
    · go_wp2
      go_ret
      exact ⟨ret_bool (by unfold nameL; rw [HZ.out, g4', take_all nbC s k (by omega) hp.out]; simp; omega), rfl⟩
end Go.Proofs.YtpeffjkagaegjaaDoor.Pat
