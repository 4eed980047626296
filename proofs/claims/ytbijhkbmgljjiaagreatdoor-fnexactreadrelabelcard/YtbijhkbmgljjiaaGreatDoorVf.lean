/- The program's relabelOf: the action of a word. -/
import Derived.Test.YtbijhkbmgljjiaaGreatDoorRf
import Derived.Test.YtbijhkbmgljjiaaGreatDoorRt
namespace Go.Proofs.YtbijhkbmgljjiaaGreatDoor.Rel
open Go.RowKit Go.Proofs.YtbijhkbmgljjiaaGreatDoor.Fil

theorem tab_word {w : World} (h : Tab w) (A : Nat) (h1 : 1 ≤ A) (h8 : A ≤ 8) : w.cell? ⟨0, A * 6, none⟩ = some (.string (mkS (wd A))) := by
  rcases (show A = 1 ∨ A = 2 ∨ A = 3 ∨ A = 4 ∨ A = 5 ∨ A = 6 ∨ A = 7 ∨ A = 8 by omega) with rfl | rfl | rfl | rfl | rfl | rfl | rfl | rfl
  all_goals
    rw [h.2 _ (by decide)]
    rfl
/-- No two actions have one word. -/
theorem wd_inj (A B : Nat) (h1 : 1 ≤ A) (h8 : A ≤ 8) (g1 : 1 ≤ B) (g8 : B ≤ 8) (h : wd A = wd B) : A = B := by
  rcases (show A = 1 ∨ A = 2 ∨ A = 3 ∨ A = 4 ∨ A = 5 ∨ A = 6 ∨ A = 7 ∨ A = 8 by omega) with rfl | rfl | rfl | rfl | rfl | rfl | rfl | rfl
  all_goals
    rcases (show B = 1 ∨ B = 2 ∨ B = 3 ∨ B = 4 ∨ B = 5 ∨ B = 6 ∨ B = 7 ∨ B = 8 by omega) with rfl | rfl | rfl | rfl | rfl | rfl | rfl | rfl
  all_goals first | rfl | exact absurd h (by decide)
/-- What the call of relabelOf leaves. -/
def RoR (s : ByteArray) (w : World) (e : Ending) (w' : World) : Prop :=
  w' = w ∧ ∃ A : Nat, e = .returned (.int .i64 A) ∧ A ≤ 8 ∧ ∀ B : Int, 1 ≤ B → B ≤ 8 → s.data.toList = wd B → (A : Int) = B
set_option maxHeartbeats 2000000 in
theorem f33 (s : ByteArray) (w : World) (_hs : s.size ≤ 1048576) (ht : Tab w) : Calls Tryz.prog 33 #[.string s] w (RoR s w) := by
  have HT := hid ht
  clear ht
  go_enter Tryz.func33, Tryz.ntmps33
  go_wp2
  go_loop [3] (fun i => ∃ k : Nat, 1 ≤ k ∧ k ≤ 9 ∧ i = .int .i64 k ∧ Hid (∀ j : Nat, 1 ≤ j → j < k → s.data.toList ≠ wd j)) (fun i => 9 - (intOf i).toNat)
  case atStart => exact ⟨1, by omega, by omega, rfl, fun j h1 h2 => by omega⟩
  case round =>
    obtain ⟨k, hk1, hk9, rfl, HN⟩ := hrel
    by_cases hlt : k ≤ 8
    · have t0 := tab_word HT.out k hk1 hlt
      by_cases hq : s.data.toList = wd k
      · have heq : (wd k == s.toList) = true := by rw [ByteArray.toList_eq, hq]; exact beq_self_eq_true _
        go_wp2
        go_ret
        refine ⟨rfl, k, rfl, hlt, fun B h1 h8 hB => ?_⟩
        have := wd_inj k B.toNat hk1 hlt (by omega) (by omega) (by rw [← hq, hB, show ((B.toNat : Nat) : Int) = B from by omega])
        omega
      · have heq : (wd k == s.toList) = false := by
          rw [beq_eq_false_iff_ne, ByteArray.toList_eq]; exact fun h => hq h.symm
        go_wp2
        go_round
        case rel =>
          refine ⟨k + 1, by omega, by omega, by go_num, fun j h1 h2 => ?_⟩
          by_cases e : j = k
          · rw [e]; exact hq
          · exact HN.out j h1 (by omega)
        case measure => simp [intOf]; omega
    · go_wp2
      go_ret
      refine ⟨rfl, 0, rfl, by omega, fun B h1 h8 hB => ?_⟩
      exact absurd (by rw [hB, show ((B.toNat : Nat) : Int) = B from by omega]) (HN.out B.toNat (by omega) (by omega))
end Go.Proofs.YtbijhkbmgljjiaaGreatDoor.Rel
