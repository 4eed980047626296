/- The model's l3Place: the action of a word. -/
import Derived.Test.YtbijhkbmgljjiaaGreatDoorVl
import Derived.Test.YtbijhkbmgljjiaaGreatDoorVf
namespace Go.Proofs.YtbijhkbmgljjiaaGreatDoor.Rdd
open Go.RowKit Go.Proofs.YtbijhkbmgljjiaaGreatDoor.Pat

/-- The row of words at block b. -/
def Wrd9 (b : Nat) (w : World) : Prop := ∀ k : Nat, k ≤ 8 → w.cell? ⟨b, k, none⟩ = some (.string (mkS (if k = 0 then [] else Rel.wd k)))
def wz (k : Nat) : List UInt8 := if k = 0 then [] else Rel.wd k
/-- What the call of l3Place leaves. -/
def PlR (s : ByteArray) (w : World) (e : Ending) (w' : World) : Prop :=
  w' = w ∧ ∃ A : Int, e = .returned (.int .i64 A) ∧ -1 ≤ A ∧ A ≤ 8 ∧ ∀ B : Int, 1 ≤ B → B ≤ 8 → s.data.toList = Rel.wd B → A = B
set_option maxHeartbeats 2000000 in
theorem f10 (b : Nat) (s : ByteArray) (w : World) (h9 : Wrd9 b w) : Calls Tryz.prog 10 #[.slice (some ⟨b, 0, none⟩) 9 9, .string s] w (PlR s w) := by
  have H9 := hid h9
  clear h9
  go_enter Tryz.func10, Tryz.ntmps10
  go_wp2
  go_loop [9] (fun i => ∃ k : Nat, k ≤ 9 ∧ i = .int .i64 k ∧ Hid (∀ j : Nat, j < k → s.data.toList ≠ wz j)) (fun i => 9 - (intOf i).toNat)
  case atStart => exact ⟨0, by omega, rfl, fun j h2 => by omega⟩
  case round =>
    obtain ⟨k, hk9, rfl, HN⟩ := hrel
    by_cases hlt : k < 9
    · have t0 : w.cell? ⟨b, k, none⟩ = some (.string (mkS (wz k))) := H9.out k (by omega)
      by_cases hq : s.data.toList = wz k
      · have heq : (wz k == s.toList) = true := by rw [ByteArray.toList_eq, hq]; exact beq_self_eq_true _
        have HQ := hid hq
        clear hq
        go_wp2
        go_ret
        refine ⟨rfl, k, rfl, by omega, by omega, fun B h1 h8 hB => ?_⟩
        by_cases h0 : k = 0
        · have e1 := HQ.out
          rw [hB, h0] at e1
          have : (Rel.wd B).length = 0 := by rw [e1]; rfl
          rcases (show B = 1 ∨ B = 2 ∨ B = 3 ∨ B = 4 ∨ B = 5 ∨ B = 6 ∨ B = 7 ∨ B = 8 by omega) with rfl | rfl | rfl | rfl | rfl | rfl | rfl | rfl
          all_goals cases this
        · have e1 := HQ.out
          unfold wz at e1
          rw [if_neg h0] at e1
          have := Rel.wd_inj k B.toNat (by omega) (by omega) (by omega) (by omega) (by rw [← e1, hB, show ((B.toNat : Nat) : Int) = B from by omega])
          omega
      · have heq : (wz k == s.toList) = false := by
          rw [beq_eq_false_iff_ne, ByteArray.toList_eq]; exact fun h => hq h.symm
        have HQ := hid hq
        clear hq
        go_wp2
        go_round
        case rel =>
          refine ⟨k + 1, by omega, by go_num, fun j h2 => ?_⟩
          by_cases e : j = k
          · rw [e]; exact HQ.out
          · exact HN.out j (by omega)
        case measure => simp [intOf]; omega
    · obtain rfl : k = 9 := by omega
      go_wp2
      go_ret
      refine ⟨rfl, -1, rfl, by omega, by omega, fun B h1 h8 hB => ?_⟩
      refine absurd ?_ (HN.out B.toNat (by omega))
      unfold wz
      rw [if_neg (by omega), hB, show ((B.toNat : Nat) : Int) = B from by omega]
end Go.Proofs.YtbijhkbmgljjiaaGreatDoor.Rdd
