/- The model's l3Cut and l3Place: the word of a rule's text, and its action. -/
import Derived.Test.YtbijhkbmgljjiaaGreatDoorVk
namespace Go.Proofs.YtbijhkbmgljjiaaGreatDoor.Rdd
open Go.RowKit Go.Proofs.YtbijhkbmgljjiaaGreatDoor.Pat

/-- What stands ahead of the first blank. -/
def hdw (l : List UInt8) : List UInt8 := l.takeWhile fun c => decide (c ≠ 32)
theorem hdw_at {l : List UInt8} {k : Nat} (hk : l[k]? = some 32) (hn : ∀ j, j < k → l[j]? ≠ some 32) : hdw l = l.take k := by
  induction l generalizing k with
  | nil => simp at hk
  | cons c r ih =>
    cases k with
    | zero =>
      simp at hk
      simp [hdw, hk]
    | succ k =>
      have hc : c ≠ 32 := fun e => hn 0 (by omega) (by simp [e])
      have := ih (k := k) (by simpa using hk) (fun j hj => by have := hn (j + 1) (by omega); simpa using this)
      unfold hdw at this ⊢
      rw [List.takeWhile_cons_of_pos (by simp [hc]), this]
      simp
theorem hdw_all {l : List UInt8} (hn : ∀ j, j < l.length → l[j]? ≠ some 32) : hdw l = l := by
  induction l with
  | nil => rfl
  | cons c r ih =>
    have hc : c ≠ 32 := fun e => hn 0 (by simp) (by simp [e])
    have := ih (fun j hj => by have := hn (j + 1) (by simp; omega); simpa using this)
    unfold hdw at this ⊢
    rw [List.takeWhile_cons_of_pos (by simp [hc]), this]
/-- What the call of l3Cut leaves. -/
def CtR (s : ByteArray) (w : World) (e : Ending) (w' : World) : Prop :=
  Below w.heap.size w w' ∧ ∃ (u : ByteArray) (b : Bool), e = .returned (.tuple #[.string (mkS (hdw s.data.toList)), .string u, .bool b])
set_option maxHeartbeats 2000000 in
theorem f9 (s : ByteArray) (w : World) (hs : s.size ≤ 1048576) : Calls Tryz.prog 9 #[.string s] w (CtR s w) := by
  go_enter Tryz.func9, Tryz.ntmps9
  go_wp2
  go_loop [5] (fun i => ∃ k : Nat, k ≤ s.size ∧ i = .int .i64 k ∧ Hid (∀ j, j < k → (by' s)[j]? ≠ some 32)) (fun i => s.size - (intOf i).toNat)
  case atStart => exact ⟨0, by omega, rfl, fun j h => by omega⟩
  case round =>
    obtain ⟨k, hk, rfl, HN⟩ := hrel
    by_cases hlt : k < s.size
    · have HA := hid (at_byte s k hlt)
      by_cases h32 : s[k] = 32
      · have HH : Hid (hdw s.data.toList = s.data.toList.take k) := hdw_at (by rw [HA.out, h32]) HN.out
        have e32 : ((s[k].toNat : Int) == 32) = true := by rw [h32]; rfl
        have HX : Hid (s.extract 0 k = mkS (hdw s.data.toList)) := by
          apply ByteArray.ext
          apply Array.toList_inj.1
          rw [Lib.extract_data, HH.out]
          simp
        clear h32
        go_wp2_with fail
        go_region
        all_goals
          go_wp2
          go_ret3
          refine ⟨⟨rfl, rfl, rfl, Nat.le_refl _, fun _ _ => rfl⟩, s.extract (k + 1) s.size, true, ?_⟩
          rw [← HX.out]
          rfl
      · have e32 : ((s[k].toNat : Int) == 32) = false := by
          rw [beq_eq_false_iff_ne]
          exact fun e => h32 (UInt8.toNat_inj.1 (by have : ((32 : UInt8).toNat : Int) = 32 := rfl; omega))
        have HN2 : Hid (∀ j, j < k + 1 → (by' s)[j]? ≠ some 32) := fun j hj => by
          by_cases e : j = k
          · rw [e, HA.out]; exact fun h => h32 (Option.some.inj h)
          · exact HN.out j (by omega)
        clear h32
        go_wp2
        go_round
        case rel => exact ⟨k + 1, by omega, by go_num, HN2⟩
        case measure => simp [intOf]; omega
    · have HH : Hid (hdw s.data.toList = s.data.toList) := hdw_all (fun j hj => HN.out j (by simp at hj; omega))
      go_wp2
      go_ret3
      refine ⟨Below.refl _ _, ⟨#[]⟩, false, ?_⟩
      rw [HH.out]
      rfl
end Go.Proofs.YtbijhkbmgljjiaaGreatDoor.Rdd
