/- The width of a level: both WidthOfs. -/
import Derived.Test.YtbebpekckioffaaRows
import Derived.WalkKit
import Derived.ProofKit
import Derived.WalkSmall
import Derived.Below
import Derived.Handy
namespace Go.Proofs.Ytbebpekckioffaa.Shf
open Go.RowKit

theorem hid {p : Prop} (h : p) : Hid p := h

def BadW (b l : Int) : Prop := b < 1 ∨ b > 1000000 ∨ l < 1 ∨ l > 4
instance (b l : Int) : Decidable (BadW b l) := by unfold BadW; infer_instance
/-- The width of a level of a base; 0 where there is none. -/
def wid (b l : Int) : Int := if BadW b l then 0 else if l = 1 then b else if l = 2 then b * 3 else if l = 3 then b * 9 else b * 27
/-- x is the base, so many times three, as k is below l. -/
def Wk (b l k x : Int) : Prop := (k = l ∧ x = b) ∨ (k + 1 = l ∧ x = b * 3) ∨ (k + 2 = l ∧ x = b * 9) ∨ (k + 3 = l ∧ x = b * 27)
theorem Wk.lim {b l k x : Int} (h : Wk b l k x) (hb : ¬ BadW b l) (_ : 1 ≤ k) : 1 ≤ x ∧ x ≤ 27000000 ∧ k ≤ l := by
  unfold BadW at hb; unfold Wk at h; omega
theorem Wk.next {b l k x : Int} (h : Wk b l k x) (hb : ¬ BadW b l) (hk : 1 < k) : Wk b l (k - 1) (x * 3) := by
  unfold BadW at hb; unfold Wk at h ⊢; omega
theorem Wk.last {b l x : Int} (h : Wk b l 1 x) (hb : ¬ BadW b l) : x = wid b l := by
  unfold wid; rw [if_neg hb]; unfold BadW at hb; unfold Wk at h
  split
  · omega
  · split
    · omega
    · split <;> omega
theorem wid_bad {b l : Int} (h : BadW b l) : wid b l = 0 := if_pos h
theorem wid_pos {b l : Int} (h : ¬ BadW b l) : 1 ≤ wid b l ∧ wid b l ≤ 27000000 := by
  unfold wid; rw [if_neg h]; unfold BadW at h
  split
  · omega
  · split
    · omega
    · split <;> omega

theorem f15 (b : Int) (w : World) :
    Calls Try.prog 15 #[.int .i64 b] w fun e w' => e = .returned (.bool (decide (1 ≤ b ∧ b ≤ 1000000))) ∧ w' = w := by
  go_enter Try.func15, Try.ntmps15
  by_cases h1 : b ≥ 1
  · by_cases h2 : b ≤ 1000000
    · have h : decide (1 ≤ b ∧ b ≤ 1000000) = true := by simp; omega
      rw [h]
      go_wp2
      go_ret
      exact ⟨rfl, rfl⟩
    · have h : decide (1 ≤ b ∧ b ≤ 1000000) = false := by simp; omega
      rw [h]
      go_wp2
      go_ret
      exact ⟨rfl, rfl⟩
  · have h : decide (1 ≤ b ∧ b ≤ 1000000) = false := by simp; omega
    rw [h]
    go_wp2
    go_ret
    exact ⟨rfl, rfl⟩
end Go.Proofs.Ytbebpekckioffaa.Shf
