/- The quotient: both Quotients; the walk of FnExactQuotient. -/
import Derived.Test.YtpbnneelpdacdaaRows
import Derived.WalkKit
import Derived.ProofKit
import Derived.WalkSmall
import Derived.Below
import Derived.Handy
namespace Go.Proofs.Ytpbnneelpdacdaa.Quo
open Go.RowKit

theorem hid {p : Prop} (h : p) : Hid p := h
theorem ret_int {a b : Int} (h : a = b) : Ending.returned (.int .i64 a) = .returned (.int .i64 b) := by rw [h]
/-- Whether a quotient is told one less. -/
def less (a b : Int) : Prop := ¬ a.tmod b = 0 ∧ ¬ (a.tmod b < 0 ↔ b < 0)
instance (a b : Int) : Decidable (less a b) := by unfold less; infer_instance
/-- The quotient of two ints, down, as ints of 64 bits; 0 by 0. -/
def qt (a b : Int) : Int := if b = 0 then 0 else if less a b then wrap64 (wrap64 (a.tdiv b) - 1) else wrap64 (a.tdiv b)

set_option maxHeartbeats 1000000 in
theorem f85 (a b : Int) (w : World) :
    Calls Try.prog 85 #[.int .i64 a, .int .i64 b] w fun e w' => e = .returned (.int .i64 (qt a b)) ∧ w' = w := by
  by_cases hb : b = 0
  · subst hb
    go_enter Try.func85, Try.ntmps85
    go_wp2
    go_ret
    exact ⟨rfl, rfl⟩
  · have HQ : Hid (qt a b = if less a b then wrap64 (wrap64 (a.tdiv b) - 1) else wrap64 (a.tdiv b)) := if_neg hb
    by_cases h1 : a.tmod b = 0
    · have HL : Hid (¬ less a b) := fun h => h.1 h1
      go_enter Try.func85, Try.ntmps85
      go_wp2
      go_ret
      exact ⟨ret_int (by rw [HQ.out, if_neg HL.out]), rfl⟩
    · by_cases h2 : a.tmod b < 0 <;> by_cases h3 : b < 0
      · have HL : Hid (¬ less a b) := fun h => h.2 ⟨fun _ => h3, fun _ => h2⟩
        go_enter Try.func85, Try.ntmps85
        go_wp2
        go_ret
        exact ⟨ret_int (by rw [HQ.out, if_neg HL.out]), rfl⟩
      · have HL : Hid (less a b) := ⟨h1, fun h => h3 (h.1 h2)⟩
        go_enter Try.func85, Try.ntmps85
        go_wp2
        go_ret
        exact ⟨ret_int (by rw [HQ.out, if_pos HL.out]), rfl⟩
      · have HL : Hid (less a b) := ⟨h1, fun h => h2 (h.2 h3)⟩
        go_enter Try.func85, Try.ntmps85
        go_wp2
        go_ret
        exact ⟨ret_int (by rw [HQ.out, if_pos HL.out]), rfl⟩
      · have HL : Hid (¬ less a b) := fun h => h.2 ⟨fun h => absurd h h2, fun h => absurd h h3⟩
        go_enter Try.func85, Try.ntmps85
        go_wp2
        go_ret
        exact ⟨ret_int (by rw [HQ.out, if_neg HL.out]), rfl⟩

end Go.Proofs.Ytpbnneelpdacdaa.Quo
