/- Both GoodSamples. -/
import Derived.Test.YtbebpekckioffaaTa
namespace Go.Proofs.Ytbebpekckioffaa.Smp
open Go.RowKit

def TimeP (t : Int) : Prop := 0 ≤ t ∧ t ≤ 1000000000000
instance (t : Int) : Decidable (TimeP t) := by unfold TimeP; infer_instance
/-- The sample at i is as it should be. -/
def OkAt (ls : List Sm) (i : Nat) : Prop := TimeP (ls.getD i e0).1 ∧ (0 < i → (ls.getD (i - 1) e0).1 < (ls.getD i e0).1)
instance (ls : List Sm) (i : Nat) : Decidable (OkAt ls i) := by unfold OkAt; infer_instance
def GoodP (ls : List Sm) : Prop := ls.length ≤ 2000 ∧ ∀ i, i < ls.length → OkAt ls i
instance (ls : List Sm) : Decidable (GoodP ls) := by unfold GoodP; infer_instance
def goodS (ls : List Sm) : Bool := decide (GoodP ls)
def Upto (ls : List Sm) (k : Nat) : Prop := ∀ i, i < k → OkAt ls i
theorem Upto.succ {ls : List Sm} {k : Nat} (h : Upto ls k) (h1 : OkAt ls k) : Upto ls (k + 1) := by
  intro i hi
  by_cases e : i = k
  · subst e; exact h1
  · exact h i (by omega)
theorem good_no {ls : List Sm} {k : Nat} (hk : k < ls.length) (h : ¬ OkAt ls k) : goodS ls = false := decide_eq_false fun g => h (g.2 k hk)
theorem good_end {ls : List Sm} {k : Nat} (hk : ls.length ≤ k) (h : Upto ls k) : goodS ls = decide (ls.length ≤ 2000) := by
  unfold goodS
  rw [decide_eq_decide]
  exact ⟨fun g => g.1, fun g => ⟨g, fun i hi => h i (by omega)⟩⟩

theorem f13 (t : Int) (w : World) : Calls Try.prog 13 #[.int .i64 t] w fun e w' => e = .returned (.bool (decide (TimeP t))) ∧ w' = w := by
  by_cases h1 : 0 ≤ t
  · go_enter Try.func13, Try.ntmps13
    go_wp2
    go_ret
    exact ⟨ret_bool (by unfold TimeP; rw [Bool.eq_iff_iff]; simp [h1]), rfl⟩
  · go_enter Try.func13, Try.ntmps13
    go_wp2
    go_ret
    exact ⟨ret_bool (by symm; exact decide_eq_false fun h => absurd h.1 (by omega)), rfl⟩
theorem f16 (t : Int) (w : World) : Calls Try.prog 16 #[.int .i64 t] w fun e w' => e = .returned (.bool (decide (TimeP t))) ∧ w' = w := by
  by_cases h1 : 0 ≤ t
  · go_enter Try.func16, Try.ntmps16
    go_wp2
    go_ret
    exact ⟨ret_bool (by unfold TimeP; rw [Bool.eq_iff_iff]; simp [h1]), rfl⟩
  · go_enter Try.func16, Try.ntmps16
    go_wp2
    go_ret
    exact ⟨ret_bool (by symm; exact decide_eq_false fun h => absurd h.1 (by omega)), rfl⟩

/-- The last Time ahead of k, or -1. -/
def lastT (ls : List Sm) (k : Nat) : Int := if k = 0 then -1 else (ls.getD (k - 1) e0).1
theorem lastT_zero (ls : List Sm) : lastT ls 0 = -1 := rfl
theorem lastT_succ (ls : List Sm) (k : Nat) : lastT ls (k + 1) = (ls.getD k e0).1 := by simp [lastT]
theorem ok_last {ls : List Sm} {k : Nat} (h : Upto ls k) : OkAt ls k ↔ lastT ls k < (ls.getD k e0).1 ∧ (ls.getD k e0).1 ≤ 1000000000000 := by
  unfold OkAt TimeP
  cases k with
  | zero => rw [lastT_zero]; constructor <;> intro h <;> simp at * <;> omega
  | succ j =>
    rw [lastT_succ, Nat.add_sub_cancel]
    have := (h j (by omega)).1
    unfold TimeP at this
    constructor
    · intro g; exact ⟨g.2 (by omega), g.1.2⟩
    · intro g; exact ⟨⟨by omega, g.2⟩, fun _ => g.1⟩

end Go.Proofs.Ytbebpekckioffaa.Smp
