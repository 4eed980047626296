/- Configurations of a store: copied, both GoodConfs. -/
import Derived.Test.YtbebpekckioffaaXn
import Derived.Test.YtbebpekckioffaaWo
namespace Go.Proofs.Ytbebpekckioffaa.Cfs
open Go.RowKit Go.Proofs.Ytbebpekckioffaa.Smp Go.Proofs.Ytbebpekckioffaa.Hdn

/-- A configuration of these numbers. -/
abbrev cf (A B C D : Int) : Value := .agg #[.int .i64 A, .int .i64 B, .int .i64 C, .int .i64 D]
/-- A good one. -/
def OkC (A B C D : Int) : Prop := OkN A B ∧ (1 ≤ C ∧ C ≤ 1000000) ∧ TimeP D
instance (A B C D : Int) : Decidable (OkC A B C D) := by unfold OkC; infer_instance

set_option maxHeartbeats 1000000 in
theorem f6 (A B C D : Int) (w : World) : Calls Try.prog 6 #[cf A B C D] w fun e w' => e = .returned (cf A B C D) ∧ Below w.heap.size w w' := by
  go_enter Try.func6, Try.ntmps6
  go_wp2
  refine bodyPost_ret (v := cf A B C D) (by simp [results, Try.results6, go_sem]) rfl ⟨rfl, ?_⟩
  refine Below.alloc (Below.alloc (Below.alloc (Below.refl w.heap.size w) (Nat.le_refl _) _) (by simp) _) (by simp only [World.size_alloc]; omega) _
set_option maxHeartbeats 1000000 in
theorem f7 (A B C D : Int) (w : World) : Calls Try.prog 7 #[cf A B C D] w fun e w' => e = .returned (.bool (decide (OkC A B C D))) ∧ Below w.heap.size w w' := by
  have HB := hid ((Below.refl w.heap.size w).alloc (Nat.le_refl _) (.cells #[.int .i64 A, .int .i64 B, .int .i64 C, .int .i64 D] 25))
  go_enter Try.func7, Try.ntmps7
  go_wp2_with fail
  refine (f14 A B _).mono ?_
  rintro e w1 ⟨rfl, hw⟩; subst w1
  by_cases h1 : OkN A B
  · rw [decide_eq_true h1]
    go_wp2_with fail
    refine (Shf.f15 C _).mono ?_
    rintro e w1 ⟨rfl, hw⟩; subst w1
    by_cases h2 : 1 ≤ C ∧ C ≤ 1000000
    · rw [decide_eq_true h2]
      have HE : Hid (decide (OkC A B C D) = decide (TimeP D)) := decide_eq_decide.2 ⟨fun h => h.2.2, fun h => ⟨h1, h2, h⟩⟩
      clear h1 h2
      go_wp2_with fail
      refine (f16 D _).mono ?_
      rintro e w1 ⟨rfl, hw⟩; subst w1
      generalize decide (TimeP D) = T at HE ⊢
      go_wp2
      go_ret
      exact ⟨ret_bool HE.out.symm, HB.out⟩
    · rw [decide_eq_false h2]
      have HE : Hid (decide (OkC A B C D) = false) := decide_eq_false fun h => h2 h.2.1
      clear h1 h2
      go_wp2
      go_ret
      exact ⟨ret_bool HE.out.symm, HB.out⟩
  · rw [decide_eq_false h1]
    have HE : Hid (decide (OkC A B C D) = false) := decide_eq_false fun h => h1 h.1
    clear h1
    go_wp2
    go_ret
    exact ⟨ret_bool HE.out.symm, HB.out⟩
set_option maxHeartbeats 2000000 in
theorem f5 (A B C D : Int) (w : World) : Calls Try.prog 5 #[cf A B C D] w fun e w' => e = .returned (.bool (decide (OkC A B C D))) ∧ Below w.heap.size w w' := by
  have HB := hid ((Below.refl w.heap.size w).alloc (Nat.le_refl _) (.cells #[.int .i64 A, .int .i64 B, .int .i64 C, .int .i64 D] 25))
  go_enter Try.func5, Try.ntmps5
  go_wp2_with fail
  refine (f13 A _).mono ?_
  rintro e w1 ⟨rfl, hw⟩; subst w1
  by_cases h1 : TimeP A
  · rw [decide_eq_true h1]
    by_cases h2 : 0 ≤ B
    · by_cases h3 : B ≤ 200
      · by_cases h4 : 1 ≤ C
        · by_cases h5 : C ≤ 1000000
          · have HE : Hid (decide (OkC A B C D) = decide (TimeP D)) := decide_eq_decide.2 ⟨fun h => h.2.2, fun h => ⟨⟨h1, h2, h3⟩, ⟨h4, h5⟩, h⟩⟩
            clear h1
            go_wp2_with fail
            refine (f13 D _).mono ?_
            rintro e w1 ⟨rfl, hw⟩; subst w1
            generalize decide (TimeP D) = T at HE ⊢
            go_wp2
            go_ret
            exact ⟨ret_bool HE.out.symm, HB.out⟩
          · have HE : Hid (decide (OkC A B C D) = false) := decide_eq_false fun h => h5 h.2.1.2
            go_wp2
            go_ret
            exact ⟨ret_bool HE.out.symm, HB.out⟩
        · have HE : Hid (decide (OkC A B C D) = false) := decide_eq_false fun h => h4 h.2.1.1
          go_wp2
          go_ret
          exact ⟨ret_bool HE.out.symm, HB.out⟩
      · have HE : Hid (decide (OkC A B C D) = false) := decide_eq_false fun h => h3 h.1.2.2
        go_wp2
        go_ret
        exact ⟨ret_bool HE.out.symm, HB.out⟩
    · have HE : Hid (decide (OkC A B C D) = false) := decide_eq_false fun h => h2 h.1.2.1
      go_wp2
      go_ret
      exact ⟨ret_bool HE.out.symm, HB.out⟩
  · rw [decide_eq_false h1]
    have HE : Hid (decide (OkC A B C D) = false) := decide_eq_false fun h => h1 h.1.1
    clear h1
    go_wp2
    go_ret
    exact ⟨ret_bool HE.out.symm, HB.out⟩
end Go.Proofs.Ytbebpekckioffaa.Cfs
