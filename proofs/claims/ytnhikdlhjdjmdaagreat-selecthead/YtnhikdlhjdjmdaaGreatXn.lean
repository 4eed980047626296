/- New heads: both NewHeads; heads without series compared, marked, held. -/
import Derived.Test.YtnhikdlhjdjmdaaGreatTc
namespace Go.Proofs.YtnhikdlhjdjmdaaGreat.Hdn
open Go.RowKit Go.Proofs.YtnhikdlhjdjmdaaGreat.Smp

/-- A head of these numbers, without series. -/
abbrev hd (W L N : Int) : Value := .agg #[.int .i64 W, .int .i64 L, .int .i64 N, .slice none 0 0]
def OkN (W L : Int) : Prop := TimeP W ∧ 0 ≤ L ∧ L ≤ 200
instance (W L : Int) : Decidable (OkN W L) := by unfold OkN TimeP; infer_instance
/-- What NewHead tells. -/
def nh (W L : Int) : Int × Int × Int := if OkN W L then (W, L, -1) else (0, 0, 0)
theorem f44 (W L : Int) (w : World) : Calls Tryz.prog 44 #[.int .i64 W, .int .i64 L] w fun e w' => e = .returned (.bool (decide (OkN W L))) ∧ w' = w := by
  go_enter Tryz.func44, Tryz.ntmps44
  go_wp2_with fail
  refine (f45 W _).mono ?_
  rintro e w1 ⟨rfl, rfl⟩
  by_cases h1 : TimeP W
  · rw [decide_eq_true h1]
    by_cases h2 : 0 ≤ L
    · by_cases h3 : L ≤ 200
      · go_wp2
        go_ret
        exact ⟨ret_bool (decide_eq_true ⟨h1, h2, h3⟩).symm, rfl⟩
      · go_wp2
        go_ret
        exact ⟨ret_bool (by rw [decide_eq_false (show ¬ OkN W L from fun h => by have := h.2.2; omega)]; simp; omega), rfl⟩
    · go_wp2
      go_ret
      exact ⟨ret_bool (by rw [decide_eq_false (show ¬ OkN W L from fun h => by have := h.2.1; omega)]), rfl⟩
  · rw [decide_eq_false h1]
    go_wp2
    go_ret
    exact ⟨ret_bool (decide_eq_false fun h => h1 h.1).symm, rfl⟩
theorem new4 (w : World) (v0 v1 v2 v3 : Value) (t : TypeId) : (w.alloc (.cells #[v0, v1, v2, v3] t)).heap[w.heap.size]? = some (.cells #[v0, v1, v2, v3] t) := heap_alloc_new w _
theorem f10n (w : World) : Calls Tryz.prog 10 #[.slice none 0 0, .slice none 0 0] w fun e w' => e = .returned (.bool true) ∧ w' = w := by
  go_enter Tryz.func10, Tryz.ntmps10
  go_wp2
  go_loopw [5] (fun i wr => i = .int .i64 0 ∧ wr = w) (fun _ _ => 0)
  case atStart => exact ⟨rfl, rfl⟩
  case round =>
    obtain ⟨rfl, rfl⟩ := hrel
    go_wp2
    go_ret
    exact ⟨rfl, rfl⟩
theorem f15n (k : Nat) (w : World) : Calls Tryz.prog 15 #[.slice none 0 0, .int .i64 k] w fun e w' => e = .returned (.int .i64 k) ∧ w' = w := by
  go_enter Tryz.func15, Tryz.ntmps15
  go_wp2
  go_loopw [1, 5] (fun s i wr => s = .int .i64 k ∧ i = .int .i64 0 ∧ wr = w) (fun _ _ _ => 0)
  case atStart => exact ⟨rfl, rfl, rfl⟩
  case round =>
    obtain ⟨rfl, rfl, rfl⟩ := hrel
    go_wp2
    go_ret
    exact ⟨rfl, rfl⟩
theorem f16n (k : Nat) (w : World) : Calls Tryz.prog 16 #[.slice none 0 0, .int .i64 k] w fun e w' => e = .returned (.int .i64 k) ∧ w' = w := by
  go_enter Tryz.func16, Tryz.ntmps16
  go_wp2
  go_loopw [1, 5] (fun s i wr => s = .int .i64 k ∧ i = .int .i64 0 ∧ wr = w) (fun _ _ _ => 0)
  case atStart => exact ⟨rfl, rfl, rfl⟩
  case round =>
    obtain ⟨rfl, rfl, rfl⟩ := hrel
    go_wp2
    go_ret
    exact ⟨rfl, rfl⟩
set_option maxHeartbeats 1000000 in
theorem f11n (W L N : Int) (w : World) : Calls Tryz.prog 11 #[hd W L N, hd W L N] w fun e w' => e = .returned (.bool true) ∧ Below w.heap.size w w' := by
  have HB := hid (((Below.refl w.heap.size w).alloc (Nat.le_refl _) (.cells #[.int .i64 W, .int .i64 L, .int .i64 N, .slice none 0 0] 31)).alloc (by simp) (.cells #[.int .i64 W, .int .i64 L, .int .i64 N, .slice none 0 0] 31))
  go_enter Tryz.func11, Tryz.ntmps11
  go_wp2_with fail
  refine (f10n _).mono ?_
  rintro e w1 ⟨rfl, rfl⟩
  go_wp2
  go_ret
  exact ⟨rfl, HB.out⟩
set_option maxHeartbeats 1000000 in
theorem f13n (W L N : Int) (k : Nat) (w : World) : Calls Tryz.prog 13 #[hd W L N, .int .i64 k] w fun e w' => e = .returned (.int .i64 k) ∧ Below w.heap.size w w' := by
  have HB := hid ((Below.refl w.heap.size w).alloc (Nat.le_refl _) (.cells #[.int .i64 W, .int .i64 L, .int .i64 N, .slice none 0 0] 31))
  go_enter Tryz.func13, Tryz.ntmps13
  go_wp2_with fail
  refine (f15n k _).mono ?_
  rintro e w1 ⟨rfl, rfl⟩
  go_wp2
  go_ret
  exact ⟨rfl, HB.out⟩
end Go.Proofs.YtnhikdlhjdjmdaaGreat.Hdn
