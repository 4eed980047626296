/- New heads: both NewHeads; heads without series compared, marked, held. -/
import Derived.Test.YtbebpekckioffaaTc
namespace Go.Proofs.Ytbebpekckioffaa.Hdn
open Go.RowKit Go.Proofs.Ytbebpekckioffaa.Smp

/-- A head of these numbers, without series. -/
abbrev hd (W L N : Int) : Value := .agg #[.int .i64 W, .int .i64 L, .int .i64 N, .slice none 0 0]
def OkN (W L : Int) : Prop := TimeP W ∧ 0 ≤ L ∧ L ≤ 200
instance (W L : Int) : Decidable (OkN W L) := by unfold OkN TimeP; infer_instance
/-- What NewHead tells. -/
def nh (W L : Int) : Int × Int × Int := if OkN W L then (W, L, -1) else (0, 0, 0)
theorem f14 (W L : Int) (w : World) : Calls Try.prog 14 #[.int .i64 W, .int .i64 L] w fun e w' => e = .returned (.bool (decide (OkN W L))) ∧ w' = w := by
  go_enter Try.func14, Try.ntmps14
  go_wp2_with fail
  refine (f16 W _).mono ?_
  rintro e w1 ⟨rfl, rfl⟩
  by_cases h1 : TimeP W
  · rw [decide_eq_true h1]
    by_cases h2 : 0 ≤ L
    · by_cases h3 : L ≤ 200
      · go_wp2
        go_ret
        exact ⟨ret_bool (decide_eq_true ⟨h1, h2, h3⟩).symm, rfl⟩
      · go_wp2
        go_ret
        exact ⟨ret_bool (by rw [decide_eq_false (show ¬ OkN W L from fun h => by have := h.2.2; omega)]; simp; omega), rfl⟩
    · go_wp2
      go_ret
      exact ⟨ret_bool (by rw [decide_eq_false (show ¬ OkN W L from fun h => by have := h.2.1; omega)]), rfl⟩
  · rw [decide_eq_false h1]
    go_wp2
    go_ret
    exact ⟨ret_bool (decide_eq_false fun h => h1 h.1).symm, rfl⟩
theorem new4 (w : World) (v0 v1 v2 v3 : Value) (t : TypeId) : (w.alloc (.cells #[v0, v1, v2, v3] t)).heap[w.heap.size]? = some (.cells #[v0, v1, v2, v3] t) := heap_alloc_new w _
set_option maxHeartbeats 1000000 in
theorem f18 (W L : Int) (w : World) : Calls Try.prog 18 #[.int .i64 W, .int .i64 L] w fun e w' => e = .returned (hd (nh W L).1 (nh W L).2.1 (nh W L).2.2) ∧ Below w.heap.size w w' := by
  have HB := hid ((Below.refl w.heap.size w).alloc (Nat.le_refl _) (.cells #[.int .i64 0, .int .i64 0, .int .i64 0, .slice none 0 0] 30))
  go_enter Try.func18, Try.ntmps18
  go_wp2_with fail
  refine (f14 W L _).mono ?_
  rintro e w1 ⟨rfl, rfl⟩
  by_cases h1 : OkN W L
  · have HE : Hid (nh W L = (W, L, -1)) := if_pos h1
    rw [decide_eq_true h1]
    go_wp2
    rw [HE.out]
    refine bodyPost_ret (v := hd W L (-1)) (by simp [results, Try.results18, go_sem]) rfl ⟨rfl, ?_⟩
    exact (Below.refl w.heap.size w).alloc (Nat.le_refl _) _
  · have HE : Hid (nh W L = (0, 0, 0)) := if_neg h1
    rw [decide_eq_false h1]
    go_wp2
    rw [HE.out]
    refine bodyPost_ret (v := hd 0 0 0) (by simp [results, Try.results18, go_sem]) rfl ⟨rfl, ?_⟩
    exact (Below.refl w.heap.size w).alloc (Nat.le_refl _) _
set_option maxHeartbeats 1000000 in
theorem f17 (W L : Int) (w : World) : Calls Try.prog 17 #[.int .i64 W, .int .i64 L] w fun e w' => e = .returned (hd (nh W L).1 (nh W L).2.1 (nh W L).2.2) ∧ Below w.heap.size w w' := by
  have HB := hid ((Below.refl w.heap.size w).alloc (Nat.le_refl _) (.cells #[.int .i64 0, .int .i64 0, .int .i64 0, .slice none 0 0] 30))
  go_enter Try.func17, Try.ntmps17
  go_wp2_with fail
  refine (f13 W _).mono ?_
  rintro e w1 ⟨rfl, rfl⟩
  by_cases h1 : OkN W L
  · have HE : Hid (nh W L = (W, L, -1)) := if_pos h1
    rw [decide_eq_true h1.1]
    have h2 := h1.2.1
    have h3 := h1.2.2
    have h2' : ¬ L < 0 := by omega
    have h3' : ¬ 200 < L := by omega
    go_wp2
    rw [HE.out]
    refine bodyPost_ret (v := hd W L (-1)) (by simp [results, Try.results17, go_sem]) rfl ⟨rfl, ?_⟩
    exact (Below.refl w.heap.size w).alloc (Nat.le_refl _) _
  · have HE : Hid (nh W L = (0, 0, 0)) := if_neg h1
    by_cases g1 : TimeP W
    · rw [decide_eq_true g1]
      by_cases g2 : L < 0
      · go_wp2
        rw [HE.out]
        refine bodyPost_ret (v := hd 0 0 0) (by simp [results, Try.results17, go_sem]) rfl ⟨rfl, ?_⟩
        exact (Below.refl w.heap.size w).alloc (Nat.le_refl _) _
      · have g3 : 200 < L := by
          by_cases q : 200 < L
          · exact q
          · exact absurd ⟨g1, by omega, by omega⟩ h1
        go_wp2
        rw [HE.out]
        refine bodyPost_ret (v := hd 0 0 0) (by simp [results, Try.results17, go_sem]) rfl ⟨rfl, ?_⟩
        exact (Below.refl w.heap.size w).alloc (Nat.le_refl _) _
    · rw [decide_eq_false g1]
      go_wp2
      rw [HE.out]
      refine bodyPost_ret (v := hd 0 0 0) (by simp [results, Try.results17, go_sem]) rfl ⟨rfl, ?_⟩
      exact (Below.refl w.heap.size w).alloc (Nat.le_refl _) _
theorem f28n (w : World) : Calls Try.prog 28 #[.slice none 0 0, .slice none 0 0] w fun e w' => e = .returned (.bool true) ∧ w' = w := by
  go_enter Try.func28, Try.ntmps28
  go_wp2
  go_loopw [5] (fun i wr => i = .int .i64 0 ∧ wr = w) (fun _ _ => 0)
  case atStart => exact ⟨rfl, rfl⟩
  case round =>
    obtain ⟨rfl, rfl⟩ := hrel
    go_wp2
    go_ret
    exact ⟨rfl, rfl⟩
theorem f30n (k : Nat) (w : World) : Calls Try.prog 30 #[.slice none 0 0, .int .i64 k] w fun e w' => e = .returned (.int .i64 k) ∧ w' = w := by
  go_enter Try.func30, Try.ntmps30
  go_wp2
  go_loopw [1, 5] (fun s i wr => s = .int .i64 k ∧ i = .int .i64 0 ∧ wr = w) (fun _ _ _ => 0)
  case atStart => exact ⟨rfl, rfl, rfl⟩
  case round =>
    obtain ⟨rfl, rfl, rfl⟩ := hrel
    go_wp2
    go_ret
    exact ⟨rfl, rfl⟩
theorem f32n (k : Nat) (w : World) : Calls Try.prog 32 #[.slice none 0 0, .int .i64 k] w fun e w' => e = .returned (.int .i64 k) ∧ w' = w := by
  go_enter Try.func32, Try.ntmps32
  go_wp2
  go_loopw [1, 5] (fun s i wr => s = .int .i64 k ∧ i = .int .i64 0 ∧ wr = w) (fun _ _ _ => 0)
  case atStart => exact ⟨rfl, rfl, rfl⟩
  case round =>
    obtain ⟨rfl, rfl, rfl⟩ := hrel
    go_wp2
    go_ret
    exact ⟨rfl, rfl⟩
set_option maxHeartbeats 1000000 in
theorem f19n (W L N : Int) (w : World) : Calls Try.prog 19 #[hd W L N, hd W L N] w fun e w' => e = .returned (.bool true) ∧ Below w.heap.size w w' := by
  have HB := hid (((Below.refl w.heap.size w).alloc (Nat.le_refl _) (.cells #[.int .i64 W, .int .i64 L, .int .i64 N, .slice none 0 0] 30)).alloc (by simp) (.cells #[.int .i64 W, .int .i64 L, .int .i64 N, .slice none 0 0] 30))
  go_enter Try.func19, Try.ntmps19
  go_wp2_with fail
  refine (f28n _).mono ?_
  rintro e w1 ⟨rfl, rfl⟩
  go_wp2
  go_ret
  exact ⟨rfl, HB.out⟩
set_option maxHeartbeats 1000000 in
theorem f22n (W L N : Int) (k : Nat) (w : World) : Calls Try.prog 22 #[hd W L N, .int .i64 k] w fun e w' => e = .returned (.int .i64 k) ∧ Below w.heap.size w w' := by
  have HB := hid ((Below.refl w.heap.size w).alloc (Nat.le_refl _) (.cells #[.int .i64 W, .int .i64 L, .int .i64 N, .slice none 0 0] 30))
  go_enter Try.func22, Try.ntmps22
  go_wp2_with fail
  refine (f30n k _).mono ?_
  rintro e w1 ⟨rfl, rfl⟩
  go_wp2
  go_ret
  exact ⟨rfl, HB.out⟩
set_option maxHeartbeats 1000000 in
theorem f25n (W L N : Int) (k : Nat) (w : World) : Calls Try.prog 25 #[hd W L N, .int .i64 k] w fun e w' => e = .returned (.int .i64 k) ∧ Below w.heap.size w w' := by
  have HB := hid ((Below.refl w.heap.size w).alloc (Nat.le_refl _) (.cells #[.int .i64 W, .int .i64 L, .int .i64 N, .slice none 0 0] 30))
  go_enter Try.func25, Try.ntmps25
  go_wp2_with fail
  refine (f32n k _).mono ?_
  rintro e w1 ⟨rfl, rfl⟩
  go_wp2
  go_ret
  exact ⟨rfl, HB.out⟩
end Go.Proofs.Ytbebpekckioffaa.Hdn
