/- The program's DateOf and DayNumber. -/
import Derived.Test.YtcnilidckicccaaDoorCld
namespace Go.Proofs.YtcnilidckicccaaDoor.Cal
open Go.RowKit

/-- The variable rangeLimits. -/
def rl : List Int := [0, 1439, 0, 6, -31, 31, 1, 12, 1970, 40000]
structure Rgl (w : World) : Prop where
  lt : 0 < w.heap.size
  c : ∀ k : Nat, k < 10 → w.cell? ⟨0, k, none⟩ = some (.int .i64 (rl.getD k 0))
theorem Rgl.below {w w' : World} (h : Rgl w) (hb : Below w.heap.size w w') : Rgl w' :=
  ⟨Nat.lt_of_lt_of_le h.lt hb.size, fun k hk => (hb.cell (by exact h.lt)).trans (h.c k hk)⟩

set_option maxHeartbeats 1000000 in
theorem f54 (a b n : Int) (w : World) :
    Calls Tryd.prog 54 #[.agg #[.int .i64 a, .int .i64 b], .int .i64 n] w fun e w' => e = .returned (.bool (decide (a ≤ n ∧ n ≤ b))) ∧ Hid (Below w.heap.size w w') := by
  have HB := fun o => hid ((Below.refl w.heap.size w).alloc (Nat.le_refl _) o)
  by_cases h1 : n ≥ a
  · by_cases h2 : n ≤ b
    · rw [decide_eq_true (show a ≤ n ∧ n ≤ b from ⟨h1, h2⟩)]
      go_enter Tryd.func54, Tryd.ntmps54
      go_wp2
      go_ret
      exact ⟨rfl, HB _⟩
    · rw [decide_eq_false (show ¬ (a ≤ n ∧ n ≤ b) by omega)]
      go_enter Tryd.func54, Tryd.ntmps54
      go_wp2
      go_ret
      exact ⟨rfl, HB _⟩
  · rw [decide_eq_false (show ¬ (a ≤ n ∧ n ≤ b) by omega)]
    go_enter Tryd.func54, Tryd.ntmps54
    go_wp2
    go_ret
    exact ⟨rfl, HB _⟩

/-- There is such a date. -/
def Is (y m d : Int) : Prop := 1970 ≤ y ∧ y ≤ 40000 ∧ 1 ≤ m ∧ m ≤ 12 ∧ 1 ≤ d ∧ d ≤ ml y m
instance (y m d : Int) : Decidable (Is y m d) := by unfold Is; infer_instance
/-- The number of a date, or -1. -/
def dn (y m d : Int) : Int := if Is y m d then F y + cu y m + d - 1 else -1
theorem Dt.num {D y m d : Int} (h : Dt D y m d) (hy : y ≤ 40000) : dn y m d = D := by
  unfold dn
  rw [if_pos ⟨h.y0, hy, h.m0, h.m1, h.d0, h.d1⟩]
  exact h.sum

set_option maxHeartbeats 4000000 in
theorem num_no (y m d : Int) (w : World) (h : ¬ Is y m d) (hM : Mon w) (hR : Rgl w) :
    Calls Tryd.prog 44 #[.int .i64 y, .int .i64 m, .int .i64 d] w fun e w' => e = .returned (.int .i64 (-1)) ∧ Hid (Below w.heap.size w w') := by
  have H1 := fun x => hid (f54 1970 40000 y x)
  have H2 := fun x => hid (f54 1 12 m x)
  have HM := hid hM
  have HR := hid hR
  have g := hR.lt
  have c8 := hR.c 8 (by omega)
  have c9 := hR.c 9 (by omega)
  rw [show rl.getD 8 0 = 1970 from rfl] at c8
  rw [show rl.getD 9 0 = 40000 from rfl] at c9
  clear hM hR
  by_cases a : 1970 ≤ y ∧ y ≤ 40000
  · simp only [decide_eq_true a] at H1
    by_cases b : 1 ≤ m ∧ m ≤ 12
    · simp only [decide_eq_true b] at H2
      by_cases c : d < 1
      · clear h a b
        go_enter Tryd.func44, Tryd.ntmps44
        go_wp2_with fail
        refine (H1 _).out.mono ?_
        rintro e w1 ⟨rfl, HB⟩
        have HR1 := hid (HR.out.below HB.out)
        have g1 := HR1.out.lt
        have c6 := HR1.out.c 6 (by omega)
        have c7 := HR1.out.c 7 (by omega)
        rw [show rl.getD 6 0 = 1 from rfl] at c6
        rw [show rl.getD 7 0 = 12 from rfl] at c7
        go_wp2_with fail
        refine (H2 _).out.mono ?_
        rintro e w2 ⟨rfl, HB1⟩
        have HB2 := hid (HB.out.trans (HB1.out.mono HB.out.size))
        go_wp2
        go_ret
        exact ⟨rfl, HB2⟩
      · have k : d > ml y m := by unfold Is at h; omega
        clear h
        go_enter Tryd.func44, Tryd.ntmps44
        go_wp2_with fail
        refine (H1 _).out.mono ?_
        rintro e w1 ⟨rfl, HB⟩
        have HR1 := hid (HR.out.below HB.out)
        have g1 := HR1.out.lt
        have c6 := HR1.out.c 6 (by omega)
        have c7 := HR1.out.c 7 (by omega)
        rw [show rl.getD 6 0 = 1 from rfl] at c6
        rw [show rl.getD 7 0 = 12 from rfl] at c7
        go_wp2_with fail
        refine (H2 _).out.mono ?_
        rintro e w2 ⟨rfl, HB1⟩
        have HB2 := hid (HB.out.trans (HB1.out.mono HB.out.size))
        have HL := hid (f56 y m w2 (by omega) (by omega) b.1 b.2 (HM.out.below HB2.out))
        obtain ⟨a0, a1⟩ := a
        obtain ⟨b0, b1⟩ := b
        generalize ml y m = x at *
        go_wp2_with fail
        refine HL.out.mono ?_
        rintro e w3 ⟨rfl, hw⟩; subst w3
        go_wp2
        go_ret
        exact ⟨rfl, HB2⟩
    · simp only [decide_eq_false b] at H2
      clear h a b
      go_enter Tryd.func44, Tryd.ntmps44
      go_wp2_with fail
      refine (H1 _).out.mono ?_
      rintro e w1 ⟨rfl, HB⟩
      have HR1 := hid (HR.out.below HB.out)
      have g1 := HR1.out.lt
      have c6 := HR1.out.c 6 (by omega)
      have c7 := HR1.out.c 7 (by omega)
      rw [show rl.getD 6 0 = 1 from rfl] at c6
      rw [show rl.getD 7 0 = 12 from rfl] at c7
      go_wp2_with fail
      refine (H2 _).out.mono ?_
      rintro e w2 ⟨rfl, HB1⟩
      have HB2 := hid (HB.out.trans (HB1.out.mono HB.out.size))
      go_wp2
      go_ret
      exact ⟨rfl, HB2⟩
  · simp only [decide_eq_false a] at H1
    clear h a
    go_enter Tryd.func44, Tryd.ntmps44
    go_wp2_with fail
    refine (H1 _).out.mono ?_
    rintro e w1 ⟨rfl, HB⟩
    go_wp2
    go_ret
    exact ⟨rfl, HB⟩

set_option maxHeartbeats 4000000 in
theorem num_yes (y m d : Int) (w : World) (h : Is y m d) (hM : Mon w) (hR : Rgl w) :
    Calls Tryd.prog 44 #[.int .i64 y, .int .i64 m, .int .i64 d] w fun e w' => e = .returned (.int .i64 (F y + cu y m + d - 1)) ∧ Hid (Below w.heap.size w w') := by
  have H1 := fun x => hid (f54 1970 40000 y x)
  have H2 := fun x => hid (f54 1 12 m x)
  have HM := hid hM
  have HR := hid hR
  have g := hR.lt
  have c8 := hR.c 8 (by omega)
  have c9 := hR.c 9 (by omega)
  rw [show rl.getD 8 0 = 1970 from rfl] at c8
  rw [show rl.getD 9 0 = 40000 from rfl] at c9
  clear hM hR
  obtain ⟨a0, a1, b0, b1, d0, d1⟩ := h
  simp only [decide_eq_true (show 1970 ≤ y ∧ y ≤ 40000 from ⟨a0, a1⟩)] at H1
  simp only [decide_eq_true (show 1 ≤ m ∧ m ≤ 12 from ⟨b0, b1⟩)] at H2
  have d2 : ¬ d < 1 := by omega
  have d3 : ¬ d > ml y m := by omega
  have HY := hid d1
  have d4 : d ≤ 31 := by have := (ml_pos y m).2; omega
  have HF := fun x => hid (f57 y x (by omega) (by omega))
  have f0 := (F_mono a0); rw [F_first] at f0
  have f1 := F_high (y := y) (by omega)
  generalize F y = f at *
  go_enter Tryd.func44, Tryd.ntmps44
  go_wp2_with fail
  refine (H1 _).out.mono ?_
  rintro e w1 ⟨rfl, HB⟩
  have HR1 := hid (HR.out.below HB.out)
  have g1 := HR1.out.lt
  have c6 := HR1.out.c 6 (by omega)
  have c7 := HR1.out.c 7 (by omega)
  rw [show rl.getD 6 0 = 1 from rfl] at c6
  rw [show rl.getD 7 0 = 12 from rfl] at c7
  go_wp2_with fail
  refine (H2 _).out.mono ?_
  rintro e w2 ⟨rfl, HB1⟩
  have HB2 := hid (HB.out.trans (HB1.out.mono HB.out.size))
  have HM2 := hid (HM.out.below HB2.out)
  have HL := hid (f56 y m w2 (by omega) (by omega) b0 b1 HM2.out)
  generalize ml y m = x at HL d1 d3 HY
  clear c6 c7 c8 c9 g1 HR1 HR HM H1 H2 HB HB1 g
  go_wp2_with fail
  refine HL.out.mono ?_
  rintro e w3 ⟨rfl, hw⟩; subst w3
  go_wp2_with fail
  refine (HF _).out.mono ?_
  rintro e w3 ⟨rfl, hw⟩; subst w3
  clear HL HF HY d1 d3
  go_wp2
  go_loopw [7, 8] (fun s7 s8 wr => ∃ k : Int, 1 ≤ k ∧ k ≤ m ∧ s8 = .int .i64 k ∧ s7 = .int .i64 (f + cu y k + d - 1) ∧ Hid (wr = w2)) (fun _ s _ => (20 - intOf s).toNat)
  case atStart => exact ⟨1, by omega, by omega, rfl, by rw [cu_first]; go_num, rfl⟩
  case round =>
    obtain ⟨k, hk0, hk1, rfl, rfl, HW⟩ := hrel
    obtain rfl := HW.out.symm
    obtain ⟨u0, u1⟩ := cu_pos (y := y) (m := k) hk0 (by omega)
    by_cases hlt : k < m
    · have HL := hid (f56 y k w2 (by omega) (by omega) hk0 (by omega) HM2.out)
      obtain ⟨p0, p1⟩ := ml_pos y k
      have HN := hid (cu_next (y := y) (m := k) hk0 (by omega))
      generalize ml y k = x at *
      generalize cu y k = u at *
      go_wp2_with fail
      refine HL.out.mono ?_
      rintro e w3 ⟨rfl, hw⟩; subst w3
      go_wp2
      go_roundw
      case rel => exact ⟨k + 1, by omega, by omega, by go_num, by rw [HN.out]; congr 1; omega, trivial⟩
      case measure => simp [intOf]; omega
    · obtain rfl : k = m := by omega
      go_wp2
      go_ret
      exact ⟨rfl, HB2⟩
theorem f44 (y m d : Int) (w : World) (hM : Mon w) (hR : Rgl w) :
    Calls Tryd.prog 44 #[.int .i64 y, .int .i64 m, .int .i64 d] w fun e w' => e = .returned (.int .i64 (dn y m d)) ∧ Hid (Below w.heap.size w w') := by
  by_cases h : Is y m d
  · rw [show dn y m d = F y + cu y m + d - 1 from if_pos h]
    exact num_yes y m d w h hM hR
  · rw [show dn y m d = -1 from if_neg h]
    exact num_no y m d w h hM hR
end Go.Proofs.YtcnilidckicccaaDoor.Cal
