/- The model's DayNumber; the walks of FnExactDateOf and FnExactDayNumber. -/
import Derived.Test.YtcnilidckicccaaDoorClf
namespace Go.Proofs.YtcnilidckicccaaDoor.Cal
open Go.RowKit

set_option maxHeartbeats 2000000 in
theorem snum_no (y m d : Int) (w : World) (h : ¬ Is y m d) :
    Calls Tryd.prog 11 #[.int .i64 y, .int .i64 m, .int .i64 d] w fun e w' => e = .returned (.int .i64 (-1)) ∧ Hid (Below w.heap.size w w') := by
  by_cases a0 : y < 1970
  · clear h
    go_enter Tryd.func11, Tryd.ntmps11
    go_wp2
    go_ret
    exact ⟨rfl, Below.refl _ _⟩
  by_cases a1 : y > 40000
  · clear h
    go_enter Tryd.func11, Tryd.ntmps11
    go_wp2
    go_ret
    exact ⟨rfl, Below.refl _ _⟩
  by_cases a2 : m < 1
  · clear h
    go_enter Tryd.func11, Tryd.ntmps11
    go_wp2
    go_ret
    exact ⟨rfl, Below.refl _ _⟩
  by_cases a3 : m > 12
  · clear h
    go_enter Tryd.func11, Tryd.ntmps11
    go_wp2
    go_ret
    exact ⟨rfl, Below.refl _ _⟩
  by_cases a4 : d < 1
  · clear h
    go_enter Tryd.func11, Tryd.ntmps11
    go_wp2
    go_ret
    exact ⟨rfl, Below.refl _ _⟩
  have a5 : d > ml y m := by unfold Is at h; omega
  have HL := hid (f27 y m w (by omega) (by omega) (by omega) (by omega))
  clear h
  generalize ml y m = x at *
  go_enter Tryd.func11, Tryd.ntmps11
  go_wp2_with fail
  refine HL.out.mono ?_
  rintro e w1 ⟨rfl, hb⟩
  have HB := hid hb
  clear hb
  go_wp2
  go_ret
  exact ⟨rfl, HB⟩

set_option maxHeartbeats 4000000 in
theorem snum_yes (y m d : Int) (w : World) (h : Is y m d) :
    Calls Tryd.prog 11 #[.int .i64 y, .int .i64 m, .int .i64 d] w fun e w' => e = .returned (.int .i64 (F y + cu y m + d - 1)) ∧ Hid (Below w.heap.size w w') := by
  obtain ⟨a0, a1, b0, b1, d0, d1⟩ := h
  have HL := hid (f27 y m w (by omega) (by omega) b0 b1)
  have d4 : d ≤ 31 := by have := (ml_pos y m).2; omega
  have n0 : ¬ y < 1970 := by omega
  have n1 : ¬ y > 40000 := by omega
  have n2 : ¬ m < 1 := by omega
  have n3 : ¬ m > 12 := by omega
  have n4 : ¬ d < 1 := by omega
  have n5 : ¬ d > ml y m := by omega
  generalize ml y m = x at *
  go_enter Tryd.func11, Tryd.ntmps11
  go_wp2_with fail
  refine HL.out.mono ?_
  rintro e w1 ⟨rfl, hb⟩
  have HB := hid hb
  clear hb HL
  go_wp2
  clear d1 n0 n1 n2 n3 n4 n5
  go_loopw [7, 8] (fun s7 s8 wr => ∃ k : Int, 1970 ≤ k ∧ k ≤ y ∧ s8 = .int .i64 k ∧ s7 = .int .i64 (F k + d - 1) ∧ Hid (wr = w1)) (fun _ s _ => (50000 - intOf s).toNat)
  case atStart => exact ⟨1970, by omega, by omega, rfl, by rw [F_first]; congr 1; omega, rfl⟩
  case round =>
    obtain ⟨k, hk0, hk1, rfl, rfl, HW⟩ := hrel
    obtain rfl := HW.out.symm
    obtain ⟨u0, u1⟩ := F_bounds (y := k) (by omega) (by omega)
    by_cases hlt : k < y
    · have HL := hid (f26 k w1 (by omega) (by omega))
      obtain ⟨p0, p1⟩ := yl_pos k
      have HN := hid (F_next k)
      generalize yl k = q at *
      generalize F k = u at *
      go_wp2_with fail
      refine HL.out.mono ?_
      rintro e w3 ⟨rfl, hw⟩; subst w3
      go_wp2
      go_roundw
      case rel => exact ⟨k + 1, by omega, by omega, by go_num, by rw [HN.out]; congr 1; omega, trivial⟩
      case measure => simp [intOf]; omega
    · obtain rfl : k = y := by omega
      obtain ⟨u, hu⟩ : ∃ u, u = F k := ⟨_, rfl⟩
      rw [← hu] at u0 u1 ⊢
      have HU := hid hu
      clear hu
      go_wp2
      clear hlt HW
      go_loopw [7, 9] (fun s7 s8 wr => ∃ j : Int, 1 ≤ j ∧ j ≤ m ∧ s8 = .int .i64 j ∧ s7 = .int .i64 (u + cu k j + d - 1) ∧ Hid (Below w.heap.size w wr)) (fun _ s _ => (20 - intOf s).toNat)
      case atStart => exact ⟨1, by omega, by omega, rfl, by rw [cu_first]; congr 1; omega, HB⟩
      case round =>
        obtain ⟨j, hj0, hj1, rfl, rfl, HX⟩ := hrel
        obtain ⟨v0, v1⟩ := cu_pos (y := k) (m := j) hj0 (by omega)
        by_cases hlt : j < m
        · have HL := fun x => hid (f27 k j x (by omega) (by omega) hj0 (by omega))
          obtain ⟨p0, p1⟩ := ml_pos k j
          have HN := hid (cu_next (y := k) (m := j) hj0 (by omega))
          generalize ml k j = q at *
          generalize cu k j = v at *
          go_wp2_with fail
          refine (HL _).out.mono ?_
          rintro e w3 ⟨rfl, hb⟩
          have HX3 := hid (HX.out.trans (hb.mono HX.out.size))
          clear hb
          go_wp2
          go_roundw
          case rel => exact ⟨j + 1, by omega, by omega, by go_num, by rw [HN.out]; congr 1; omega, HX3⟩
          case measure => simp [intOf]; omega
        · obtain rfl : j = m := by omega
          go_wp2
          go_ret
          exact ⟨by rw [← HU.out]; rfl, HX⟩
theorem f11 (y m d : Int) (w : World) :
    Calls Tryd.prog 11 #[.int .i64 y, .int .i64 m, .int .i64 d] w fun e w' => e = .returned (.int .i64 (dn y m d)) ∧ Hid (Below w.heap.size w w') := by
  by_cases h : Is y m d
  · rw [show dn y m d = F y + cu y m + d - 1 from if_pos h]
    exact snum_yes y m d w h
  · rw [show dn y m d = -1 from if_neg h]
    exact snum_no y m d w h

/-- Of one time and zone one thing is said. -/
theorem DtR.one {t z : Int} {v u : Value} {b c : Bool} (h : DtR t z v b) (g : DtR t z u c) : v = u ∧ b = c := by
  rcases h with ⟨hn, rfl, rfl⟩ | ⟨hy, rfl, y, m, d, rfl, hd⟩ <;> rcases g with ⟨gn, rfl, rfl⟩ | ⟨gy, rfl, y', m', d', rfl, gd⟩
  · exact ⟨rfl, rfl⟩
  · exact absurd gy hn
  · exact absurd hy gn
  · obtain ⟨rfl, rfl, rfl⟩ := hd.one gd
    exact ⟨rfl, rfl⟩
theorem DtR.six {t z : Int} {v : Value} {b : Bool} (h : DtR t z v b) : ∃ y m d l k n, v = dv y m d l k n := by
  rcases h with ⟨hn, rfl, rfl⟩ | ⟨hy, rfl, y, m, d, rfl, hd⟩
  · exact ⟨0, 0, 0, 0, 0, 0, rfl⟩
  · exact ⟨_, _, _, _, _, _, rfl⟩
theorem two_boxes {w1 w2 : World} {y m d l k n : Int} {b : Nat} (h : Six w1 b y m d l k n) (hb : Below w1.heap.size w1 w2) : Six (w2.alloc (dc y m d l k n)) b y m d l k n := (h.below hb).below ((Below.refl _ _).alloc (Nat.le_refl _) _)

end Go.Proofs.YtcnilidckicccaaDoor.Cal
