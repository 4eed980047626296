/- The model's DayNumber; the walks of FnExactDateOf and FnExactDayNumber. -/
import Derived.Test.YtlmcpicmbmbkgaaDoorClf
namespace Go.Proofs.YtlmcpicmbmbkgaaDoor.Cal
open Go.RowKit

set_option maxHeartbeats 2000000 in
theorem snum_no (y m d : Int) (w : World) (h : ¬ Is y m d) :
    Calls Tryd.prog 11 #[.int .i64 y, .int .i64 m, .int .i64 d] w fun e w' => e = .returned (.int .i64 (-1)) ∧ Hid (Below w.heap.size w w') := by
  by_cases a0 : y < 1970
  · clear h
    go_enter Tryd.func11, Tryd.ntmps11
    go_wp2
    go_ret
    exact ⟨rfl, Below.refl _ _⟩
  by_cases a1 : y > 40000
  · clear h
    go_enter Tryd.func11, Tryd.ntmps11
    go_wp2
    go_ret
    exact ⟨rfl, Below.refl _ _⟩
  by_cases a2 : m < 1
  · clear h
    go_enter Tryd.func11, Tryd.ntmps11
    go_wp2
    go_ret
    exact ⟨rfl, Below.refl _ _⟩
  by_cases a3 : m > 12
  · clear h
    go_enter Tryd.func11, Tryd.ntmps11
    go_wp2
    go_ret
    exact ⟨rfl, Below.refl _ _⟩
  by_cases a4 : d < 1
  · clear h
    go_enter Tryd.func11, Tryd.ntmps11
    go_wp2
    go_ret
    exact ⟨rfl, Below.refl _ _⟩
  have a5 : d > ml y m := by unfold Is at h; omega
  have HL := hid (f18 y m w (by omega) (by omega) (by omega) (by omega))
  clear h
  generalize ml y m = x at *
  go_enter Tryd.func11, Tryd.ntmps11
  go_wp2_with fail
  refine HL.out.mono ?_
  rintro e w1 ⟨rfl, hb⟩
  have HB := hid hb
  clear hb
  go_wp2
  go_ret
  exact ⟨rfl, HB⟩

set_option maxHeartbeats 4000000 in
theorem snum_yes (y m d : Int) (w : World) (h : Is y m d) :
    Calls Tryd.prog 11 #[.int .i64 y, .int .i64 m, .int .i64 d] w fun e w' => e = .returned (.int .i64 (F y + cu y m + d - 1)) ∧ Hid (Below w.heap.size w w') := by
  obtain ⟨a0, a1, b0, b1, d0, d1⟩ := h
  have HL := hid (f18 y m w (by omega) (by omega) b0 b1)
  have d4 : d ≤ 31 := by have := (ml_pos y m).2; omega
  have n0 : ¬ y < 1970 := by omega
  have n1 : ¬ y > 40000 := by omega
  have n2 : ¬ m < 1 := by omega
  have n3 : ¬ m > 12 := by omega
  have n4 : ¬ d < 1 := by omega
  have n5 : ¬ d > ml y m := by omega
  generalize ml y m = x at *
  go_enter Tryd.func11, Tryd.ntmps11
  go_wp2_with fail
  refine HL.out.mono ?_
  rintro e w1 ⟨rfl, hb⟩
  have HB := hid hb
  clear hb HL
  go_wp2
  clear d1 n0 n1 n2 n3 n4 n5
  go_loopw [7, 8] (fun s7 s8 wr => ∃ k : Int, 1970 ≤ k ∧ k ≤ y ∧ s8 = .int .i64 k ∧ s7 = .int .i64 (F k + d - 1) ∧ Hid (wr = w1)) (fun _ s _ => (50000 - intOf s).toNat)
  case atStart => exact ⟨1970, by omega, by omega, rfl, by rw [F_first]; congr 1; omega, rfl⟩
  case round =>
    obtain ⟨k, hk0, hk1, rfl, rfl, HW⟩ := hrel
    obtain rfl := HW.out.symm
    obtain ⟨u0, u1⟩ := F_bounds (y := k) (by omega) (by omega)
    by_cases hlt : k < y
    · have HL := hid (f17 k w1 (by omega) (by omega))
      obtain ⟨p0, p1⟩ := yl_pos k
      have HN := hid (F_next k)
      generalize yl k = q at *
      generalize F k = u at *
      go_wp2_with fail
      refine HL.out.mono ?_
      rintro e w3 ⟨rfl, hw⟩; subst w3
      go_wp2
      go_roundw
      case rel => exact ⟨k + 1, by omega, by omega, by go_num, by rw [HN.out]; congr 1; omega, trivial⟩
      case measure => simp [intOf]; omega
    · obtain rfl : k = y := by omega
      obtain ⟨u, hu⟩ : ∃ u, u = F k := ⟨_, rfl⟩
      rw [← hu] at u0 u1 ⊢
      have HU := hid hu
      clear hu
      go_wp2
      clear hlt HW
      go_loopw [7, 9] (fun s7 s8 wr => ∃ j : Int, 1 ≤ j ∧ j ≤ m ∧ s8 = .int .i64 j ∧ s7 = .int .i64 (u + cu k j + d - 1) ∧ Hid (Below w.heap.size w wr)) (fun _ s _ => (20 - intOf s).toNat)
      case atStart => exact ⟨1, by omega, by omega, rfl, by rw [cu_first]; congr 1; omega, HB⟩
      case round =>
        obtain ⟨j, hj0, hj1, rfl, rfl, HX⟩ := hrel
        obtain ⟨v0, v1⟩ := cu_pos (y := k) (m := j) hj0 (by omega)
        by_cases hlt : j < m
        · have HL := fun x => hid (f18 k j x (by omega) (by omega) hj0 (by omega))
          obtain ⟨p0, p1⟩ := ml_pos k j
          have HN := hid (cu_next (y := k) (m := j) hj0 (by omega))
          generalize ml k j = q at *
          generalize cu k j = v at *
          go_wp2_with fail
          refine (HL _).out.mono ?_
          rintro e w3 ⟨rfl, hb⟩
          have HX3 := hid (HX.out.trans (hb.mono HX.out.size))
          clear hb
          go_wp2
          go_roundw
          case rel => exact ⟨j + 1, by omega, by omega, by go_num, by rw [HN.out]; congr 1; omega, HX3⟩
          case measure => simp [intOf]; omega
        · obtain rfl : j = m := by omega
          go_wp2
          go_ret
          exact ⟨by rw [← HU.out]; rfl, HX⟩
theorem f11 (y m d : Int) (w : World) :
    Calls Tryd.prog 11 #[.int .i64 y, .int .i64 m, .int .i64 d] w fun e w' => e = .returned (.int .i64 (dn y m d)) ∧ Hid (Below w.heap.size w w') := by
  by_cases h : Is y m d
  · rw [show dn y m d = F y + cu y m + d - 1 from if_pos h]
    exact snum_yes y m d w h
  · rw [show dn y m d = -1 from if_neg h]
    exact snum_no y m d w h

set_option maxHeartbeats 2000000 in
theorem f10 (y m d l k n : Int) (w : World) :
    Calls Tryd.prog 10 #[dv y m d l k n, dv y m d l k n] w fun e w' => e = .returned (.bool true) ∧ Hid (Below w.heap.size w w') := by
  have g : ∀ a : Int, (a != a) = false := fun a => by simp
  have g0 := g y
  have g1 := g m
  have g2 := g d
  have g3 := g l
  have g4 := g k
  have g5 := g n
  clear g
  have HB := hid (((Below.refl w.heap.size w).alloc (Nat.le_refl _) (dc y m d l k n)).alloc (by simp) (dc y m d l k n))
  go_enter Tryd.func10, Tryd.ntmps10
  go_wp2
  go_ret
  exact ⟨rfl, HB⟩
/-- Of one time and zone one thing is said. -/
theorem DtR.one {t z : Int} {v u : Value} {b c : Bool} (h : DtR t z v b) (g : DtR t z u c) : v = u ∧ b = c := by
  rcases h with ⟨hn, rfl, rfl⟩ | ⟨hy, rfl, y, m, d, rfl, hd⟩ <;> rcases g with ⟨gn, rfl, rfl⟩ | ⟨gy, rfl, y', m', d', rfl, gd⟩
  · exact ⟨rfl, rfl⟩
  · exact absurd gy hn
  · exact absurd hy gn
  · obtain ⟨rfl, rfl, rfl⟩ := hd.one gd
    exact ⟨rfl, rfl⟩
theorem DtR.six {t z : Int} {v : Value} {b : Bool} (h : DtR t z v b) : ∃ y m d l k n, v = dv y m d l k n := by
  rcases h with ⟨hn, rfl, rfl⟩ | ⟨hy, rfl, y, m, d, rfl, hd⟩
  · exact ⟨0, 0, 0, 0, 0, 0, rfl⟩
  · exact ⟨_, _, _, _, _, _, rfl⟩
theorem two_boxes {w1 w2 : World} {y m d l k n : Int} {b : Nat} (h : Six w1 b y m d l k n) (hb : Below w1.heap.size w1 w2) : Six (w2.alloc (dc y m d l k n)) b y m d l k n := (h.below hb).below ((Below.refl _ _).alloc (Nat.le_refl _) _)

set_option maxHeartbeats 4000000 in
theorem walkDateOf (t z : Int) (w : World) (hM : Mon w) :
    Calls Tryd.prog 4 #[.int .i64 t, .int .i64 z] w fun e w' => e = .returned (.bool true) ∧ Below w.heap.size w w' := by
  have HM := hid hM
  clear hM
  have HS := fun x => hid (f8 t z x)
  go_enter Tryd.func4, Tryd.ntmps4
  go_wp2_with fail
  refine (HS _).out.mono ?_
  rintro e w1 ⟨v, b, rfl, HD, HB⟩
  obtain ⟨y, m, d, l, k, n, rfl⟩ := HD.out.six
  have HN := hid (Six.new w1 y m d l k n)
  have HB1 := hid (HB.out.alloc HB.out.size (dc y m d l k n))
  obtain ⟨W1, hW1⟩ : ∃ W1, W1 = w1.alloc (dc y m d l k n) := ⟨_, rfl⟩
  rw [← hW1] at HN HB1
  have HW := hid hW1
  clear hW1
  go_upto_region 2 with fail
  rw [← HW.out]
  clear HW HB HS
  generalize w1.heap.size = X at *
  have HI := hid (f7 t z W1 (HM.out.below HB1.out))
  go_wp2_with fail
  refine HI.out.mono ?_
  rintro e w2 ⟨v, b', rfl, HD2, HB2⟩
  obtain ⟨rfl, rfl⟩ := HD2.out.one HD.out
  have HN2 := hid (two_boxes HN.out HB2.out)
  have HB3 := hid (HB1.out.trans (HB2.out.mono HB1.out.size))
  have HB4 := hid (HB3.out.alloc HB3.out.size (dc y m d l k n))
  have HO := hid (Six.new w2 y m d l k n)
  obtain ⟨W2, hW2⟩ : ∃ W2, W2 = w2.alloc (dc y m d l k n) := ⟨_, rfl⟩
  rw [← hW2] at HN2 HB4 HO
  have HW := hid hW2
  clear hW2
  go_upto_region 3 with fail
  rw [← HW.out]
  clear HW HB3 HB2 HI
  generalize w2.heap.size = Y at *
  obtain ⟨x0, x1, x2, x3, x4, x5⟩ := HN2.out.cells
  obtain ⟨y0, y1, y2, y3, y4, y5⟩ := HO.out.cells
  go_wp2_with fail
  refine (f10 y m d l k n _).mono ?_
  rintro e w3 ⟨rfl, HB5⟩
  have HB6 := hid (HB4.out.trans (HB5.out.mono HB4.out.size))
  go_wp2
  go_ret
  exact ⟨rfl, HB6.out⟩

set_option maxHeartbeats 2000000 in
theorem walkDayNumber (y m d : Int) (w : World) (hM : Mon w) (hR : Rgl w) :
    Calls Tryd.prog 5 #[.int .i64 y, .int .i64 m, .int .i64 d] w fun e w' => e = .returned (.bool true) ∧ Below w.heap.size w w' := by
  have HM := hid hM
  have HR := hid hR
  clear hM hR
  have HS := fun x => hid (f11 y m d x)
  have HI := fun x a b => hid (f9 y m d x a b)
  generalize dn y m d = q at *
  have g : (q != q) = false := by simp
  go_enter Tryd.func5, Tryd.ntmps5
  go_wp2_with fail
  refine (HS _).out.mono ?_
  rintro e w1 ⟨rfl, HB⟩
  go_wp2_with fail
  refine (HI _ (HM.out.below HB.out) (HR.out.below HB.out)).out.mono ?_
  rintro e w2 ⟨rfl, HB1⟩
  have HB2 := hid (HB.out.trans (HB1.out.mono HB.out.size))
  go_wp2
  go_ret
  exact ⟨rfl, HB2.out⟩
end Go.Proofs.YtlmcpicmbmbkgaaDoor.Cal
