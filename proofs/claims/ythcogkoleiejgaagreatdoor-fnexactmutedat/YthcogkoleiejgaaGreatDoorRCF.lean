/- The model's DateOf and DayNumber. -/
import Derived.Test.YthcogkoleiejgaaGreatDoorRCA
namespace Go.Proofs.YthcogkoleiejgaaGreatDoor.Cal
open Go.RowKit

set_option maxHeartbeats 2000000 in
theorem sdate_no (t z : Int) (w : World) (h : ¬ Has t z) :
    Calls Tryz.prog 113 #[.int .i64 t, .int .i64 z] w fun e w' => e = .returned dz ∧ Hid (Below w.heap.size w w') := by
  have H1 := fun x => hid (f40 t x)
  have HB : ∀ a b c d e f, Hid (Below w.heap.size w (w.alloc (dc a b c d e f))) := fun _ _ _ _ _ _ => (Below.refl _ _).alloc (Nat.le_refl _) _
  by_cases a : 0 ≤ t ∧ t ≤ 1000000000000
  · simp only [decide_eq_true a] at H1
    obtain ⟨a0, a1⟩ := a
    by_cases b : z < -1440
    · clear h
      go_enter Tryz.func113, Tryz.ntmps113
      go_wp2_with fail
      refine (H1 _).out.mono ?_
      rintro e w1 ⟨rfl, hw⟩; subst w1
      go_wp2
      go_returns
      exact ⟨rfl, HB _ _ _ _ _ _⟩
    · by_cases c : z > 1440
      · clear h
        go_enter Tryz.func113, Tryz.ntmps113
        go_wp2_with fail
        refine (H1 _).out.mono ?_
        rintro e w1 ⟨rfl, hw⟩; subst w1
        go_wp2
        go_returns
        exact ⟨rfl, HB _ _ _ _ _ _⟩
      · have d : t + 60 * z < 0 := by unfold Has at h; omega
        clear h
        go_enter Tryz.func113, Tryz.ntmps113
        go_wp2_with fail
        refine (H1 _).out.mono ?_
        rintro e w1 ⟨rfl, hw⟩; subst w1
        go_wp2
        go_returns
        exact ⟨rfl, HB _ _ _ _ _ _⟩
  · simp only [decide_eq_false a] at H1
    clear h a
    go_enter Tryz.func113, Tryz.ntmps113
    go_wp2_with fail
    refine (H1 _).out.mono ?_
    rintro e w1 ⟨rfl, hw⟩; subst w1
    go_wp2
    go_returns
    exact ⟨rfl, HB _ _ _ _ _ _⟩

/-- The year is looked for: so many days are left. -/
def Ye (D y l : Int) : Prop := 1970 ≤ y ∧ 0 ≤ l ∧ F y + l = D
/-- The model's boxes: the answer and the date that is looked for. -/
structure Bo (w : World) (y m d l k n : Int) (x : World) : Prop where
  a : Six x w.heap.size 0 0 0 0 0 0
  b : Six x (w.heap.size + 1) y m d l k n
  bel : Below w.heap.size w x
theorem Bo.mv {w x x' : World} {y m d l k n : Int} (h : Bo w y m d l k n x) (hb : Below x.heap.size x x') : Bo w y m d l k n x' :=
  ⟨h.a.below hb, h.b.below hb, h.bel.trans (hb.mono h.bel.size)⟩
theorem six_set {x : World} {b c : Nat} {v : Value} {o : Nat} {y m d l k n : Int} (h : Six x b y m d l k n) (hc : b ≠ c) : Six (x.setCell ⟨c, o, none⟩ v) b y m d l k n := by
  refine ⟨?_⟩
  show (x.heap.modify c _)[b]? = _
  rw [Array.getElem?_modify, if_neg (by omega)]
  exact h.x
theorem Bo.s0 {w x : World} {y m d l k n : Int} (h : Bo w y m d l k n x) (v : Int) : Bo w v m d l k n (x.setCell ⟨w.heap.size + 1, 0, none⟩ (.int .i64 v)) := ⟨six_set h.a (by omega), h.b.s0 v, h.bel.setCell (by simp) _⟩
theorem Bo.s1 {w x : World} {y m d l k n : Int} (h : Bo w y m d l k n x) (v : Int) : Bo w y v d l k n (x.setCell ⟨w.heap.size + 1, 1, none⟩ (.int .i64 v)) := ⟨six_set h.a (by omega), h.b.s1 v, h.bel.setCell (by simp) _⟩
theorem Bo.s2 {w x : World} {y m d l k n : Int} (h : Bo w y m d l k n x) (v : Int) : Bo w y m v l k n (x.setCell ⟨w.heap.size + 1, 2, none⟩ (.int .i64 v)) := ⟨six_set h.a (by omega), h.b.s2 v, h.bel.setCell (by simp) _⟩
theorem Bo.s3 {w x : World} {y m d l k n : Int} (h : Bo w y m d l k n x) (v : Int) : Bo w y m d v k n (x.setCell ⟨w.heap.size + 1, 3, none⟩ (.int .i64 v)) := ⟨six_set h.a (by omega), h.b.s3 v, h.bel.setCell (by simp) _⟩
theorem Bo.first (w : World) (k n : Int) : Bo w 1970 1 0 0 k n ((w.alloc (dc 0 0 0 0 0 0)).alloc (dc 1970 1 0 0 k n)) := by
  refine ⟨(Six.new w 0 0 0 0 0 0).below ((Below.refl _ _).alloc (Nat.le_refl _) _), ?_, ((Below.refl _ _).alloc (Nat.le_refl _) _).alloc (by simp) _⟩
  have := Six.new (w.alloc (dc 0 0 0 0 0 0)) 1970 1 0 0 k n
  simpa using this

set_option maxHeartbeats 4000000 in
theorem sdate_yes (t z : Int) (w : World) (h : Has t z) :
    Calls Tryz.prog 113 #[.int .i64 t, .int .i64 z] w fun e w' => ∃ v, e = .returned v ∧ Hid (DtR t z v true) ∧ Hid (Below w.heap.size w w') := by
  have H1 := fun x => hid (f40 t x)
  have HH := hid h
  obtain ⟨a0, a1, b0, b1, c⟩ := h
  simp only [decide_eq_true (show 0 ≤ t ∧ t ≤ 1000000000000 from ⟨a0, a1⟩)] at H1
  have c1 : ¬ z < -1440 := by omega
  have c2 : ¬ z > 1440 := by omega
  have c3 : ¬ t + 60 * z < 0 := by omega
  have r1 : Int.tdiv (t + 60 * z) 60 = (t + 60 * z) / 60 := Int.tdiv_eq_ediv_of_nonneg (by omega)
  have r2 : Int.tdiv ((t + 60 * z) / 60) 1440 = (t + 60 * z) / 60 / 1440 := Int.tdiv_eq_ediv_of_nonneg (by omega)
  have r3 : Int.tmod ((t + 60 * z) / 60 / 1440 + 4) 7 = ((t + 60 * z) / 60 / 1440 + 4) % 7 := Int.tmod_eq_emod_of_nonneg (by omega)
  have r4 : Int.tmod ((t + 60 * z) / 60) 1440 = (t + 60 * z) / 60 % 1440 := Int.tmod_eq_emod_of_nonneg (by omega)
  have k0 : 0 ≤ (t + 60 * z) / 60 := by omega
  have k1 : (t + 60 * z) / 60 ≤ 20000000000 := by omega
  have d0 : 0 ≤ (t + 60 * z) / 60 / 1440 := by omega
  have d1 : (t + 60 * z) / 60 / 1440 ≤ 20000000 := by omega
  have e0 : 0 ≤ (t + 60 * z) / 60 % 1440 := by omega
  have e1 : (t + 60 * z) / 60 % 1440 ≤ 1440 := by omega
  have HD : Hid ((t + 60 * z) / 60 / 1440 = (t + z * 60) / 86400) := by unfold Hid; omega
  have HI : Hid ((t + 60 * z) / 60 % 1440 = (t + z * 60) % 86400 / 60) := by unfold Hid; omega
  have HK : Hid (((t + 60 * z) / 60 / 1440 + 4) % 7 = (4 + (t + z * 60) / 86400) % 7) := by unfold Hid; omega
  have HO := hid (Bo.first w (((t + 60 * z) / 60 / 1440 + 4) % 7) ((t + 60 * z) / 60 % 1440))
  have HE := hid (rfl : (w.alloc (dc 0 0 0 0 0 0)).alloc (dc 1970 1 0 0 (((t + 60 * z) / 60 / 1440 + 4) % 7) ((t + 60 * z) / 60 % 1440)) = (w.alloc (dc 0 0 0 0 0 0)).alloc (dc 1970 1 0 0 (((t + 60 * z) / 60 / 1440 + 4) % 7) ((t + 60 * z) / 60 % 1440)))
  obtain ⟨W, hW⟩ : ∃ W, W = (w.alloc (dc 0 0 0 0 0 0)).alloc (dc 1970 1 0 0 (((t + 60 * z) / 60 / 1440 + 4) % 7) ((t + 60 * z) / 60 % 1440)) := ⟨_, rfl⟩
  rw [← hW] at HO
  have HW := hid hW
  clear hW HE
  have HS : Hid (Ye ((t + 60 * z) / 60 / 1440) 1970 ((t + 60 * z) / 60 / 1440)) := ⟨by omega, d0, by rw [F_first]; omega⟩
  go_enter Tryz.func113, Tryz.ntmps113
  go_wp2_with fail
  refine (H1 _).out.mono ?_
  rintro e w1 ⟨rfl, hw⟩; subst w1
  go_wp2_with fail
  rw [← HW.out]
  generalize ((t + 60 * z) / 60 / 1440 + 4) % 7 = K at *
  generalize (t + 60 * z) / 60 % 1440 = MI at *
  have HQ := hid d1
  generalize (t + 60 * z) / 60 / 1440 = D at *
  clear HW H1 r1 r2 r3 r4 k0 k1 c1 c2 c3 e0 e1
  go_loopw [6] (fun s wr => ∃ l y : Int, s = .int .i64 l ∧ Hid (Ye D y l) ∧ Hid (Bo w y 1 0 0 K MI wr)) (fun s _ => (intOf s).toNat)
  case atStart => exact ⟨D, 1970, rfl, HS, HO⟩
  case round =>
    obtain ⟨l, y, rfl, HY, HO⟩ := hrel
    obtain ⟨hy0, hl0, hsum⟩ := HY.out
    have HM := hid hsum
    have hlow := F_low hy0
    have hy1 : y ≤ 100000 := by omega
    have hl1 : l ≤ 20000000 := by omega
    clear hsum hlow
    obtain ⟨x0, x1, x2, x3, x4, x5⟩ := HO.out.b.cells
    obtain ⟨p0, p1, p2, p3, p4, p5⟩ := HO.out.b.froz
    have HL := fun x => hid (f137 y x (by omega) (by omega))
    obtain ⟨q0, q1⟩ := yl_pos y
    by_cases hge : l ≥ yl y
    · have HN : Hid (Ye D (y + 1) (l - yl y)) := ⟨by omega, by omega, by rw [F_next, ← HM.out]; omega⟩
      have HO2 := hid (HO.out.s0 (y + 1))
      generalize yl y = x at *
      go_wp2_with fail
      refine (HL _).out.mono ?_
      rintro e w1 ⟨rfl, hw⟩; subst w1
      go_wp2_with fail
      refine (HL _).out.mono ?_
      rintro e w1 ⟨rfl, hw⟩; subst w1
      go_wp2
      go_roundw
      case rel => exact ⟨l - x, y + 1, rfl, HN, HO2⟩
      case measure => simp [intOf]; omega
    · have HR : Hid (Yr D y) := ⟨hy0, by have := HM.out; omega, by rw [F_next, ← HM.out]; omega⟩
      have HF : Hid (Mo D y 1 l) := ⟨by omega, by omega, hl0, by rw [cu_first]; have := HM.out; omega⟩
      generalize yl y = x at *
      go_wp2_with fail
      refine (HL _).out.mono ?_
      rintro e w1 ⟨rfl, hw⟩; subst w1
      go_wp2
      clear hge hl0 hl1 HY HM q0 q1 HL x0 x1 x2 x3 x4 x5 p0 p1 p2 p3 p4 p5
      go_loopw [6] (fun s wr => ∃ l m : Int, s = .int .i64 l ∧ Hid (Mo D y m l) ∧ Hid (Bo w y m 0 0 K MI wr)) (fun s _ => (intOf s).toNat)
      case atStart => exact ⟨l, 1, rfl, HF, HO⟩
      case round =>
        clear HF HO
        obtain ⟨l, m, rfl, HF, HO⟩ := hrel
        obtain ⟨hm0, hm1, hl0, hsum⟩ := HF.out
        have hl1 : l ≤ 20000000 := by
          have b := (cu_pos (y := y) (m := m) hm0 (by omega)).1
          have c := F_mono hy0
          rw [F_first] at c
          omega
        clear hsum
        obtain ⟨x0, x1, x2, x3, x4, x5⟩ := HO.out.b.cells
        have HL := fun x => hid (f138 y m x (by omega) (by omega) hm0 hm1)
        obtain ⟨q0, q1⟩ := ml_pos y m
        by_cases hge : l ≥ ml y m
        · have HN := hid (HF.out.next HR.out hge)
          generalize ml y m = x at *
          go_wp2_with fail
          refine (HL _).out.mono ?_
          rintro e w1 ⟨rfl, hb1⟩
          have HO1 := hid (HO.out.mv hb1)
          clear hb1
          obtain ⟨y0, y1, y2, y3, y4, y5⟩ := HO1.out.b.cells
          go_wp2_with fail
          refine (HL _).out.mono ?_
          rintro e w2 ⟨rfl, hb2⟩
          have HO2 := hid (HO1.out.mv hb2)
          clear hb2
          obtain ⟨z0, z1, z2, z3, z4, z5⟩ := HO2.out.b.cells
          obtain ⟨p0, p1, p2, p3, p4, p5⟩ := HO2.out.b.froz
          have HO3 := hid (HO2.out.s1 (m + 1))
          go_wp2
          go_roundw
          case rel => exact ⟨l - x, m + 1, rfl, HN, HO3⟩
          case measure => simp [intOf]; omega
        · have HN := hid (HF.out.last HR.out (by omega))
          obtain ⟨x, hx⟩ : ∃ x, x = ml y m := ⟨_, rfl⟩
          have HX := hid hx
          simp only [← hx] at HL q0 q1 hge
          clear hx
          have HV : Hid (DtR t z (dv y m (l + 1) x K MI) true) := .inr ⟨HH.out, rfl, y, m, l + 1, by rw [HX.out, HK.out, HI.out], by rw [← HD.out]; exact HN.out⟩
          go_wp2_with fail
          refine (HL _).out.mono ?_
          rintro e w1 ⟨rfl, hb1⟩
          have HO1 := hid (HO.out.mv hb1)
          clear hb1
          obtain ⟨y0, y1, y2, y3, y4, y5⟩ := HO1.out.b.cells
          obtain ⟨p0, p1, p2, p3, p4, p5⟩ := HO1.out.b.froz
          have HO2 := hid (HO1.out.s2 (l + 1))
          have HE := hid (rfl : w1.setCell ⟨w.heap.size + 1, 2, none⟩ (.int .i64 (l + 1)) = w1.setCell ⟨w.heap.size + 1, 2, none⟩ (.int .i64 (l + 1)))
          obtain ⟨W2, hW2⟩ : ∃ W2, W2 = w1.setCell ⟨w.heap.size + 1, 2, none⟩ (.int .i64 (l + 1)) := ⟨_, rfl⟩
          rw [← hW2] at HO2
          have HW2 := hid hW2
          clear hW2 HE
          go_upto_region 13 with fail
          rw [← HW2.out]
          clear HW2 p0 p1 p2 p3 p4 p5
          obtain ⟨z0, z1, z2, z3, z4, z5⟩ := HO2.out.b.cells
          go_wp2_with fail
          refine (HL _).out.mono ?_
          rintro e w3 ⟨rfl, hb3⟩
          have HO3 := hid (HO2.out.mv hb3)
          clear hb3
          obtain ⟨p0, p1, p2, p3, p4, p5⟩ := HO3.out.b.froz
          obtain ⟨c0, c1, c2, c3, c4, c5⟩ := HO3.out.b.cells
          have HO4 := hid (HO3.out.s3 x)
          obtain ⟨W4, hW4⟩ : ∃ W4, W4 = w3.setCell ⟨w.heap.size + 1, 3, none⟩ (.int .i64 x) := ⟨_, rfl⟩
          rw [← hW4] at HO4
          have HW4 := hid hW4
          clear hW4
          go_upto_region 14 with fail
          rw [← HW4.out]
          clear HW4 p0 p1 p2 p3 p4 p5
          obtain ⟨g0, g1, g2, g3, g4, g5⟩ := HO4.out.b.cells
          obtain ⟨o0, o1, o2, o3, o4, o5⟩ := HO4.out.a.cells
          obtain ⟨p0, p1, p2, p3, p4, p5⟩ := HO4.out.a.froz
          go_wp2
          have HA := HO4.out.a.all (y' := y) (m' := m) (d' := l + 1) (l' := x) (k' := K) (n' := MI)
          obtain ⟨n0, n1, n2, n3, n4, n5⟩ := HA.cells
          refine bodyPost_ret (v := dv y m (l + 1) x K MI) ?_ rfl ⟨_, rfl, HV, below_all HO4.out.bel (Nat.le_refl _)⟩
          simp [results, Tryz.results113, go_sem, n0, n1, n2, n3, n4, n5]
theorem f113 (t z : Int) (w : World) :
    Calls Tryz.prog 113 #[.int .i64 t, .int .i64 z] w fun e w' => ∃ v b, e = .returned v ∧ Hid (DtR t z v b) ∧ Hid (Below w.heap.size w w') := by
  by_cases h : Has t z
  · refine (sdate_yes t z w h).mono ?_
    rintro e w1 ⟨v, rfl, HD, HB⟩
    exact ⟨v, true, rfl, HD, HB⟩
  · refine (sdate_no t z w h).mono ?_
    rintro e w1 ⟨rfl, HB⟩
    exact ⟨_, false, rfl, .inl ⟨h, rfl, rfl⟩, HB⟩
end Go.Proofs.YthcogkoleiejgaaGreatDoor.Cal
/- The model's DayNumber; the walks of FnExactDateOf and FnExactDayNumber. -/
namespace Go.Proofs.YthcogkoleiejgaaGreatDoor.Cal
open Go.RowKit

set_option maxHeartbeats 2000000 in
theorem snum_no (y m d : Int) (w : World) (h : ¬ Is y m d) :
    Calls Tryz.prog 116 #[.int .i64 y, .int .i64 m, .int .i64 d] w fun e w' => e = .returned (.int .i64 (-1)) ∧ Hid (Below w.heap.size w w') := by
  by_cases a0 : y < 1970
  · clear h
    go_enter Tryz.func116, Tryz.ntmps116
    go_wp2
    go_ret
    exact ⟨rfl, Below.refl _ _⟩
  by_cases a1 : y > 40000
  · clear h
    go_enter Tryz.func116, Tryz.ntmps116
    go_wp2
    go_ret
    exact ⟨rfl, Below.refl _ _⟩
  by_cases a2 : m < 1
  · clear h
    go_enter Tryz.func116, Tryz.ntmps116
    go_wp2
    go_ret
    exact ⟨rfl, Below.refl _ _⟩
  by_cases a3 : m > 12
  · clear h
    go_enter Tryz.func116, Tryz.ntmps116
    go_wp2
    go_ret
    exact ⟨rfl, Below.refl _ _⟩
  by_cases a4 : d < 1
  · clear h
    go_enter Tryz.func116, Tryz.ntmps116
    go_wp2
    go_ret
    exact ⟨rfl, Below.refl _ _⟩
  have a5 : d > ml y m := by unfold Is at h; omega
  have HL := hid (f138 y m w (by omega) (by omega) (by omega) (by omega))
  clear h
  generalize ml y m = x at *
  go_enter Tryz.func116, Tryz.ntmps116
  go_wp2_with fail
  refine HL.out.mono ?_
  rintro e w1 ⟨rfl, hb⟩
  have HB := hid hb
  clear hb
  go_wp2
  go_ret
  exact ⟨rfl, HB⟩

set_option maxHeartbeats 4000000 in
theorem snum_yes (y m d : Int) (w : World) (h : Is y m d) :
    Calls Tryz.prog 116 #[.int .i64 y, .int .i64 m, .int .i64 d] w fun e w' => e = .returned (.int .i64 (F y + cu y m + d - 1)) ∧ Hid (Below w.heap.size w w') := by
  obtain ⟨a0, a1, b0, b1, d0, d1⟩ := h
  have HL := hid (f138 y m w (by omega) (by omega) b0 b1)
  have d4 : d ≤ 31 := by have := (ml_pos y m).2; omega
  have n0 : ¬ y < 1970 := by omega
  have n1 : ¬ y > 40000 := by omega
  have n2 : ¬ m < 1 := by omega
  have n3 : ¬ m > 12 := by omega
  have n4 : ¬ d < 1 := by omega
  have n5 : ¬ d > ml y m := by omega
  generalize ml y m = x at *
  go_enter Tryz.func116, Tryz.ntmps116
  go_wp2_with fail
  refine HL.out.mono ?_
  rintro e w1 ⟨rfl, hb⟩
  have HB := hid hb
  clear hb HL
  go_wp2
  clear d1 n0 n1 n2 n3 n4 n5
  go_loopw [7, 8] (fun s7 s8 wr => ∃ k : Int, 1970 ≤ k ∧ k ≤ y ∧ s8 = .int .i64 k ∧ s7 = .int .i64 (F k + d - 1) ∧ Hid (wr = w1)) (fun _ s _ => (50000 - intOf s).toNat)
  case atStart => exact ⟨1970, by omega, by omega, rfl, by rw [F_first]; congr 1; omega, rfl⟩
  case round =>
    obtain ⟨k, hk0, hk1, rfl, rfl, HW⟩ := hrel
    obtain rfl := HW.out.symm
    obtain ⟨u0, u1⟩ := F_bounds (y := k) (by omega) (by omega)
    by_cases hlt : k < y
    · have HL := hid (f137 k w1 (by omega) (by omega))
      obtain ⟨p0, p1⟩ := yl_pos k
      have HN := hid (F_next k)
      generalize yl k = q at *
      generalize F k = u at *
      go_wp2_with fail
      refine HL.out.mono ?_
      rintro e w3 ⟨rfl, hw⟩; subst w3
      go_wp2
      go_roundw
      case rel => exact ⟨k + 1, by omega, by omega, by go_num, by rw [HN.out]; congr 1; omega, trivial⟩
      case measure => simp [intOf]; omega
    · obtain rfl : k = y := by omega
      obtain ⟨u, hu⟩ : ∃ u, u = F k := ⟨_, rfl⟩
      rw [← hu] at u0 u1 ⊢
      have HU := hid hu
      clear hu
      go_wp2
      clear hlt HW
      go_loopw [7, 9] (fun s7 s8 wr => ∃ j : Int, 1 ≤ j ∧ j ≤ m ∧ s8 = .int .i64 j ∧ s7 = .int .i64 (u + cu k j + d - 1) ∧ Hid (Below w.heap.size w wr)) (fun _ s _ => (20 - intOf s).toNat)
      case atStart => exact ⟨1, by omega, by omega, rfl, by rw [cu_first]; congr 1; omega, HB⟩
      case round =>
        obtain ⟨j, hj0, hj1, rfl, rfl, HX⟩ := hrel
        obtain ⟨v0, v1⟩ := cu_pos (y := k) (m := j) hj0 (by omega)
        by_cases hlt : j < m
        · have HL := fun x => hid (f138 k j x (by omega) (by omega) hj0 (by omega))
          obtain ⟨p0, p1⟩ := ml_pos k j
          have HN := hid (cu_next (y := k) (m := j) hj0 (by omega))
          generalize ml k j = q at *
          generalize cu k j = v at *
          go_wp2_with fail
          refine (HL _).out.mono ?_
          rintro e w3 ⟨rfl, hb⟩
          have HX3 := hid (HX.out.trans (hb.mono HX.out.size))
          clear hb
          go_wp2
          go_roundw
          case rel => exact ⟨j + 1, by omega, by omega, by go_num, by rw [HN.out]; congr 1; omega, HX3⟩
          case measure => simp [intOf]; omega
        · obtain rfl : j = m := by omega
          go_wp2
          go_ret
          exact ⟨by rw [← HU.out]; rfl, HX⟩
theorem f116 (y m d : Int) (w : World) :
    Calls Tryz.prog 116 #[.int .i64 y, .int .i64 m, .int .i64 d] w fun e w' => e = .returned (.int .i64 (dn y m d)) ∧ Hid (Below w.heap.size w w') := by
  by_cases h : Is y m d
  · rw [show dn y m d = F y + cu y m + d - 1 from if_pos h]
    exact snum_yes y m d w h
  · rw [show dn y m d = -1 from if_neg h]
    exact snum_no y m d w h

/-- Of one time and zone one thing is said. -/
theorem DtR.one {t z : Int} {v u : Value} {b c : Bool} (h : DtR t z v b) (g : DtR t z u c) : v = u ∧ b = c := by
  rcases h with ⟨hn, rfl, rfl⟩ | ⟨hy, rfl, y, m, d, rfl, hd⟩ <;> rcases g with ⟨gn, rfl, rfl⟩ | ⟨gy, rfl, y', m', d', rfl, gd⟩
  · exact ⟨rfl, rfl⟩
  · exact absurd gy hn
  · exact absurd hy gn
  · obtain ⟨rfl, rfl, rfl⟩ := hd.one gd
    exact ⟨rfl, rfl⟩
theorem DtR.six {t z : Int} {v : Value} {b : Bool} (h : DtR t z v b) : ∃ y m d l k n, v = dv y m d l k n := by
  rcases h with ⟨hn, rfl, rfl⟩ | ⟨hy, rfl, y, m, d, rfl, hd⟩
  · exact ⟨0, 0, 0, 0, 0, 0, rfl⟩
  · exact ⟨_, _, _, _, _, _, rfl⟩
theorem two_boxes {w1 w2 : World} {y m d l k n : Int} {b : Nat} (h : Six w1 b y m d l k n) (hb : Below w1.heap.size w1 w2) : Six (w2.alloc (dc y m d l k n)) b y m d l k n := (h.below hb).below ((Below.refl _ _).alloc (Nat.le_refl _) _)

end Go.Proofs.YthcogkoleiejgaaGreatDoor.Cal
