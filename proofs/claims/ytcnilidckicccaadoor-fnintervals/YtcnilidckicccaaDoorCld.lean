/- The program's DateOf and DayNumber. -/
import Derived.Test.YtcnilidckicccaaDoorClc
namespace Go.Proofs.YtcnilidckicccaaDoor.Cal
open Go.RowKit

/-- The time has a date in the zone. -/
def Has (t z : Int) : Prop := 0 ≤ t ∧ t ≤ 1000000000000 ∧ -1440 ≤ z ∧ z ≤ 1440 ∧ 0 ≤ t + z * 60
instance (t z : Int) : Decidable (Has t z) := by unfold Has; infer_instance
/-- What is said of a time in a zone: its date, or nothing. -/
def DtR (t z : Int) (v : Value) (b : Bool) : Prop := (¬ Has t z ∧ v = dz ∧ b = false) ∨ (Has t z ∧ b = true ∧ ∃ y m d, v = dv y m d (ml y m) ((4 + (t + z * 60) / 86400) % 7) ((t + z * 60) % 86400 / 60) ∧ Dt ((t + z * 60) / 86400) y m d)

set_option maxHeartbeats 2000000 in
theorem dateIn_no (t z : Int) (w : World) (h : ¬ Has t z) :
    Calls Tryd.prog 41 #[.int .i64 t, .int .i64 z] w fun e w' => e = .returned (.tuple #[dz, .bool false]) ∧ Hid (Below w.heap.size w w') := by
  have H1 := fun x => hid (f52 t x)
  have H2 := fun x => hid (f32 z x)
  have HB : ∀ a b c d e f, Hid (Below w.heap.size w (w.alloc (dc a b c d e f))) := fun _ _ _ _ _ _ => (Below.refl _ _).alloc (Nat.le_refl _) _
  by_cases a : 0 ≤ t ∧ t ≤ 1000000000000
  · simp only [decide_eq_true a] at H1
    by_cases b : -1440 ≤ z ∧ z ≤ 1440
    · simp only [decide_eq_true b] at H2
      have c : t + z * 60 < 0 := by unfold Has at h; omega
      clear h
      obtain ⟨a0, a1⟩ := a
      obtain ⟨b0, b1⟩ := b
      go_enter Tryd.func41, Tryd.ntmps41
      go_wp2_with fail
      refine (H1 _).out.mono ?_
      rintro e w1 ⟨rfl, hw⟩; subst w1
      go_wp2_with fail
      refine (H2 _).out.mono ?_
      rintro e w1 ⟨rfl, hw⟩; subst w1
      go_wp2
      go_returns
      exact ⟨rfl, HB _ _ _ _ _ _⟩
    · simp only [decide_eq_false b] at H2
      clear h b a
      go_enter Tryd.func41, Tryd.ntmps41
      go_wp2_with fail
      refine (H1 _).out.mono ?_
      rintro e w1 ⟨rfl, hw⟩; subst w1
      go_wp2_with fail
      refine (H2 _).out.mono ?_
      rintro e w1 ⟨rfl, hw⟩; subst w1
      go_wp2
      go_returns
      exact ⟨rfl, HB _ _ _ _ _ _⟩
  · simp only [decide_eq_false a] at H1
    clear h a
    go_enter Tryd.func41, Tryd.ntmps41
    go_wp2_with fail
    refine (H1 _).out.mono ?_
    rintro e w1 ⟨rfl, hw⟩; subst w1
    go_wp2
    go_returns
    exact ⟨rfl, HB _ _ _ _ _ _⟩

set_option maxHeartbeats 4000000 in
theorem dateIn_yes (t z : Int) (w : World) (h : Has t z) (hM : Mon w) :
    Calls Tryd.prog 41 #[.int .i64 t, .int .i64 z] w fun e w' => ∃ v, e = .returned (.tuple #[v, .bool true]) ∧ Hid (DtR t z v true) ∧ Hid (Below w.heap.size w w') := by
  have H1 := fun x => hid (f52 t x)
  have H2 := fun x => hid (f32 z x)
  have HH := hid h
  obtain ⟨a0, a1, b0, b1, c⟩ := h
  simp only [decide_eq_true (show 0 ≤ t ∧ t ≤ 1000000000000 from ⟨a0, a1⟩)] at H1
  simp only [decide_eq_true (show -1440 ≤ z ∧ z ≤ 1440 from ⟨b0, b1⟩)] at H2
  have c' : ¬ t + z * 60 < 0 := by omega
  have r1 : Int.tdiv (t + z * 60) 86400 = (t + z * 60) / 86400 := Int.tdiv_eq_ediv_of_nonneg c
  have r2 : Int.tmod (t + z * 60) 86400 = (t + z * 60) % 86400 := Int.tmod_eq_emod_of_nonneg c
  have r3 : Int.tdiv ((t + z * 60) % 86400) 60 = (t + z * 60) % 86400 / 60 := Int.tdiv_eq_ediv_of_nonneg (by omega)
  have d0 : 0 ≤ (t + z * 60) / 86400 := by omega
  have d1 : (t + z * 60) / 86400 ≤ 20000000 := by omega
  have e0 : 0 ≤ (t + z * 60) % 86400 / 60 := by omega
  have e1 : (t + z * 60) % 86400 / 60 ≤ 1440 := by omega
  have f0 : 0 ≤ (t + z * 60) % 86400 := by omega
  have f1 : (t + z * 60) % 86400 ≤ 86400 := by omega
  have HM : Hid (Mon (w.alloc (dc 0 0 0 0 0 0))) := hM.below ((Below.refl _ _).alloc (Nat.le_refl _) _)
  have HB : Hid (Below w.heap.size w (w.alloc (dc 0 0 0 0 0 0))) := (Below.refl _ _).alloc (Nat.le_refl _) _
  have HX : Hid ((w.alloc (dc 0 0 0 0 0 0)).heap[w.heap.size]? = some (dc 0 0 0 0 0 0)) := heap_alloc_new w _
  have HK := hid (f53 ((t + z * 60) / 86400) (w.alloc (dc 0 0 0 0 0 0)) d0 d1 HM.out)
  clear hM
  go_enter Tryd.func41, Tryd.ntmps41
  go_wp2_with fail
  refine (H1 _).out.mono ?_
  rintro e w1 ⟨rfl, hw⟩; subst w1
  go_wp2_with fail
  refine (H2 _).out.mono ?_
  rintro e w1 ⟨rfl, hw⟩; subst w1
  go_wp2_with fail
  refine HK.out.mono ?_
  rintro e w1 ⟨y, m, d, rfl, HD, HB1⟩
  have HB2 := hid (HB.out.trans (HB1.out.mono HB.out.size))
  have hX1 : w1.heap[w.heap.size]? = some (dc 0 0 0 0 0 0) := (HB1.out.block _ (by simp)).trans HX.out
  have hlt : w.heap.size < w1.heap.size := by have := HB1.out.size; simp at this; omega
  have HR : Hid (DtR t z (dv y m d (ml y m) ((4 + (t + z * 60) / 86400) % 7) ((t + z * 60) % 86400 / 60)) true) := .inr ⟨HH.out, rfl, y, m, d, rfl, HD.out⟩
  generalize (4 + (t + z * 60) / 86400) % 7 = K at *
  generalize ml y m = L at *
  clear HB1 HX HK HM HB H1 H2
  generalize (t + z * 60) % 86400 / 60 = MI at *
  have HN : Hid (Six (w1.alloc (dc y m d L K MI)) w1.heap.size y m d L K MI) := Six.new _ _ _ _ _ _ _
  have HO : Hid (Six (w1.alloc (dc y m d L K MI)) w.heap.size 0 0 0 0 0 0) := ⟨box_below hX1 ((Below.refl _ _).alloc (Nat.le_refl _) _)⟩
  have HB3 := hid (HB2.out.alloc HB2.out.size (dc y m d L K MI))
  have HE := hid (rfl : w1.alloc (dc y m d L K MI) = w1.alloc (dc y m d L K MI))
  obtain ⟨W, hW⟩ : ∃ W, W = w1.alloc (dc y m d L K MI) := ⟨_, rfl⟩
  rw [← hW] at HN HO HB3
  have HW := hid hW
  clear hW HE hX1 HB2
  go_upto_region 6 with fail
  rw [← HW.out]
  clear HW
  generalize w1.heap.size = X at *
  obtain ⟨x0, x1, x2, x3, x4, x5⟩ := HN.out.cells
  obtain ⟨o0, o1, o2, o3, o4, o5⟩ := HO.out.cells
  obtain ⟨p0, p1, p2, p3, p4, p5⟩ := HO.out.froz
  go_wp2
  have HA := HO.out.all (y' := y) (m' := m) (d' := d) (l' := L) (k' := K) (n' := MI)
  obtain ⟨q0, q1, q2, q3, q4, q5⟩ := HA.cells
  refine bodyPost_ret (v := .tuple #[dv y m d L K MI, .bool true]) ?_ rfl ⟨_, rfl, HR, below_all HB3.out (Nat.le_refl _)⟩
  rw [results_cell_tmp rfl]
  go_simp
end Go.Proofs.YtcnilidckicccaaDoor.Cal
