/- The program's dates: the year of a day, the date of a day. -/
import Derived.Test.YtcnilidckicccaaDoorClb
namespace Go.Proofs.YtcnilidckicccaaDoor.Cal
open Go.RowKit

set_option maxHeartbeats 1000000 in
theorem f61 (y : Int) (w : World) (h0 : 1 ≤ y) (h1 : y ≤ 1000000) :
    Calls Tryd.prog 61 #[.int .i64 y] w fun e w' => e = .returned (.int .i64 (F y + 719162)) ∧ w' = w := by
  have r1 : Int.tdiv (y - 1) 4 = (y - 1) / 4 := Int.tdiv_eq_ediv_of_nonneg (by omega)
  have r2 : Int.tdiv (y - 1) 100 = (y - 1) / 100 := Int.tdiv_eq_ediv_of_nonneg (by omega)
  have r3 : Int.tdiv (y - 1) 400 = (y - 1) / 400 := Int.tdiv_eq_ediv_of_nonneg (by omega)
  have HF : Hid (F y + 719162 = (y - 1) * 365 + (y - 1) / 4 - (y - 1) / 100 + (y - 1) / 400) := by unfold Hid F; omega
  have b1 : 0 ≤ (y - 1) / 4 := by omega
  have b2 : (y - 1) / 4 ≤ 1000000 := by omega
  have b3 : 0 ≤ (y - 1) / 100 := by omega
  have b4 : (y - 1) / 100 ≤ 1000000 := by omega
  have b5 : 0 ≤ (y - 1) / 400 := by omega
  have b6 : (y - 1) / 400 ≤ 1000000 := by omega
  go_enter Tryd.func61, Tryd.ntmps61
  go_wp2
  go_ret
  exact ⟨by rw [HF.out]; rfl, rfl⟩
theorem F_bounds {y : Int} (h0 : 1 ≤ y) (h1 : y ≤ 1000000) : -719162 ≤ F y ∧ F y ≤ 366000000 := by unfold F; omega

set_option maxHeartbeats 1000000 in
theorem f57 (y : Int) (w : World) (h0 : 1 ≤ y) (h1 : y ≤ 1000000) :
    Calls Tryd.prog 57 #[.int .i64 y] w fun e w' => e = .returned (.int .i64 (F y)) ∧ w' = w := by
  have H1 := hid (f61 y w h0 h1)
  have H2 := hid (f61 1970 w (by omega) (by omega))
  rw [F_first] at H2
  obtain ⟨b1, b2⟩ := F_bounds h0 h1
  generalize F y = z at *
  go_enter Tryd.func57, Tryd.ntmps57
  go_wp2_with fail
  refine H1.out.mono ?_
  rintro e w1 ⟨rfl, hw⟩; subst w1
  go_wp2_with fail
  refine H2.out.mono ?_
  rintro e w1 ⟨rfl, hw⟩; subst w1
  go_wp2
  go_ret
  exact ⟨by go_num, rfl⟩

set_option maxHeartbeats 1000000 in
theorem f59 (D : Int) (w : World) (h0 : 0 ≤ D) (h1 : D ≤ 20000000) :
    Calls Tryd.prog 59 #[.int .i64 D] w fun e w' => ∃ y, e = .returned (.int .i64 y) ∧ Hid (Yr D y) ∧ w' = w := by
  have r1 : Int.tdiv (D * 400) 146097 = D * 400 / 146097 := Int.tdiv_eq_ediv_of_nonneg (by omega)
  have b1 : 0 ≤ D * 400 / 146097 := by omega
  have b2 : D * 400 / 146097 ≤ 100000 := by omega
  go_enter Tryd.func59, Tryd.ntmps59
  go_wp2
  go_loopw [3] (fun s wr => ∃ y : Int, 1970 ≤ y ∧ y ≤ 200000 ∧ s = .int .i64 y ∧ Hid (wr = w)) (fun s _ => (intOf s).toNat)
  case atStart => exact ⟨1970 + D * 400 / 146097, by omega, by omega, rfl, rfl⟩
  case round =>
    obtain ⟨y, hy0, hy1, rfl, HW⟩ := hrel
    obtain rfl := HW.out.symm
    obtain ⟨f0, f1⟩ := F_bounds (y := y) (by omega) (by omega)
    have H1 := hid (f57 y w (by omega) (by omega))
    by_cases hlt : F y > D
    · have hy : 1970 < y := by
        rcases Int.lt_or_eq_of_le hy0 with h | h
        · exact h
        · rw [← h, F_first] at hlt; omega
      generalize F y = z at *
      go_wp2_with fail
      refine H1.out.mono ?_
      rintro e w1 ⟨rfl, hw⟩; subst w1
      go_wp2
      go_roundw
      case rel => exact ⟨y - 1, by omega, by omega, rfl, trivial⟩
      case measure => simp [intOf]; omega
    · have HY : Hid (F y ≤ D) := by unfold Hid; omega
      generalize F y = z at H1 hlt f0 f1
      go_wp2_with fail
      refine H1.out.mono ?_
      rintro e w1 ⟨rfl, hw⟩; subst w1
      go_wp2
      clear hlt f0 f1 H1
      go_loopw [3] (fun s wx => ∃ x : Int, 1970 ≤ x ∧ s = .int .i64 x ∧ Hid (F x ≤ D) ∧ Hid (wx = w)) (fun s _ => (200000 - intOf s).toNat)
      case atStart => exact ⟨y, hy0, rfl, HY, rfl⟩
      case round =>
        obtain ⟨x, hx0, rfl, HX, HW⟩ := hrel
        obtain rfl := HW.out.symm
        have hx1 : x ≤ 100000 := by have := F_low hx0; have := HX.out; omega
        obtain ⟨f0, f1⟩ := F_bounds (y := x + 1) (by omega) (by omega)
        have H1 := hid (f57 (x + 1) w (by omega) (by omega))
        by_cases hle : F (x + 1) ≤ D
        · have HN := hid hle
          generalize F (x + 1) = z at H1 f0 f1 hle
          go_wp2_with fail
          refine H1.out.mono ?_
          rintro e w1 ⟨rfl, hw⟩; subst w1
          go_wp2
          go_roundw
          case rel => exact ⟨x + 1, by omega, by go_num, HN, trivial⟩
          case measure => simp [intOf]; omega
        · have HR : Hid (Yr D x) := ⟨hx0, HX.out, by omega⟩
          generalize F (x + 1) = z at H1 f0 f1 hle
          go_wp2_with fail
          refine H1.out.mono ?_
          rintro e w1 ⟨rfl, hw⟩; subst w1
          go_wp2
          go_ret
          exact ⟨x, rfl, HR, rfl⟩

abbrev dv (y m d l k n : Int) : Value := .agg #[.int .i64 y, .int .i64 m, .int .i64 d, .int .i64 l, .int .i64 k, .int .i64 n]
abbrev dz : Value := dv 0 0 0 0 0 0
abbrev dc (y m d l k n : Int) : Obj := .cells #[.int .i64 y, .int .i64 m, .int .i64 d, .int .i64 l, .int .i64 k, .int .i64 n] 32

theorem lt_block {w : World} {b : Nat} {o : Obj} (h : w.heap[b]? = some o) : b < w.heap.size := (Array.getElem?_eq_some_iff.1 h).1
theorem box_below {w w' : World} {b : Nat} {o : Obj} (h : w.heap[b]? = some o) (hb : Below w.heap.size w w') : w'.heap[b]? = some o := (hb.block b (lt_block h)).trans h
theorem set_cell {w : World} {b o : Nat} {t : TypeId} {cs : Array Value} {q : Nat × Nat} {x : Value} (h : w.heap[b]? = some (.cells cs t q)) : (w.setCell ⟨b, o, none⟩ x).heap[b]? = some (.cells (cs.setIfInBounds o x) t q) := by
  have hlt : b < w.heap.size := (Array.getElem?_eq_some_iff.1 h).1
  have h' : w.heap[b] = .cells cs t q := by simpa [Array.getElem?_eq_getElem hlt] using h
  show (w.heap.modify b _)[b]? = _
  rw [Array.getElem?_eq_getElem (by simpa using hlt), Array.getElem_modify_self, h']
  rfl
theorem cell_at {w : World} {b : Nat} {t : TypeId} {cs : Array Value} {q : Nat × Nat} (h : w.heap[b]? = some (.cells cs t q)) (o : Nat) : w.cell? ⟨b, o, none⟩ = cs[o]? := by
  unfold World.cell?; simp only [h]; rfl
theorem froz_at {w : World} {b : Nat} {t : TypeId} {cs : Array Value} (h : w.heap[b]? = some (.cells cs t (0, 0))) (o : Nat) : w.frozen? ⟨b, o, none⟩ = false := by simp [World.frozen?, h]
/-- What a struct of six cells holds, and that it may be written. -/
structure Six (w : World) (b : Nat) (y m d l k n : Int) : Prop where
  x : w.heap[b]? = some (dc y m d l k n)
theorem Six.cells {w : World} {b : Nat} {y m d l k n : Int} (h : Six w b y m d l k n) : w.cell? ⟨b, 0, none⟩ = some (.int .i64 y) ∧ w.cell? ⟨b, 1, none⟩ = some (.int .i64 m) ∧ w.cell? ⟨b, 2, none⟩ = some (.int .i64 d) ∧ w.cell? ⟨b, 3, none⟩ = some (.int .i64 l) ∧ w.cell? ⟨b, 4, none⟩ = some (.int .i64 k) ∧ w.cell? ⟨b, 5, none⟩ = some (.int .i64 n) :=
  ⟨cell_at h.x 0, cell_at h.x 1, cell_at h.x 2, cell_at h.x 3, cell_at h.x 4, cell_at h.x 5⟩
theorem Six.froz {w : World} {b : Nat} {y m d l k n : Int} (h : Six w b y m d l k n) : w.frozen? ⟨b, 0, none⟩ = false ∧ w.frozen? ⟨b, 1, none⟩ = false ∧ w.frozen? ⟨b, 2, none⟩ = false ∧ w.frozen? ⟨b, 3, none⟩ = false ∧ w.frozen? ⟨b, 4, none⟩ = false ∧ w.frozen? ⟨b, 5, none⟩ = false :=
  ⟨froz_at h.x 0, froz_at h.x 1, froz_at h.x 2, froz_at h.x 3, froz_at h.x 4, froz_at h.x 5⟩
theorem Six.below {w w' : World} {b : Nat} {y m d l k n : Int} (h : Six w b y m d l k n) (hb : Below w.heap.size w w') : Six w' b y m d l k n := ⟨box_below h.x hb⟩
theorem Six.new (w : World) (y m d l k n : Int) : Six (w.alloc (dc y m d l k n)) w.heap.size y m d l k n := ⟨heap_alloc_new w _⟩
theorem Six.all {w : World} {b : Nat} {y m d l k n y' m' d' l' k' n' : Int} (h : Six w b y m d l k n) : Six ((((((w.setCell ⟨b, 0, none⟩ (.int .i64 y')).setCell ⟨b, 1, none⟩ (.int .i64 m')).setCell ⟨b, 2, none⟩ (.int .i64 d')).setCell ⟨b, 3, none⟩ (.int .i64 l')).setCell ⟨b, 4, none⟩ (.int .i64 k')).setCell ⟨b, 5, none⟩ (.int .i64 n')) b y' m' d' l' k' n' := by
  have := set_cell (o := 5) (x := .int .i64 n') (set_cell (o := 4) (x := .int .i64 k') (set_cell (o := 3) (x := .int .i64 l') (set_cell (o := 2) (x := .int .i64 d') (set_cell (o := 1) (x := .int .i64 m') (set_cell (o := 0) (x := .int .i64 y') h.x)))))
  exact ⟨this⟩
theorem Six.s0 {w : World} {b : Nat} {y m d l k n : Int} (h : Six w b y m d l k n) (x : Int) : Six (w.setCell ⟨b, 0, none⟩ (.int .i64 x)) b x m d l k n := ⟨set_cell h.x⟩
theorem Six.s1 {w : World} {b : Nat} {y m d l k n : Int} (h : Six w b y m d l k n) (x : Int) : Six (w.setCell ⟨b, 1, none⟩ (.int .i64 x)) b y x d l k n := ⟨set_cell h.x⟩
theorem Six.s2 {w : World} {b : Nat} {y m d l k n : Int} (h : Six w b y m d l k n) (x : Int) : Six (w.setCell ⟨b, 2, none⟩ (.int .i64 x)) b y m x l k n := ⟨set_cell h.x⟩
theorem Six.s3 {w : World} {b : Nat} {y m d l k n : Int} (h : Six w b y m d l k n) (x : Int) : Six (w.setCell ⟨b, 3, none⟩ (.int .i64 x)) b y m d x k n := ⟨set_cell h.x⟩
theorem below_all {w0 w : World} {b : Nat} {x0 x1 x2 x3 x4 x5 : Value} (h : Below w0.heap.size w0 w) (hb : w0.heap.size ≤ b) : Below w0.heap.size w0 ((((((w.setCell ⟨b, 0, none⟩ x0).setCell ⟨b, 1, none⟩ x1).setCell ⟨b, 2, none⟩ x2).setCell ⟨b, 3, none⟩ x3).setCell ⟨b, 4, none⟩ x4).setCell ⟨b, 5, none⟩ x5) :=
  (((((h.setCell hb _).setCell hb _).setCell hb _).setCell hb _).setCell hb _).setCell hb _

set_option maxHeartbeats 2000000 in
theorem f53 (D : Int) (w : World) (h0 : 0 ≤ D) (h1 : D ≤ 20000000) (hM : Mon w) :
    Calls Tryd.prog 53 #[.int .i64 D] w fun e w' => ∃ y m d, e = .returned (dv y m d (ml y m) ((4 + D) % 7) 0) ∧ Hid (Dt D y m d) ∧ Hid (Below w.heap.size w w') := by
  have HM : Hid (Mon (w.alloc (dc 0 0 0 0 0 0))) := hM.below ((Below.refl _ _).alloc (Nat.le_refl _) _)
  have HB : Hid (Below w.heap.size w (w.alloc (dc 0 0 0 0 0 0))) := (Below.refl _ _).alloc (Nat.le_refl _) _
  have r1 : Int.tmod (4 + D) 7 = (4 + D) % 7 := Int.tmod_eq_emod_of_nonneg (by omega)
  have b1 : 0 ≤ (4 + D) % 7 := by omega
  have b2 : (4 + D) % 7 ≤ 6 := by omega
  clear hM
  go_enter Tryd.func53, Tryd.ntmps53
  go_wp2_with fail
  refine (f59 D _ h0 h1).mono ?_
  rintro e w1 ⟨y, rfl, HY, hw⟩; subst w1
  have hy0 := HY.out.1
  have hy1 : y ≤ 100000 := by have := yr_low HY.out; omega
  have HF := hid (f57 y (w.alloc (dc 0 0 0 0 0 0)) (by omega) (by omega))
  have HS := hid (Mo.first HY.out)
  obtain ⟨f0, f1⟩ := F_bounds (y := y) (by omega) (by omega)
  generalize F y = z at HF HS f0 f1
  go_wp2_with fail
  refine HF.out.mono ?_
  rintro e w1 ⟨rfl, hw⟩; subst w1
  go_wp2
  go_loopw [4, 5] (fun s4 s5 wr => ∃ l m : Int, s4 = .int .i64 l ∧ s5 = .int .i64 m ∧ Hid (Mo D y m l) ∧ Hid (wr = w.alloc (dc 0 0 0 0 0 0))) (fun _ s _ => (20 - intOf s).toNat)
  case atStart => exact ⟨D - z, 1, rfl, rfl, HS, rfl⟩
  case round =>
    obtain ⟨l, m, rfl, rfl, HO, HW⟩ := hrel
    have hw := HW.out
    subst hw
    have hm0 := HO.out.1
    have hm1 := HO.out.2.1
    have hl0 := HO.out.2.2.1
    have hl1 : l ≤ 20000000 := by
      have a := HO.out.2.2.2
      have b := (cu_pos (y := y) (m := m) hm0 (by omega)).1
      have c := F_mono hy0
      rw [F_first] at c
      omega
    have HL := hid (f56 y m (w.alloc (dc 0 0 0 0 0 0)) (by omega) (by omega) hm0 hm1 HM.out)
    obtain ⟨p0, p1⟩ := ml_pos y m
    by_cases hge : l ≥ ml y m
    · have HN := hid (HO.out.next HY.out hge)
      generalize ml y m = x at *
      go_wp2_with fail
      refine HL.out.mono ?_
      rintro e w1 ⟨rfl, hw⟩; subst w1
      go_wp2_with fail
      refine HL.out.mono ?_
      rintro e w1 ⟨rfl, hw⟩; subst w1
      go_wp2
      go_roundw
      case rel => exact ⟨l - x, m + 1, rfl, by go_num, HN, trivial⟩
      case measure => simp [intOf]; omega
    · have HN := hid (HO.out.last HY.out (by omega))
      obtain ⟨x, hx⟩ : ∃ x, x = ml y m := ⟨_, rfl⟩
      rw [← hx] at HL p0 p1 hge
      have HX := hid hx
      clear hx
      go_wp2_with fail
      refine HL.out.mono ?_
      rintro e w1 ⟨rfl, hw⟩; subst w1
      go_wp2_with fail
      refine HL.out.mono ?_
      rintro e w1 ⟨rfl, hw⟩; subst w1
      go_wp2
      go_returns
      exact ⟨y, m, l + 1, by rw [HX.out], HN, (Below.refl _ _).alloc (Nat.le_refl _) _⟩
end Go.Proofs.YtcnilidckicccaaDoor.Cal
