/- Frames: behind, holds; classes of bends: has, classOf. -/
import Derived.Test.YteblbcbfaomdmaaDoorVa
namespace Go.Proofs.YteblbcbfaomdmaaDoor.Chk
open Go.RowKit Go.Proofs.YteblbcbfaomdmaaDoor.Smp

theorem box_below {w w' : World} {b : Nat} {o : Obj} (h : w.heap[b]? = some o) (hb : Below w.heap.size w w') : w'.heap[b]? = some o := by
  have : b < w.heap.size := (Array.getElem?_eq_some_iff.1 h).1
  rw [hb.block b this]; exact h
theorem set_cell {w : World} {b o : Nat} {t : TypeId} {cs : Array Value} {q : Nat × Nat} {x : Value} (h : w.heap[b]? = some (.cells cs t q)) : (w.setCell ⟨b, o, none⟩ x).heap[b]? = some (.cells (cs.setIfInBounds o x) t q) := by
  have hlt : b < w.heap.size := (Array.getElem?_eq_some_iff.1 h).1
  have h' : w.heap[b] = .cells cs t q := by simpa [Array.getElem?_eq_getElem hlt] using h
  show (w.heap.modify b _)[b]? = _
  rw [Array.getElem?_eq_getElem (by simpa using hlt), Array.getElem_modify_self, h']
  rfl
theorem cell_at {w : World} {b : Nat} {t : TypeId} {cs : Array Value} {q : Nat × Nat} (h : w.heap[b]? = some (.cells cs t q)) (o : Nat) : w.cell? ⟨b, o, none⟩ = cs[o]? := by
  unfold World.cell?; simp only [h]; rfl
theorem froz_at {w : World} {b : Nat} {t : TypeId} {cs : Array Value} (h : w.heap[b]? = some (.cells cs t (0, 0))) (o : Nat) : w.frozen? ⟨b, o, none⟩ = false := by simp [World.frozen?, h]
theorem f78 (a m : Int) (w : World) (h0 : 0 ≤ a) (h1 : a ≤ 64) (h2 : 0 ≤ m) (h3 : m ≤ 64) :
    Calls Tryd.prog 78 #[fr a m] w fun e w' => e = .returned (.int .i64 (64 - a - m)) ∧ Below w.heap.size w w' := by
  have HB := hid ((Below.refl w.heap.size w).alloc (Nat.le_refl _) (.cells #[.int .i64 a, .int .i64 m] 66))
  unfold fr
  go_enter Tryd.func78, Tryd.ntmps78
  go_wp2
  go_ret
  exact ⟨rfl, HB.out⟩
/-- Two boxes of two numbers each, and what was there. -/
abbrev BB (w : World) (a m a' m' : Int) (w' : World) : Prop :=
  w'.cell? ⟨w.heap.size, 0, none⟩ = some (.int .i64 a) ∧ w'.cell? ⟨w.heap.size, 1, none⟩ = some (.int .i64 m) ∧ w'.cell? ⟨w.heap.size + 1, 0, none⟩ = some (.int .i64 a') ∧ w'.cell? ⟨w.heap.size + 1, 1, none⟩ = some (.int .i64 m') ∧ w.heap.size + 1 < w'.heap.size ∧ Below w.heap.size w w'
theorem BB.below {w W W' : World} {a m a' m' : Int} (h : BB w a m a' m' W) (hb : Below W.heap.size W W') : BB w a m a' m' W' := by
  obtain ⟨h1, h2, h3, h4, h5, h6⟩ := h
  exact ⟨(hb.cell (p := ⟨w.heap.size, 0, none⟩) (by show w.heap.size < _; omega)).trans h1, (hb.cell (p := ⟨w.heap.size, 1, none⟩) (by show w.heap.size < _; omega)).trans h2, (hb.cell (p := ⟨w.heap.size + 1, 0, none⟩) h5).trans h3, (hb.cell (p := ⟨w.heap.size + 1, 1, none⟩) h5).trans h4, Nat.lt_of_lt_of_le h5 hb.size, h6.trans (hb.mono h6.size)⟩
theorem BB.drew {w W : World} {a m a' m' : Int} (h : BB w a m a' m' W) : BB w a m a' m' W.drew := ⟨h.1, h.2.1, h.2.2.1, h.2.2.2.1, h.2.2.2.2.1, h.2.2.2.2.2.drew⟩
theorem bb_new (w : World) (a m a' m' : Int) (t : TypeId) : BB w a m a' m' ((w.alloc (.cells #[.int .i64 a, .int .i64 m] t)).alloc (.cells #[.int .i64 a', .int .i64 m'] t)) := by
  have h1 := heap_alloc_new w (.cells #[.int .i64 a, .int .i64 m] t)
  have h2 := heap_alloc_new (w.alloc (.cells #[.int .i64 a, .int .i64 m] t)) (.cells #[.int .i64 a', .int .i64 m'] t)
  have hb := (Below.refl (w.alloc (.cells #[.int .i64 a, .int .i64 m] t)).heap.size (w.alloc (.cells #[.int .i64 a, .int .i64 m] t))).alloc (Nat.le_refl _) (.cells #[.int .i64 a', .int .i64 m'] t)
  have h3 : ((w.alloc (.cells #[.int .i64 a, .int .i64 m] t)).alloc (.cells #[.int .i64 a', .int .i64 m'] t)).heap[w.heap.size]? = some (.cells #[.int .i64 a, .int .i64 m] t) := by
    rw [hb.block w.heap.size (by simp)]; exact h1
  simp only [World.size_alloc] at h2
  refine ⟨?_, ?_, ?_, ?_, by simp, ((Below.refl _ _).alloc (Nat.le_refl _) _).alloc (by simp) _⟩
  · unfold World.cell?; simp only [h3]; rfl
  · unfold World.cell?; simp only [h3]; rfl
  · unfold World.cell?; simp only [h2]; rfl
  · unfold World.cell?; simp only [h2]; rfl
set_option maxRecDepth 100000 in
set_option maxHeartbeats 2000000 in
theorem f77 (a m a' m' : Int) (w : World) (h0 : 0 ≤ a) (h1 : a ≤ 64) (h2 : 0 ≤ m) (h3 : m ≤ 64) (h0' : 0 ≤ a') (h1' : a' ≤ 64) (h2' : 0 ≤ m') (h3' : m' ≤ 64) :
    Calls Tryd.prog 77 #[fr a m, fr a' m'] w fun e w' => e = .returned (.bool (decide (a ≤ a' ∧ 64 - a - m ≤ 64 - a' - m'))) ∧ Below w.heap.size w w' := by
  have HS := hid (bb_new w a m a' m' 66)
  by_cases hc : a ≤ a'
  · have HE : Hid (decide (a ≤ a' ∧ 64 - a - m ≤ 64 - a' - m') = decide (64 - a - m ≤ 64 - a' - m')) := by unfold Hid; rw [decide_eq_decide]; exact ⟨fun h => h.2, fun h => ⟨hc, h⟩⟩
    unfold fr
    go_enter Tryd.func77, Tryd.ntmps77
    go_wp2_with fail
    go_region_held3 (fun w' => BB w a m a' m' w') (first | exact HS.out.drew | assumption) (first | (go_at_call 78; refine (f78 a' m' _ h0' h1' h2' h3').mono ?_; rintro e w2 ⟨rfl, hb2⟩; have hs2 := BB.below (by assumption) hb2; clear hb2) | (go_at_call 78; refine (f78 a m _ h0 h1 h2 h3).mono ?_; rintro e w3 ⟨rfl, hb3⟩; have hs3 := BB.below (by assumption) hb3; clear hb3))
    have HX := hid hs3.2.2.2.2.2
    clear hs2 hs3
    go_wp2
    go_ret
    exact ⟨ret_bool HE.out.symm, HX.out⟩
  · have HE : Hid (decide (a ≤ a' ∧ 64 - a - m ≤ 64 - a' - m') = false) := decide_eq_false fun h => hc h.1
    have hc1 : a' < a := by omega
    have hc2 : decide (a ≤ a') = false := decide_eq_false hc
    unfold fr
    go_enter Tryd.func77, Tryd.ntmps77
    go_wp2_with fail
    go_quiet (fail)
    go_wp2
    go_ret
    exact ⟨ret_bool HE.out.symm, below_drewN HS.out.2.2.2.2.2 _⟩

/-- The table of classes, where the program's text lays it. -/
def clsT : List (Int × Int × Int × Int) := [(0, 1, 0, 0), (2, 2, -63, 7), (6, 3, -255, 9), (14, 4, -2047, 12), (15, 4, 0, 64)]
def cls (i : Nat) : Int × Int × Int × Int := clsT.getD i (0, 0, 0, 0)
def Cls (w : World) : Prop := ∀ i, i < 5 → w.cell? ⟨0, i * 4, none⟩ = some (.int .i64 (cls i).1) ∧ w.cell? ⟨0, i * 4 + 1, none⟩ = some (.int .i64 (cls i).2.1) ∧ w.cell? ⟨0, i * 4 + 2, none⟩ = some (.int .i64 (cls i).2.2.1) ∧ w.cell? ⟨0, i * 4 + 3, none⟩ = some (.int .i64 (cls i).2.2.2)
theorem Cls.below {w w' : World} (h : Cls w) (hb : Below w.heap.size w w') : Cls w' := fun i hi => by
  obtain ⟨h1, h2, h3, h4⟩ := h i hi
  have hl : 0 < w.heap.size := World.block_lt_of_cell? w _ h1
  exact ⟨(hb.cell (p := ⟨0, i * 4, none⟩) hl).trans h1, (hb.cell (p := ⟨0, i * 4 + 1, none⟩) hl).trans h2, (hb.cell (p := ⟨0, i * 4 + 2, none⟩) hl).trans h3, (hb.cell (p := ⟨0, i * 4 + 3, none⟩) hl).trans h4⟩
/-- The bends of a class. -/
def inCls (i : Nat) (b : Int) : Prop := match i with
  | 0 => b = 0
  | 1 => -63 ≤ b ∧ b ≤ 64
  | 2 => -255 ≤ b ∧ b ≤ 256
  | 3 => -2047 ≤ b ∧ b ≤ 2048
  | _ => True
instance (i : Nat) (b : Int) : Decidable (inCls i b) := by unfold inCls; split <;> infer_instance
def bendI (b : Int) : Nat := if inCls 0 b then 0 else if inCls 1 b then 1 else if inCls 2 b then 2 else if inCls 3 b then 3 else 4
def cv (c : Int × Int × Int × Int) : Value := .agg #[.int .i64 c.1, .int .i64 c.2.1, .int .i64 c.2.2.1, .int .i64 c.2.2.2]

theorem f85 (i : Nat) (b : Int) (w : World) (hi : i < 5) (hb : -1000000000000 ≤ b) (hb' : b ≤ 1000000000000) :
    Calls Tryd.prog 85 #[cv (cls i), .int .i64 b] w fun e w' => e = .returned (.bool (decide (inCls i b))) ∧ Below w.heap.size w w' := by
  have HB : Hid (∀ o, Below w.heap.size w (w.alloc o)) := fun o => (Below.refl w.heap.size w).alloc (Nat.le_refl _) o
  match i, hi with
  | 0, _ =>
    unfold cv cls clsT
    simp only [List.getD_cons_zero]
    go_enter Tryd.func85, Tryd.ntmps85
    go_wp2
    go_ret
    exact ⟨ret_bool (by
      rw [Bool.eq_iff_iff]
      simp only [IntKind.wrap_u64, inCls, beq_iff_eq, decide_eq_true_eq]
      omega), HB.out _⟩
  | 1, _ =>
    unfold cv cls clsT
    simp only [List.getD_cons_succ, List.getD_cons_zero]
    go_enter Tryd.func85, Tryd.ntmps85
    go_wp2
    go_ret
    exact ⟨ret_bool (by
      rw [Bool.eq_iff_iff]
      simp only [IntKind.wrap_u64, inCls, beq_iff_eq, decide_eq_true_eq]
      omega), HB.out _⟩
  | 2, _ =>
    unfold cv cls clsT
    simp only [List.getD_cons_succ, List.getD_cons_zero]
    go_enter Tryd.func85, Tryd.ntmps85
    go_wp2
    go_ret
    exact ⟨ret_bool (by
      rw [Bool.eq_iff_iff]
      simp only [IntKind.wrap_u64, inCls, beq_iff_eq, decide_eq_true_eq]
      omega), HB.out _⟩
  | 3, _ =>
    unfold cv cls clsT
    simp only [List.getD_cons_succ, List.getD_cons_zero]
    go_enter Tryd.func85, Tryd.ntmps85
    go_wp2
    go_ret
    exact ⟨ret_bool (by
      rw [Bool.eq_iff_iff]
      simp only [IntKind.wrap_u64, inCls, beq_iff_eq, decide_eq_true_eq]
      omega), HB.out _⟩
  | 4, _ =>
    unfold cv cls clsT
    simp only [List.getD_cons_succ, List.getD_cons_zero]
    go_enter Tryd.func85, Tryd.ntmps85
    go_wp2
    go_ret
    exact ⟨ret_bool (by simp [inCls]; rw [IntKind.wrap_u64]; omega), HB.out _⟩

theorem bend_lt (b : Int) : bendI b < 5 := by
  unfold bendI
  split
  · omega
  · split
    · omega
    · split
      · omega
      · split <;> omega
theorem bend_in (b : Int) : inCls (bendI b) b := by
  unfold bendI
  split
  · assumption
  · split
    · assumption
    · split
      · assumption
      · split
        · assumption
        · trivial
theorem bend_not {b : Int} {i : Nat} (hi : i < bendI b) : ¬ inCls i b := by
  unfold bendI at hi
  split at hi
  · omega
  · rename_i h0
    split at hi
    · obtain rfl : i = 0 := by omega
      exact h0
    · rename_i h1
      split at hi
      · match i, hi with
        | 0, _ => exact h0
        | 1, _ => exact h1
      · rename_i h2
        split at hi
        · match i, hi with
          | 0, _ => exact h0
          | 1, _ => exact h1
          | 2, _ => exact h2
        · rename_i h3
          match i, hi with
          | 0, _ => exact h0
          | 1, _ => exact h1
          | 2, _ => exact h2
          | 3, _ => exact h3
set_option maxHeartbeats 2000000 in
theorem f75 (b : Int) (w : World) (hb : -1000000000000 ≤ b) (hb' : b ≤ 1000000000000) (hc : Cls w) :
    Calls Tryd.prog 75 #[.int .i64 b] w fun e w' => e = .returned (cv (cls (bendI b))) ∧ Below w.heap.size w w' := by
  have HC := hid hc
  have HB0 := hid ((Below.refl w.heap.size w).alloc (Nat.le_refl _) (.cells #[.int .i64 0, .int .i64 0, .int .i64 0, .int .i64 0] 98))
  have HX0 := hid (heap_alloc_new w (.cells #[.int .i64 0, .int .i64 0, .int .i64 0, .int .i64 0] 98))
  have HL := hid (bend_lt b)
  clear hc
  go_enter Tryd.func75, Tryd.ntmps75
  go_wp2
  go_loopw [3] (fun si wr => ∃ i : Nat, i ≤ bendI b ∧ i < 5 ∧ si = .int .i64 i ∧ wr.heap[w.heap.size]? = some (.cells #[.int .i64 0, .int .i64 0, .int .i64 0, .int .i64 0] 98 (0, 0)) ∧ Below w.heap.size w wr) (fun si _ => 5 - (intOf si).toNat)
  case atStart => exact ⟨0, Nat.zero_le _, by omega, rfl, HX0.out, HB0.out⟩
  case round =>
    obtain ⟨i, hi, hi5, rfl, hbx, hnx⟩ := hrel
    have HX := hid hnx
    have HBX := hid hbx
    obtain ⟨c0, c1, c2, c3⟩ := (HC.out.below hnx) i hi5
    have i1 : (i : Int) < 5 := by omega
    clear hnx hbx
    by_cases hin : inCls i b
    · have hie : i = bendI b := by
        rcases Nat.lt_or_ge i (bendI b) with h | h
        · exact absurd hin (bend_not h)
        · omega
      have HIE := hid hie
      have hd := decide_eq_true hin
      clear hie hin
      have HCV : Hid (cv (cls i) = .agg #[.int .i64 (cls i).1, .int .i64 (cls i).2.1, .int .i64 (cls i).2.2.1, .int .i64 (cls i).2.2.2]) := rfl
      go_wp2_with fail
      rw [← HCV.out]
      refine (f85 i b _ hi5 hb hb').mono ?_
      rintro e w2 ⟨rfl, hb2⟩
      have HX2 := hid (HX.out.trans (hb2.mono HX.out.size))
      have hbx2 := box_below HBX.out hb2
      have HBX2 := hid hbx2
      obtain ⟨c0, c1, c2, c3⟩ := (HC.out.below HX2.out) i hi5
      have z0 : w2.cell? ⟨w.heap.size, 0, none⟩ = some (.int .i64 0) := cell_at hbx2 0
      have z1 : w2.cell? ⟨w.heap.size, 1, none⟩ = some (.int .i64 0) := cell_at hbx2 1
      have z2 : w2.cell? ⟨w.heap.size, 2, none⟩ = some (.int .i64 0) := cell_at hbx2 2
      have z3 : w2.cell? ⟨w.heap.size, 3, none⟩ = some (.int .i64 0) := cell_at hbx2 3
      have f0 := froz_at hbx2 0
      have f1 := froz_at hbx2 1
      have f2 := froz_at hbx2 2
      have f3 := froz_at hbx2 3
      have HW := hid (set_cell (o := 3) (x := .int .i64 (cls i).2.2.2) (set_cell (o := 2) (x := .int .i64 (cls i).2.2.1) (set_cell (o := 1) (x := .int .i64 (cls i).2.1) (set_cell (o := 0) (x := .int .i64 (cls i).1) hbx2))))
      have HV := hid ((((HX2.out.setCell (p := ⟨w.heap.size, 0, none⟩) (Nat.le_refl _) (.int .i64 (cls i).1)).setCell (p := ⟨w.heap.size, 1, none⟩) (Nat.le_refl _) (.int .i64 (cls i).2.1)).setCell (p := ⟨w.heap.size, 2, none⟩) (Nat.le_refl _) (.int .i64 (cls i).2.2.1)).setCell (p := ⟨w.heap.size, 3, none⟩) (Nat.le_refl _) (.int .i64 (cls i).2.2.2))
      clear hb2 hbx2
      generalize hcl : cls i = q at *
      obtain ⟨q0, q1, q2, q3⟩ := q
      have HCL := hid hcl
      clear hcl HCV
      simp only at c0 c1 c2 c3
      go_wp2
      have y0 := cell_at HW.out 0
      have y1 := cell_at HW.out 1
      have y2 := cell_at HW.out 2
      have y3 := cell_at HW.out 3
      simp at y0 y1 y2 y3
      refine bodyPost_ret (v := cv (q0, q1, q2, q3)) (by simp [results, Tryd.results75, go_sem, y0, y1, y2, y3, cv]) rfl ⟨?_, HV.out⟩
      rw [← HIE.out, HCL.out]
    · have hd := decide_eq_false hin
      have hlt : i < bendI b := by
        rcases Nat.lt_or_ge i (bendI b) with h | h
        · exact h
        · have : i = bendI b := by omega
          subst this; exact absurd (bend_in b) hin
      have HLT : Hid (i + 1 ≤ bendI b ∧ i + 1 < 5) := ⟨hlt, by have := HL.out; omega⟩
      clear hin hlt
      have HCV : Hid (cv (cls i) = .agg #[.int .i64 (cls i).1, .int .i64 (cls i).2.1, .int .i64 (cls i).2.2.1, .int .i64 (cls i).2.2.2]) := rfl
      go_wp2_with fail
      rw [← HCV.out]
      refine (f85 i b _ hi5 hb hb').mono ?_
      rintro e w2 ⟨rfl, hb2⟩
      have HX2 := hid (HX.out.trans (hb2.mono HX.out.size))
      have HBX2 := hid (box_below HBX.out hb2)
      clear hb2
      go_wp2
      go_roundw
      case rel => exact ⟨i + 1, HLT.out.1, HLT.out.2, by go_num, HBX2.out, HX2.out⟩
      case measure => simp [intOf]; omega
end Go.Proofs.YteblbcbfaomdmaaDoor.Chk
