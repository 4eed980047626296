import Derived.Test.YteblbcbfaomdmaaDoorUcA
import Derived.Test.YteblbcbfaomdmaaDoorVi
import Derived.Test.YteblbcbfaomdmaaDoorTq
import Derived.Deep.CutRange
/- The program's reader of chunks: its box, take, first. -/
namespace Go.Proofs.YteblbcbfaomdmaaDoor.Chk
open Go.RowKit Go.Proofs.YteblbcbfaomdmaaDoor.Bts
open Go.Proofs.YteblbcbfaomdmaaDoor.Smp hiding hid ret_int below_drewN

/-- Bytes that lie outside the block R. -/
def Dat (w : World) (R : Nat) (a : Option Addr) (zs : List Int) : Prop :=
  zs = [] ∨ ∃ b off, a = some ⟨b, off, none⟩ ∧ b < w.heap.size ∧ b ≠ R ∧ ∀ i, i < zs.length → w.cell? ⟨b, off + i, none⟩ = some (.int .u8 (zs.getD i 0))
theorem Dat.grown {w w' : World} {R : Nat} {a : Option Addr} {zs : List Int} (h : Dat w R a zs) (hg : w.grownBy w' (some R)) : Dat w' R a zs := by
  rcases h with h | ⟨b, off, h1, h2, h3, h4⟩
  · exact .inl h
  · exact .inr ⟨b, off, h1, Nat.lt_of_lt_of_le h2 hg.size, h3, fun i hi => hg.cell (h4 i hi) (by simpa using h3)⟩
def rbox (a : Option Addr) (n c : Nat) (S : Rs) : Array Value :=
  #[.slice a n c, .int .i64 S.pos, .int .i64 S.left, .bool S.br, .int .i64 S.t, .int .i64 S.v, .int .i64 S.step, .int .i64 S.fa, .int .i64 S.fm]
structure Rd (w : World) (R : Nat) (a : Option Addr) (n c : Nat) (zs : List Int) (S : Rs) : Prop where
  box : w.heap[R]? = some (.cells (rbox a n c S) 75 (0, 0))
  dat : Dat w R a zs
/-- What stays the same of the bytes. -/
structure Dk (n : Nat) (zs : List Int) : Prop where
  len : zs.length = n
  le : n ≤ 1048576
  byte : ∀ j, 0 ≤ zs.getD j 0 ∧ zs.getD j 0 ≤ 255
theorem Rd.lt {w : World} {R : Nat} {a : Option Addr} {n c : Nat} {zs : List Int} {S : Rs} (h : Rd w R a n c zs S) : R < w.heap.size := (Array.getElem?_eq_some_iff.1 h.box).1
theorem Rd.below {w w' : World} {R : Nat} {a : Option Addr} {n c : Nat} {zs : List Int} {S : Rs} (h : Rd w R a n c zs S) (hb : Below w.heap.size w w') : Rd w' R a n c zs S :=
  ⟨box_below h.box hb, h.dat.grown ⟨hb.os, hb.tape, hb.output, hb.size, fun i hi _ => hb.block i hi⟩⟩
theorem Rd.heap {w w' : World} {R : Nat} {a : Option Addr} {n c : Nat} {zs : List Int} {S : Rs} (h : Rd w R a n c zs S) (hh : w'.heap = w.heap) : Rd w' R a n c zs S := by
  refine ⟨by rw [hh]; exact h.box, ?_⟩
  rcases h.dat with h | ⟨b, off, h1, h2, h3, h4⟩
  · exact .inl h
  · exact .inr ⟨b, off, h1, by rw [hh]; exact h2, h3, fun i hi => by unfold World.cell?; rw [hh]; exact h4 i hi⟩
theorem Rd.set {w : World} {R : Nat} {a : Option Addr} {n c : Nat} {zs : List Int} {S S' : Rs} (h : Rd w R a n c zs S) (o : Nat) (x : Value) (hs : (rbox a n c S).setIfInBounds o x = rbox a n c S') : Rd (w.setCell ⟨R, o, none⟩ x) R a n c zs S' := by
  have hb := set_cell (o := o) (x := x) h.box
  rw [hs] at hb
  refine ⟨hb, ?_⟩
  rcases h.dat with h | ⟨b, off, h1, h2, h3, h4⟩
  · exact .inl h
  · refine .inr ⟨b, off, h1, by simpa using h2, h3, fun i hi => ?_⟩
    have := Below.heap_setCell w ⟨R, o, none⟩ x b (fun e => h3 e)
    unfold World.cell?
    rw [this]; exact h4 i hi
theorem grown_rfl (w : World) (r : Option Nat) : w.grownBy w r := ⟨rfl, rfl, rfl, Nat.le_refl _, fun _ _ _ => rfl⟩
theorem grown_set {w w' : World} {R o : Nat} (h : w.grownBy w' (some R)) (u : Value) : w.grownBy (w'.setCell ⟨R, o, none⟩ u) (some R) :=
  ⟨h.os, h.tape, h.output, by simpa using h.size, fun i hi hne => (Below.heap_setCell w' ⟨R, o, none⟩ u i (by intro e; exact hne (by rw [e]))).trans (h.block i hi hne)⟩
theorem grown_drewN {w w' : World} {r : Option Nat} (h : w.grownBy w' r) (q : Nat) : w.grownBy (w'.drewN q) r := ⟨h.os, h.tape, h.output, h.size, h.block⟩
theorem grown_tr {a b c : World} {r : Option Nat} (h : a.grownBy b r) (k : b.grownBy c r) : a.grownBy c r :=
  ⟨k.os.trans h.os, k.tape.trans h.tape, k.output.trans h.output, Nat.le_trans h.size k.size, fun i hi hne => (k.block i (Nat.lt_of_lt_of_le hi h.size) hne).trans (h.block i hi hne)⟩
theorem grown_bel {a b : World} {r : Option Nat} (h : Below a.heap.size a b) : a.grownBy b r := ⟨h.os, h.tape, h.output, h.size, fun i hi _ => h.block i hi⟩
theorem Rd.drewN {w : World} {R : Nat} {a : Option Addr} {n c : Nat} {zs : List Int} {S : Rs} (h : Rd w R a n c zs S) (q : Nat) : Rd (w.drewN q) R a n c zs S := h.heap rfl
def adv (S : Rs) (y : Nat) : Rs := { S with pos := S.pos + y }

theorem f79w {w : World} {R : Nat} {a : Option Addr} {n c : Nat} {zs : List Int} {S : Rs} (m : Nat) (hk : Dk n zs) (h : Rd w R a n c zs S) (hm : m ≤ 64) (htm : S.pos + m ≤ 8 * n) :
    Calls Tryd.prog 79 #[.pointer (some ⟨R, 0, none⟩), .int .i64 m] w fun e w' => e = .returned (.int .u64 (tk zs S.pos m)) ∧ Rd w' R a n c zs (adv S m) ∧ w.grownBy w' (some R) := by
  refine (f79q a n c S.pos m R zs _ _ _ _ _ _ _ _ w hk.len hk.le hk.byte h.dat hm htm h.box).mono ?_
  rintro e w' ⟨rfl, hb, hg⟩
  exact ⟨rfl, ⟨hb, h.dat.grown hg⟩, hg⟩

set_option maxHeartbeats 2000000 in
theorem f63 {w : World} {R : Nat} {a : Option Addr} {n c : Nat} {zs : List Int} {S : Rs} (m : Nat) (hk : Dk n zs) (h : Rd w R a n c zs S) (hm : m ≤ 64) (htm : S.pos + S.left ≤ 8 * n) :
    Calls Tryd.prog 63 #[.pointer (some ⟨R, 0, none⟩), .int .i64 m] w fun e w' => e = .returned (.int .u64 (takeP zs S m).1) ∧ Rd w' R a n c zs (takeP zs S m).2 ∧ w.grownBy w' (some R) := by
  have HD := hid h
  have hb := hk.le
  have HK := hid hk
  have c2 : w.cell? ⟨R, 2, none⟩ = some (.int .i64 (S.left : Int)) := cell_at h.box 2
  have c3 : w.cell? ⟨R, 3, none⟩ = some (.bool S.br) := cell_at h.box 3
  have f2 := froz_at h.box 2
  have f3 := froz_at h.box 3
  clear h hk
  by_cases hl : m ≤ S.left
  · have HE := hid (takeP_in (zs := zs) hl)
    have H2 := hid (HD.out.set (S' := { S with left := S.left - m }) 2 (.int .i64 ((S.left : Int) - m)) (by unfold rbox; simp; omega))
    have hl1 : S.left ≤ 8 * n := by omega
    go_enter Tryd.func63, Tryd.ntmps63
    go_wp2_with fail
    refine (f79w m HK.out H2.out hm (by show S.pos + m ≤ _; omega)).mono ?_
    rintro e w1 ⟨rfl, hr1, hg1⟩
    go_wp2
    go_ret
    rw [HE.out]
    exact ⟨rfl, hr1, grown_tr (grown_set (grown_rfl _ _) _) hg1⟩
  · have HE := hid (takeP_out (zs := zs) hl)
    have H3 := hid (HD.out.set (S' := S.brk) 3 (.bool true) (by unfold rbox Rs.brk; simp))
    have hl1 : S.left ≤ 8 * n := by omega
    go_enter Tryd.func63, Tryd.ntmps63
    go_wp2
    go_ret
    rw [HE.out]
    exact ⟨rfl, H3.out, grown_set (grown_rfl _ _) _⟩
end Go.Proofs.YteblbcbfaomdmaaDoor.Chk
/- The program's reader of chunks: takeBend. -/
namespace Go.Proofs.YteblbcbfaomdmaaDoor.Chk
open Go.RowKit Go.Proofs.YteblbcbfaomdmaaDoor.Bts
open Go.Proofs.YteblbcbfaomdmaaDoor.Smp hiding hid ret_int below_drewN

theorem f85w (i : Nat) (b : Int) (w : World) (hi : i < 5) (hb : -9223372036854775808 ≤ b) (hb' : b ≤ 9223372036854775807) :
    Calls Tryd.prog 85 #[cv (cls i), .int .i64 b] w fun e w' => e = .returned (.bool (decide (inCls i b))) ∧ Below w.heap.size w w' := by
  have HB : Hid (∀ o, Below w.heap.size w (w.alloc o)) := fun o => (Below.refl w.heap.size w).alloc (Nat.le_refl _) o
  match i, hi with
  | 0, _ =>
    unfold cv cls clsT
    simp only [List.getD_cons_zero]
    go_enter Tryd.func85, Tryd.ntmps85
    go_wp2
    go_ret
    exact ⟨ret_bool (by
      rw [Bool.eq_iff_iff]
      simp only [IntKind.wrap_u64, inCls, beq_iff_eq, decide_eq_true_eq]
      omega), HB.out _⟩
  | 1, _ =>
    unfold cv cls clsT
    simp only [List.getD_cons_succ, List.getD_cons_zero]
    go_enter Tryd.func85, Tryd.ntmps85
    go_wp2
    go_ret
    exact ⟨ret_bool (by
      rw [Bool.eq_iff_iff]
      simp only [IntKind.wrap_u64, inCls, beq_iff_eq, decide_eq_true_eq, wrap64]
      omega), HB.out _⟩
  | 2, _ =>
    unfold cv cls clsT
    simp only [List.getD_cons_succ, List.getD_cons_zero]
    go_enter Tryd.func85, Tryd.ntmps85
    go_wp2
    go_ret
    exact ⟨ret_bool (by
      rw [Bool.eq_iff_iff]
      simp only [IntKind.wrap_u64, inCls, beq_iff_eq, decide_eq_true_eq, wrap64]
      omega), HB.out _⟩
  | 3, _ =>
    unfold cv cls clsT
    simp only [List.getD_cons_succ, List.getD_cons_zero]
    go_enter Tryd.func85, Tryd.ntmps85
    go_wp2
    go_ret
    exact ⟨ret_bool (by
      rw [Bool.eq_iff_iff]
      simp only [IntKind.wrap_u64, inCls, beq_iff_eq, decide_eq_true_eq, wrap64]
      omega), HB.out _⟩
  | 4, _ =>
    unfold cv cls clsT
    simp only [List.getD_cons_succ, List.getD_cons_zero]
    go_enter Tryd.func85, Tryd.ntmps85
    go_wp2
    go_ret
    exact ⟨ret_bool (by simp [inCls]; rw [IntKind.wrap_u64]; omega), HB.out _⟩
set_option maxHeartbeats 2000000 in
theorem f75w (b : Int) (w : World) (hb : -9223372036854775808 ≤ b) (hb' : b ≤ 9223372036854775807) (hc : Cls w) :
    Calls Tryd.prog 75 #[.int .i64 b] w fun e w' => e = .returned (cv (cls (bendI b))) ∧ Below w.heap.size w w' := by
  have HC := hid hc
  have HB0 := hid ((Below.refl w.heap.size w).alloc (Nat.le_refl _) (.cells #[.int .i64 0, .int .i64 0, .int .i64 0, .int .i64 0] 98))
  have HX0 := hid (heap_alloc_new w (.cells #[.int .i64 0, .int .i64 0, .int .i64 0, .int .i64 0] 98))
  have HL := hid (bend_lt b)
  clear hc
  go_enter Tryd.func75, Tryd.ntmps75
  go_wp2
  go_loopw [3] (fun si wr => ∃ i : Nat, i ≤ bendI b ∧ i < 5 ∧ si = .int .i64 i ∧ wr.heap[w.heap.size]? = some (.cells #[.int .i64 0, .int .i64 0, .int .i64 0, .int .i64 0] 98 (0, 0)) ∧ Below w.heap.size w wr) (fun si _ => 5 - (intOf si).toNat)
  case atStart => exact ⟨0, Nat.zero_le _, by omega, rfl, HX0.out, HB0.out⟩
  case round =>
    obtain ⟨i, hi, hi5, rfl, hbx, hnx⟩ := hrel
    have HX := hid hnx
    have HBX := hid hbx
    obtain ⟨c0, c1, c2, c3⟩ := (HC.out.below hnx) i hi5
    have i1 : (i : Int) < 5 := by omega
    clear hnx hbx
    by_cases hin : inCls i b
    · have hie : i = bendI b := by
        rcases Nat.lt_or_ge i (bendI b) with h | h
        · exact absurd hin (bend_not h)
        · omega
      have HIE := hid hie
      have hd := decide_eq_true hin
      clear hie hin
      have HCV : Hid (cv (cls i) = .agg #[.int .i64 (cls i).1, .int .i64 (cls i).2.1, .int .i64 (cls i).2.2.1, .int .i64 (cls i).2.2.2]) := rfl
      go_wp2_with fail
      rw [← HCV.out]
      refine (f85w i b _ hi5 hb hb').mono ?_
      rintro e w2 ⟨rfl, hb2⟩
      have HX2 := hid (HX.out.trans (hb2.mono HX.out.size))
      have hbx2 := box_below HBX.out hb2
      have HBX2 := hid hbx2
      obtain ⟨c0, c1, c2, c3⟩ := (HC.out.below HX2.out) i hi5
      have z0 : w2.cell? ⟨w.heap.size, 0, none⟩ = some (.int .i64 0) := cell_at hbx2 0
      have z1 : w2.cell? ⟨w.heap.size, 1, none⟩ = some (.int .i64 0) := cell_at hbx2 1
      have z2 : w2.cell? ⟨w.heap.size, 2, none⟩ = some (.int .i64 0) := cell_at hbx2 2
      have z3 : w2.cell? ⟨w.heap.size, 3, none⟩ = some (.int .i64 0) := cell_at hbx2 3
      have f0 := froz_at hbx2 0
      have f1 := froz_at hbx2 1
      have f2 := froz_at hbx2 2
      have f3 := froz_at hbx2 3
      have HW := hid (set_cell (o := 3) (x := .int .i64 (cls i).2.2.2) (set_cell (o := 2) (x := .int .i64 (cls i).2.2.1) (set_cell (o := 1) (x := .int .i64 (cls i).2.1) (set_cell (o := 0) (x := .int .i64 (cls i).1) hbx2))))
      have HV := hid ((((HX2.out.setCell (p := ⟨w.heap.size, 0, none⟩) (Nat.le_refl _) (.int .i64 (cls i).1)).setCell (p := ⟨w.heap.size, 1, none⟩) (Nat.le_refl _) (.int .i64 (cls i).2.1)).setCell (p := ⟨w.heap.size, 2, none⟩) (Nat.le_refl _) (.int .i64 (cls i).2.2.1)).setCell (p := ⟨w.heap.size, 3, none⟩) (Nat.le_refl _) (.int .i64 (cls i).2.2.2))
      clear hb2 hbx2
      generalize hcl : cls i = q at *
      obtain ⟨q0, q1, q2, q3⟩ := q
      have HCL := hid hcl
      clear hcl HCV
      simp only at c0 c1 c2 c3
      go_wp2
      have y0 := cell_at HW.out 0
      have y1 := cell_at HW.out 1
      have y2 := cell_at HW.out 2
      have y3 := cell_at HW.out 3
      simp at y0 y1 y2 y3
      refine bodyPost_ret (v := cv (q0, q1, q2, q3)) (by simp [results, Tryd.results75, go_sem, y0, y1, y2, y3, cv]) rfl ⟨?_, HV.out⟩
      rw [← HIE.out, HCL.out]
    · have hd := decide_eq_false hin
      have hlt : i < bendI b := by
        rcases Nat.lt_or_ge i (bendI b) with h | h
        · exact h
        · have : i = bendI b := by omega
          subst this; exact absurd (bend_in b) hin
      have HLT : Hid (i + 1 ≤ bendI b ∧ i + 1 < 5) := ⟨hlt, by have := HL.out; omega⟩
      clear hin hlt
      have HCV : Hid (cv (cls i) = .agg #[.int .i64 (cls i).1, .int .i64 (cls i).2.1, .int .i64 (cls i).2.2.1, .int .i64 (cls i).2.2.2]) := rfl
      go_wp2_with fail
      rw [← HCV.out]
      refine (f85w i b _ hi5 hb hb').mono ?_
      rintro e w2 ⟨rfl, hb2⟩
      have HX2 := hid (HX.out.trans (hb2.mono HX.out.size))
      have HBX2 := hid (box_below HBX.out hb2)
      clear hb2
      go_wp2
      go_roundw
      case rel => exact ⟨i + 1, HLT.out.1, HLT.out.2, by go_num, HBX2.out, HX2.out⟩
      case measure => simp [intOf]; omega

theorem cls_ne {i j : Nat} (hi : i < 5) (hj : j < 5) (h : cls i = cls j) : i = j := by
  match i, hi, j, hj with
  | 0, _, 0, _ => rfl
  | 1, _, 1, _ => rfl
  | 2, _, 2, _ => rfl
  | 3, _, 3, _ => rfl
  | 4, _, 4, _ => rfl
  | 0, _, 1, _ => exact absurd h (by decide)
  | 0, _, 2, _ => exact absurd h (by decide)
  | 0, _, 3, _ => exact absurd h (by decide)
  | 0, _, 4, _ => exact absurd h (by decide)
  | 1, _, 0, _ => exact absurd h (by decide)
  | 1, _, 2, _ => exact absurd h (by decide)
  | 1, _, 3, _ => exact absurd h (by decide)
  | 1, _, 4, _ => exact absurd h (by decide)
  | 2, _, 0, _ => exact absurd h (by decide)
  | 2, _, 1, _ => exact absurd h (by decide)
  | 2, _, 3, _ => exact absurd h (by decide)
  | 2, _, 4, _ => exact absurd h (by decide)
  | 3, _, 0, _ => exact absurd h (by decide)
  | 3, _, 1, _ => exact absurd h (by decide)
  | 3, _, 2, _ => exact absurd h (by decide)
  | 3, _, 4, _ => exact absurd h (by decide)
  | 4, _, 0, _ => exact absurd h (by decide)
  | 4, _, 1, _ => exact absurd h (by decide)
  | 4, _, 2, _ => exact absurd h (by decide)
  | 4, _, 3, _ => exact absurd h (by decide)
theorem Cls.grown {w w' : World} {R : Nat} (h : Cls w) (hg : w.grownBy w' (some R)) (hR : R ≠ 0) : Cls w' := fun i hi => by
  obtain ⟨h1, h2, h3, h4⟩ := h i hi
  have hne : (some R : Option Nat) ≠ some 0 := by simpa using hR
  exact ⟨hg.cell h1 (by simpa using hR.symm), hg.cell h2 (by simpa using hR.symm), hg.cell h3 (by simpa using hR.symm), hg.cell h4 (by simpa using hR.symm)⟩
theorem boxk {w w' : World} {R b : Nat} {o : Obj} (h : w.heap[b]? = some o) (hg : w.grownBy w' (some R)) (hne : b ≠ R) : w'.heap[b]? = some o := by
  have hlt : b < w.heap.size := (Array.getElem?_eq_some_iff.1 h).1
  rw [hg.block b hlt (by simpa using hne)]; exact h
theorem grown_heap {w w' x : World} {r : Option Nat} (h : w'.grownBy x r) (he : w'.heap = w.heap) (h1 : w'.os = w.os) (h2 : w'.tape = w.tape) (h3 : w'.output = w.output) : w.grownBy x r :=
  ⟨h.os.trans h1, h.tape.trans h2, h.output.trans h3, by rw [← he]; exact h.size, fun i hi hne => (h.block i (by rw [he]; exact hi) hne).trans (by rw [he])⟩
theorem ones_step {zs : List Int} {k : Nat} {S0 S : Rs} (hk : k < 4) (h : onesP zs 4 S0 = (k + (onesP zs (4 - k) S).1, (onesP zs (4 - k) S).2)) :
    ((takeP zs S 1).1 = 1 → onesP zs 4 S0 = (k + 1 + (onesP zs (4 - (k + 1)) (takeP zs S 1).2).1, (onesP zs (4 - (k + 1)) (takeP zs S 1).2).2)) ∧ (¬ (takeP zs S 1).1 = 1 → onesP zs 4 S0 = (k, (takeP zs S 1).2)) := by
  obtain ⟨f, hf⟩ : ∃ f, 4 - k = f + 1 := ⟨3 - k, by omega⟩
  rw [hf] at h
  rw [show 4 - (k + 1) = f by omega]
  constructor
  · intro h1
    rw [h, onesP, if_pos h1]
    exact Prod.ext (by show k + (_ + 1) = k + 1 + _; omega) rfl
  · intro h1
    rw [h, onesP, if_neg h1]; rfl

theorem g_cls : Tryd.prog.eqGuardType Tryd.prog.depth 98 = false := by kernel_rfl
theorem g_frame : Tryd.prog.eqGuardType Tryd.prog.depth 66 = false := by kernel_rfl
theorem neqCls (p0 p1 p2 p3 q0 q1 q2 q3 : Int) (w : World) : (binOp .neq 98 (.agg #[.int .i64 p0, .int .i64 p1, .int .i64 p2, .int .i64 p3]) (.agg #[.int .i64 q0, .int .i64 q1, .int .i64 q2, .int .i64 q3])).run Tryd.prog w = .ok (.bool (!decide ((p0, p1, p2, p3) = (q0, q1, q2, q3)))) w := by
  rw [run_neq_struct, show (10000 : Nat) = 9999 + 1 from rfl, run_equalIn_agg w 9999 98 _ _ (by kernel_rfl) (by kernel_rfl)]
  have hu := Tryd.underlying98
  have h3 := Tryd.underlying3
  simp only [Program.fieldsOf, hu]
  simp [go_sem, h3, Op.eqFields, part]
  repeat' split
  all_goals simp_all
theorem neqFrame (p0 p1 q0 q1 : Int) (w : World) : (binOp .neq 66 (.agg #[.int .i64 p0, .int .i64 p1]) (.agg #[.int .i64 q0, .int .i64 q1])).run Tryd.prog w = .ok (.bool (!decide ((p0, p1) = (q0, q1)))) w := by
  rw [run_neq_struct, show (10000 : Nat) = 9999 + 1 from rfl, run_equalIn_agg w 9999 66 _ _ (by kernel_rfl) (by kernel_rfl)]
  have hu := Tryd.underlying66
  have h3 := Tryd.underlying3
  simp only [Program.fieldsOf, hu]
  simp [go_sem, h3, Op.eqFields, part]
  repeat' split
  all_goals simp_all
set_option maxRecDepth 100000 in
set_option maxHeartbeats 8000000 in
theorem f80 {w : World} {R : Nat} {a : Option Addr} {n c : Nat} {zs : List Int} {S : Rs} (hk : Dk n zs) (h : Rd w R a n c zs S) (htm : S.pos + S.left ≤ 8 * n) (hc : Cls w) (hR : R ≠ 0) :
    Calls Tryd.prog 80 #[.pointer (some ⟨R, 0, none⟩)] w fun e w' => e = .returned (.int .i64 (bendP zs S).1) ∧ Rd w' R a n c zs (bendP zs S).2 ∧ w.grownBy w' (some R) := by
  have HK := hid hk
  have HD := hid h
  have HC := hid hc
  clear hk h hc
  go_enter Tryd.func80, Tryd.ntmps80
  go_wp2
  go_loopw [3] (fun so wr => ∃ (k : Nat) (S' : Rs), k ≤ 4 ∧ so = .int .i64 k ∧ onesP zs 4 S = (k + (onesP zs (4 - k) S').1, (onesP zs (4 - k) S').2) ∧ S'.pos + S'.left = S.pos + S.left ∧ Rd wr R a n c zs S' ∧ w.grownBy wr (some R)) (fun so _ => 4 - (intOf so).toNat)
  case atStart => exact ⟨0, S, by omega, rfl, Prod.ext (by show _ = 0 + _; rw [Nat.zero_add]) rfl, rfl, HD.out, grown_rfl _ _⟩
  case round =>
    obtain ⟨k, S', hk4, rfl, hon, hsum, hrd, hgr⟩ := hrel
    have HO := hid hon
    have HS := hid hsum
    have HR := hid hrd
    have HG := hid hgr
    clear hon hsum hrd hgr
    have hk4' : k < 4 ∨ k = 4 := by omega
    rcases hk4' with hlt | rfl
    · have HST := hid (ones_step hlt HO.out)
      clear HO
      go_wp2_with fail
      refine (f63 1 HK.out HR.out (by omega) (by rw [HS.out]; exact htm)).mono ?_
      rintro e w1 ⟨rfl, hr1, hg1⟩
      have HR1 := hid hr1
      have HG1 := hid (grown_tr HG.out hg1)
      have HS1 : Hid ((takeP zs S' 1).2.pos + (takeP zs S' 1).2.left = S.pos + S.left) := by unfold Hid; rw [takeP_sum]; exact HS.out
      clear hr1 hg1 HR HG HS
      by_cases h1 : (takeP zs S' 1).1 = 1
      · have HO := hid (HST.out.1 h1)
        have h1' : ((takeP zs S' 1).1 == 1) = true := by rw [h1]; rfl
        clear h1
        go_wp2
        go_roundw
        case rel => exact ⟨k + 1, (takeP zs S' 1).2, by omega, by go_num, HO.out, HS1.out, HR1.out, HG1.out⟩
        case measure => simp [intOf]; omega
      · have HO := hid (HST.out.2 h1)
        have h1' : ((takeP zs S' 1).1 == 1) = false := by simpa using h1
        clear h1 HST
        obtain ⟨T, hT⟩ : ∃ T, T = (takeP zs S' 1).2 := ⟨_, rfl⟩
        have HR := HR1
        have HG := HG1
        have HS := HS1
        rw [← hT] at HO HR HS
        clear hT HR1 HG1 HS1
        have HCW := hid (HC.out.grown HG.out hR)
        obtain ⟨c0, c1, c2, c3⟩ := HCW.out k (by omega)
        have i1 : (k : Int) < 5 := by omega
        obtain ⟨k1, k2, k3, k4, k5, k6, k7, k8⟩ := cls_bd k (by omega)
        obtain ⟨q, hq⟩ : ∃ q, q = cls k := ⟨_, rfl⟩
        rw [← hq] at c0 c1 c2 c3 k1 k2 k3 k4 k5 k6 k7 k8
        have HQ := hid hq
        clear hq
        obtain ⟨q0, q1, q2, q3⟩ := q
        simp only at c0 c1 c2 c3 k1 k2 k3 k4 k5 k6 k7 k8
        obtain ⟨m3, hm3⟩ : ∃ m3 : Nat, q3 = (m3 : Int) := ⟨q3.toNat, by omega⟩
        subst hm3
        have HXA := hid (heap_alloc_new w1 (.cells #[.int .i64 q0, .int .i64 q1, .int .i64 q2, .int .i64 (m3 : Int)] 98))
        have HSA := hid (s4_of (c := (q0, q1, q2, (m3 : Int))) HXA.out)
        have HRA := hid (HR.out.below ((Below.refl _ w1).alloc (Nat.le_refl _) (.cells #[.int .i64 q0, .int .i64 q1, .int .i64 q2, .int .i64 (m3 : Int)] 98)))
        have HGA := hid (grown_tr HG.out (grown_bel (r := some R) ((Below.refl _ w1).alloc (Nat.le_refl _) (.cells #[.int .i64 q0, .int .i64 q1, .int .i64 q2, .int .i64 (m3 : Int)] 98))))
        have hXR : w1.heap.size ≠ R := by have := HR.out.lt; omega
        clear HXA HG HCW
        go_wp2_with fail
        go_region_held3 (fun w' => S4 w1.heap.size (q0, q1, q2, (m3 : Int)) w') (first | exact HSA.out.drew | assumption) (first | (go_at_call 63; refine (f63 m3 HK.out (HRA.out.heap (w' := World.drew _) rfl) (by omega) (by rw [HS.out]; exact htm)).mono ?_; rintro e w2 ⟨rfl, hr2, hg2⟩; have hs2 := s4_of (c := (q0, q1, q2, (m3 : Int))) (boxk HSA.out.2.2.2.2 (grown_heap hg2 rfl rfl rfl rfl) hXR)))
        have HR2 := hid hr2
        have HS2 := hid hs2
        have HG2 := hid (grown_tr HGA.out (grown_heap hg2 rfl rfl rfl rfl))
        have HC2 := hid (HC.out.grown HG2.out hR)
        have hbv : IntKind.i64.wrap (q2 + IntKind.i64.wrap (takeP zs T m3).1) = bendV zs S := by
          unfold bendV
          rw [HO.out, ← HQ.out, IntWalk.i64_left, IntWalk.i64_left]; rfl
        have hb0 : -9223372036854775808 ≤ bendV zs S ∧ bendV zs S ≤ 9223372036854775807 := by unfold bendV; simp only [wrap64]; omega
        have HBV := hid hbv
        try rw [hbv]
        clear hr2 hs2 hg2 HRA HGA HSA hbv
        go_wp2_with fail
        obtain ⟨p, hp⟩ : ∃ p, p = cls (bendI (bendV zs S)) := ⟨_, rfl⟩
        obtain ⟨p0, p1, p2, p3⟩ := p
        have HCO := hid (fun w' hc => f75w (bendV zs S) w' hb0.1 hb0.2 hc)
        rw [← hp] at HCO
        have hg98 := g_cls
        have hde : decide ((p0, p1, p2, p3) = (q0, q1, q2, (m3 : Int))) = decide (bendI (bendV zs S) = k) := by
          rw [decide_eq_decide, hp, HQ.out]
          exact ⟨fun e => cls_ne (bend_lt _) (by omega) e, fun e => by rw [e]⟩
        have hneq := fun w' => neqCls p0 p1 p2 p3 q0 q1 q2 (m3 : Int) w'
        rw [hde] at hneq
        have HBP : Hid (bendP zs S = (bendV zs S, if bendI (bendV zs S) = k then (takeP zs T m3).2 else (takeP zs T m3).2.brk)) := by
          unfold Hid bendP bendS
          rw [HO.out]
          simp only
          rw [← HQ.out]; rfl
        clear hde hp
        have r3 : w2.cell? ⟨R, 3, none⟩ = some (.bool (takeP zs T m3).2.br) := cell_at HR2.out.box 3
        by_cases hbe : bendI (bendV zs S) = k
        · have hbd : decide (bendI (bendV zs S) = k) = true := decide_eq_true hbe
          rw [hbd] at hneq
          rw [if_pos hbe] at HBP
          clear hbe hbd
          go_region_held3 (fun w' => S4 w1.heap.size (q0, q1, q2, (m3 : Int)) w') (first | exact HS2.out.drew | assumption) (first | (go_at_call 75; refine (HCO.out (World.drew _) (fun i hi => HC2.out i hi)).mono ?_; unfold cv; rintro e w3 ⟨rfl, hb3⟩; have hs3 := s4_of (c := (q0, q1, q2, (m3 : Int))) (box_below (w := World.drew _) HS2.out.2.2.2.2 hb3)))
          have HR3 := hid ((HR2.out.heap (w' := World.drew _) rfl).below hb3)
          have HG3 := hid (grown_tr HG2.out (grown_heap (grown_bel (r := some R) hb3) rfl rfl rfl rfl))
          clear hb3 hs3
          go_wp2
          go_ret
          rw [HBP.out]
          exact ⟨rfl, HR3.out, HG3.out⟩
        · have hbd : decide (bendI (bendV zs S) = k) = false := decide_eq_false hbe
          rw [hbd] at hneq
          rw [if_neg hbe] at HBP
          clear hbe hbd
          go_region_held3 (fun w' => S4 w1.heap.size (q0, q1, q2, (m3 : Int)) w') (first | exact HS2.out.drew | assumption) (first | (go_at_call 75; refine (HCO.out (World.drew _) (fun i hi => HC2.out i hi)).mono ?_; unfold cv; rintro e w3 ⟨rfl, hb3⟩; have hs3 := s4_of (c := (q0, q1, q2, (m3 : Int))) (box_below (w := World.drew _) HS2.out.2.2.2.2 hb3)))
          have HR3 := hid ((HR2.out.heap (w' := World.drew _) rfl).below hb3)
          have HG3 := hid (grown_tr HG2.out (grown_heap (grown_bel (r := some R) hb3) rfl rfl rfl rfl))
          have x3 : w3.cell? ⟨R, 3, none⟩ = some (.bool (takeP zs T m3).2.br) := cell_at HR3.out.box 3
          have f3 := froz_at HR3.out.box 3
          have HR4 := hid (HR3.out.set (S' := (takeP zs T m3).2.brk) 3 (.bool true) (by unfold rbox Rs.brk; simp))
          clear hb3 hs3
          go_wp2
          go_ret
          rw [HBP.out]
          exact ⟨rfl, HR4.out, grown_set HG3.out _⟩
    · have HO' : Hid (onesP zs 4 S = (4, S')) := HO.out
      clear HO
      obtain ⟨T, hT⟩ : ∃ T, T = S' := ⟨_, rfl⟩
      rw [← hT] at HO' HR HS
      clear hT
      obtain ⟨k, hk⟩ : ∃ k : Nat, k = 4 := ⟨_, rfl⟩
      have hk4' : k ≤ 4 := by omega
      have hkd : ¬ ((k : Int) < 4) := by omega
      have HO : Hid (onesP zs 4 S = (k, T)) := by unfold Hid; rw [hk]; exact HO'.out
      clear HO'
      rw [show ((4 : Nat) : Int) = (k : Int) by omega]
      clear hk
      have HCW := hid (HC.out.grown HG.out hR)
      obtain ⟨c0, c1, c2, c3⟩ := HCW.out k (by omega)
      have i1 : (k : Int) < 5 := by omega
      obtain ⟨k1, k2, k3, k4, k5, k6, k7, k8⟩ := cls_bd k (by omega)
      obtain ⟨q, hq⟩ : ∃ q, q = cls k := ⟨_, rfl⟩
      rw [← hq] at c0 c1 c2 c3 k1 k2 k3 k4 k5 k6 k7 k8
      have HQ := hid hq
      clear hq
      obtain ⟨q0, q1, q2, q3⟩ := q
      simp only at c0 c1 c2 c3 k1 k2 k3 k4 k5 k6 k7 k8
      obtain ⟨m3, hm3⟩ : ∃ m3 : Nat, q3 = (m3 : Int) := ⟨q3.toNat, by omega⟩
      subst hm3
      have HXA := hid (heap_alloc_new wr (.cells #[.int .i64 q0, .int .i64 q1, .int .i64 q2, .int .i64 (m3 : Int)] 98))
      have HSA := hid (s4_of (c := (q0, q1, q2, (m3 : Int))) HXA.out)
      have HRA := hid (HR.out.below ((Below.refl _ wr).alloc (Nat.le_refl _) (.cells #[.int .i64 q0, .int .i64 q1, .int .i64 q2, .int .i64 (m3 : Int)] 98)))
      have HGA := hid (grown_tr HG.out (grown_bel (r := some R) ((Below.refl _ wr).alloc (Nat.le_refl _) (.cells #[.int .i64 q0, .int .i64 q1, .int .i64 q2, .int .i64 (m3 : Int)] 98))))
      have hXR : wr.heap.size ≠ R := by have := HR.out.lt; omega
      clear HXA HG HCW
      go_wp2_with fail
      go_region_held3 (fun w' => S4 wr.heap.size (q0, q1, q2, (m3 : Int)) w') (first | exact HSA.out.drew | assumption) (first | (go_at_call 63; refine (f63 m3 HK.out (HRA.out.heap (w' := World.drew _) rfl) (by omega) (by rw [HS.out]; exact htm)).mono ?_; rintro e w2 ⟨rfl, hr2, hg2⟩; have hs2 := s4_of (c := (q0, q1, q2, (m3 : Int))) (boxk HSA.out.2.2.2.2 (grown_heap hg2 rfl rfl rfl rfl) hXR)))
      have HR2 := hid hr2
      have HS2 := hid hs2
      have HG2 := hid (grown_tr HGA.out (grown_heap hg2 rfl rfl rfl rfl))
      have HC2 := hid (HC.out.grown HG2.out hR)
      have hbv : IntKind.i64.wrap (q2 + IntKind.i64.wrap (takeP zs T m3).1) = bendV zs S := by
        unfold bendV
        rw [HO.out, ← HQ.out, IntWalk.i64_left, IntWalk.i64_left]; rfl
      have hb0 : -9223372036854775808 ≤ bendV zs S ∧ bendV zs S ≤ 9223372036854775807 := by unfold bendV; simp only [wrap64]; omega
      have HBV := hid hbv
      try rw [hbv]
      clear hr2 hs2 hg2 HRA HGA HSA hbv
      go_wp2_with fail
      obtain ⟨p, hp⟩ : ∃ p, p = cls (bendI (bendV zs S)) := ⟨_, rfl⟩
      obtain ⟨p0, p1, p2, p3⟩ := p
      have HCO := hid (fun w' hc => f75w (bendV zs S) w' hb0.1 hb0.2 hc)
      rw [← hp] at HCO
      have hg98 := g_cls
      have hde : decide ((p0, p1, p2, p3) = (q0, q1, q2, (m3 : Int))) = decide (bendI (bendV zs S) = k) := by
        rw [decide_eq_decide, hp, HQ.out]
        exact ⟨fun e => cls_ne (bend_lt _) (by omega) e, fun e => by rw [e]⟩
      have hneq := fun w' => neqCls p0 p1 p2 p3 q0 q1 q2 (m3 : Int) w'
      rw [hde] at hneq
      have HBP : Hid (bendP zs S = (bendV zs S, if bendI (bendV zs S) = k then (takeP zs T m3).2 else (takeP zs T m3).2.brk)) := by
        unfold Hid bendP bendS
        rw [HO.out]
        simp only
        rw [← HQ.out]; rfl
      clear hde hp
      have r3 : w2.cell? ⟨R, 3, none⟩ = some (.bool (takeP zs T m3).2.br) := cell_at HR2.out.box 3
      by_cases hbe : bendI (bendV zs S) = k
      · have hbd : decide (bendI (bendV zs S) = k) = true := decide_eq_true hbe
        rw [hbd] at hneq
        rw [if_pos hbe] at HBP
        clear hbe hbd
        go_region_held3 (fun w' => S4 wr.heap.size (q0, q1, q2, (m3 : Int)) w') (first | exact HS2.out.drew | assumption) (first | (go_at_call 75; refine (HCO.out (World.drew _) (fun i hi => HC2.out i hi)).mono ?_; unfold cv; rintro e w3 ⟨rfl, hb3⟩; have hs3 := s4_of (c := (q0, q1, q2, (m3 : Int))) (box_below (w := World.drew _) HS2.out.2.2.2.2 hb3)))
        have HR3 := hid ((HR2.out.heap (w' := World.drew _) rfl).below hb3)
        have HG3 := hid (grown_tr HG2.out (grown_heap (grown_bel (r := some R) hb3) rfl rfl rfl rfl))
        clear hb3 hs3
        go_wp2
        go_ret
        rw [HBP.out]
        exact ⟨rfl, HR3.out, HG3.out⟩
      · have hbd : decide (bendI (bendV zs S) = k) = false := decide_eq_false hbe
        rw [hbd] at hneq
        rw [if_neg hbe] at HBP
        clear hbe hbd
        go_region_held3 (fun w' => S4 wr.heap.size (q0, q1, q2, (m3 : Int)) w') (first | exact HS2.out.drew | assumption) (first | (go_at_call 75; refine (HCO.out (World.drew _) (fun i hi => HC2.out i hi)).mono ?_; unfold cv; rintro e w3 ⟨rfl, hb3⟩; have hs3 := s4_of (c := (q0, q1, q2, (m3 : Int))) (box_below (w := World.drew _) HS2.out.2.2.2.2 hb3)))
        have HR3 := hid ((HR2.out.heap (w' := World.drew _) rfl).below hb3)
        have HG3 := hid (grown_tr HG2.out (grown_heap (grown_bel (r := some R) hb3) rfl rfl rfl rfl))
        have x3 : w3.cell? ⟨R, 3, none⟩ = some (.bool (takeP zs T m3).2.br) := cell_at HR3.out.box 3
        have f3 := froz_at HR3.out.box 3
        have HR4 := hid (HR3.out.set (S' := (takeP zs T m3).2.brk) 3 (.bool true) (by unfold rbox Rs.brk; simp))
        clear hb3 hs3
        go_wp2
        go_ret
        rw [HBP.out]
        exact ⟨rfl, HR4.out, grown_set HG3.out _⟩
end Go.Proofs.YteblbcbfaomdmaaDoor.Chk
/- The program's reader of chunks: takeTurn. -/
namespace Go.Proofs.YteblbcbfaomdmaaDoor.Chk
open Go.RowKit Go.Proofs.YteblbcbfaomdmaaDoor.Bts
open Go.Proofs.YteblbcbfaomdmaaDoor.Smp hiding hid ret_int below_drewN

/-- The reader's frame and the frame in a box, and what stays. -/
structure Xr9 (R X : Nat) (a m x y : Int) (w' : World) : Prop where
  r : ∃ y0 y1 y2 y3 y4 y5 y6, w'.heap[R]? = some (.cells #[y0, y1, y2, y3, y4, y5, y6, .int .i64 a, .int .i64 m] 75 (0, 0))
  x : w'.heap[X]? = some (.cells #[.int .i64 x, .int .i64 y] 66 (0, 0))
abbrev Sr9 (R X : Nat) (a m x y : Int) (w' : World) : Prop :=
  w'.cell? ⟨R, 7, none⟩ = some (.int .i64 a) ∧ w'.cell? ⟨R, 8, none⟩ = some (.int .i64 m) ∧ w'.cell? ⟨X, 0, none⟩ = some (.int .i64 x) ∧ w'.cell? ⟨X, 1, none⟩ = some (.int .i64 y) ∧ Xr9 R X a m x y w'
theorem Xr9.s {R X : Nat} {a m x y : Int} {w' : World} (h : Xr9 R X a m x y w') : Sr9 R X a m x y w' := by
  obtain ⟨y0, y1, y2, y3, y4, y5, y6, h1⟩ := h.r
  exact ⟨cell_at h1 7, cell_at h1 8, cell_at h.x 0, cell_at h.x 1, h⟩
theorem Sr9.drew {R X : Nat} {a m x y : Int} {w' : World} (h : Sr9 R X a m x y w') : Sr9 R X a m x y w'.drew := Xr9.s (w' := w'.drew) ⟨h.2.2.2.2.r, h.2.2.2.2.x⟩
theorem Sr9.below {R X : Nat} {a m x y : Int} {W W' : World} (h : Sr9 R X a m x y W) (hb : Below W.heap.size W W') : Sr9 R X a m x y W' := by
  obtain ⟨y0, y1, y2, y3, y4, y5, y6, h1⟩ := h.2.2.2.2.r
  exact Xr9.s ⟨⟨y0, y1, y2, y3, y4, y5, y6, box_below h1 hb⟩, box_below h.2.2.2.2.x hb⟩
theorem s9_of {R X n c : Nat} {a : Option Addr} {zs : List Int} {S : Rs} {x y : Int} {w' : World} (h : Rd w' R a n c zs S) (hx : w'.heap[X]? = some (.cells #[.int .i64 x, .int .i64 y] 66 (0, 0))) : Sr9 R X (S.fa : Int) (S.fm : Int) x y w' :=
  Xr9.s ⟨⟨_, _, _, _, _, _, _, h.box⟩, hx⟩
/-- The reader's frame. -/
abbrev S7 (R : Nat) (a m : Int) (w' : World) : Prop := w'.cell? ⟨R, 7, none⟩ = some (.int .i64 a) ∧ w'.cell? ⟨R, 8, none⟩ = some (.int .i64 m)
theorem s7_of {w' : World} {R n c : Nat} {a : Option Addr} {zs : List Int} {S : Rs} (h : Rd w' R a n c zs S) : S7 R (S.fa : Int) (S.fm : Int) w' := ⟨cell_at h.box 7, cell_at h.box 8⟩
theorem s7_al {R : Nat} {a m : Int} {w : World} {o : Obj} (h : S7 R a m w) (hl : R < w.heap.size) : S7 R a m (w.alloc o) := ⟨cell_alloc (p := ⟨R, 7, none⟩) hl h.1, cell_alloc (p := ⟨R, 8, none⟩) hl h.2⟩
theorem s7_st {R b o : Nat} {a m : Int} {w : World} {v : Value} (h : S7 R a m w) (hne : b ≠ R) : S7 R a m (w.setCell ⟨b, o, none⟩ v) := by
  have := Below.heap_setCell w ⟨b, o, none⟩ v R (fun e => hne e.symm)
  refine ⟨?_, ?_⟩
  · have h1 := h.1; unfold World.cell? at h1 ⊢; rw [this]; exact h1
  · have h1 := h.2; unfold World.cell? at h1 ⊢; rw [this]; exact h1
theorem Tab.grown {w w' : World} {R : Nat} (h : Tab w) (hg : w.grownBy w' (some R)) (hR : R ≠ 1) : Tab w' := fun j hj => hg.cell (h j hj) (by simpa using hR.symm)

structure Tld (w : World) (R X : Nat) (a : Option Addr) (n c : Nat) (zs : List Int) (S : Rs) (x y : Int) (wx : World) : Prop where
  rd : Rd wx R a n c zs S
  x : wx.heap[X]? = some (.cells #[.int .i64 x, .int .i64 y] 66 (0, 0))
  ne : X ≠ R
  new : w.heap.size ≤ X
  g : w.grownBy wx (some R)
theorem Tld.call {w : World} {R X : Nat} {a : Option Addr} {n c : Nat} {zs : List Int} {S S' : Rs} {x y : Int} {wx wy : World} (h : Tld w R X a n c zs S x y wx) (hr : Rd wy R a n c zs S') (hg : wx.grownBy wy (some R)) : Tld w R X a n c zs S' x y wy :=
  ⟨hr, boxk h.x hg h.ne, h.ne, h.new, grown_tr h.g hg⟩
theorem Tld.below {w : World} {R X : Nat} {a : Option Addr} {n c : Nat} {zs : List Int} {S : Rs} {x y : Int} {wx wy : World} (h : Tld w R X a n c zs S x y wx) (hb : Below wx.heap.size wx wy) : Tld w R X a n c zs S x y wy :=
  h.call (h.rd.below hb) (grown_bel hb)
theorem Tld.drew {w : World} {R X : Nat} {a : Option Addr} {n c : Nat} {zs : List Int} {S : Rs} {x y : Int} {wx : World} (h : Tld w R X a n c zs S x y wx) : Tld w R X a n c zs S x y wx.drew :=
  ⟨h.rd.heap rfl, h.x, h.ne, h.new, grown_tr h.g ⟨rfl, rfl, rfl, Nat.le_refl _, fun _ _ _ => rfl⟩⟩
theorem set_other {w : World} {b b' o : Nat} {v : Value} (h : b ≠ b') : (w.setCell ⟨b', o, none⟩ v).heap[b]? = w.heap[b]? := Below.heap_setCell w ⟨b', o, none⟩ v b h
theorem Tld.setX {w : World} {R X : Nat} {a : Option Addr} {n c : Nat} {zs : List Int} {S : Rs} {x y : Int} {wx : World} (h : Tld w R X a n c zs S x y wx) (x' y' : Int) : Tld w R X a n c zs S x' y' ((wx.setCell ⟨X, 0, none⟩ (.int .i64 x')).setCell ⟨X, 1, none⟩ (.int .i64 y')) := by
  have hx := set_cell (o := 1) (x := .int .i64 y') (set_cell (o := 0) (x := .int .i64 x') h.x)
  refine ⟨⟨?_, ?_⟩, hx, h.ne, h.new, ?_⟩
  · rw [set_other (Ne.symm h.ne), set_other (Ne.symm h.ne)]; exact h.rd.box
  · have hl : X < wx.heap.size := (Array.getElem?_eq_some_iff.1 h.x).1
    rcases h.rd.dat with hd | ⟨b, off, h1, h2, h3, h4⟩
    · exact .inl hd
    · by_cases hz : zs = []
      · exact .inl hz
      refine .inr ⟨b, off, h1, by simpa using h2, h3, fun i hi => ?_⟩
      have hbX : b ≠ X := by
        intro e
        have := h4 i hi
        rw [e, cell_at h.x] at this
        match off + i, this with
        | 0, t => simp at t
        | 1, t => simp at t
        | k + 2, t => simp at t
      unfold World.cell?
      rw [set_other hbX, set_other hbX]; exact h4 i hi
  · exact ⟨h.g.os, h.g.tape, h.g.output, by simpa using h.g.size, fun i hi hne => by
      have hiX : i ≠ X := by have := h.new; omega
      rw [set_other hiX, set_other hiX]; exact h.g.block i hi hne⟩
theorem Tld.cells {w : World} {R X : Nat} {a : Option Addr} {n c : Nat} {zs : List Int} {S : Rs} {x y : Int} {wx : World} (h : Tld w R X a n c zs S x y wx) : Sr9 R X (S.fa : Int) (S.fm : Int) x y wx := s9_of h.rd h.x
theorem Tld.setR {w : World} {R X : Nat} {a : Option Addr} {n c : Nat} {zs : List Int} {S S' : Rs} {x y : Int} {wx : World} (h : Tld w R X a n c zs S x y wx) (o : Nat) (v : Value) (hs : (rbox a n c S).setIfInBounds o v = rbox a n c S') : Tld w R X a n c zs S' x y (wx.setCell ⟨R, o, none⟩ v) :=
  ⟨h.rd.set o v hs, by rw [set_other h.ne]; exact h.x, h.ne, h.new, grown_set h.g v⟩
theorem Tld.drewN {w : World} {R X : Nat} {a : Option Addr} {n c : Nat} {zs : List Int} {S : Rs} {x y : Int} {wx : World} (h : Tld w R X a n c zs S x y wx) (q : Nat) : Tld w R X a n c zs S x y (wx.drewN q) :=
  ⟨h.rd.heap rfl, h.x, h.ne, h.new, grown_tr h.g ⟨rfl, rfl, rfl, Nat.le_refl _, fun _ _ _ => rfl⟩⟩
theorem newT_yes {zs : List Int} {V U : Rs} {A m k : Nat} {u tv : Int} (hs : ¬ 64 < A + m) (hk : k = 64 - A - m) (hu : takeP zs V m = (u, U)) (ht : tv = u * 2 ^ k) (hc : tv = 0 ∨ zr tv ≠ (A, k) ∨ (V.fa ≤ A ∧ A + m ≤ V.fa + V.fm)) : newT zs V A m = (tv, { U with br := true, fa := A, fm := m }) := by
  unfold newT
  rw [if_neg hs]
  simp only
  rw [hu, ← hk]
  simp only
  rw [← ht, if_pos hc]
theorem newT_no {zs : List Int} {V U : Rs} {A m k : Nat} {u tv : Int} (hs : ¬ 64 < A + m) (hk : k = 64 - A - m) (hu : takeP zs V m = (u, U)) (ht : tv = u * 2 ^ k) (hc : ¬ (tv = 0 ∨ zr tv ≠ (A, k) ∨ (V.fa ≤ A ∧ A + m ≤ V.fa + V.fm))) : newT zs V A m = (tv, { U with fa := A, fm := m }) := by
  unfold newT
  rw [if_neg hs]
  simp only
  rw [hu, ← hk]
  simp only
  rw [← ht, if_neg hc]
theorem take6 (zs : List Int) (S : Rs) : ∃ A : Nat, (takeP zs S 6).1 = (A : Int) ∧ A ≤ 63 := by
  have hb := takeP_bd zs S 6
  have e6 : (2 : Int) ^ 6 = 64 := by decide
  exact ⟨(takeP zs S 6).1.toNat, by omega, by omega⟩

set_option maxRecDepth 100000 in
set_option maxHeartbeats 8000000 in
theorem f81 {w : World} {R : Nat} {a : Option Addr} {n c : Nat} {zs : List Int} {S : Rs} (hk : Dk n zs) (h : Rd w R a n c zs S) (htm : S.pos + S.left ≤ 8 * n) (hf : S.fa + S.fm ≤ 64) (hc : Tab w) (hR : R ≠ 1) :
    Calls Tryd.prog 81 #[.pointer (some ⟨R, 0, none⟩)] w fun e w' => e = .returned (.int .u64 (turnP zs S).1) ∧ Rd w' R a n c zs (turnP zs S).2 ∧ w.grownBy w' (some R) := by
  have HK := hid hk
  have HD := hid h
  have HC := hid hc
  clear hk h hc
  go_enter Tryd.func81, Tryd.ntmps81
  go_wp2_with fail
  refine (f63 1 HK.out HD.out (by omega) htm).mono ?_
  rintro e w1 ⟨rfl, hr1, hg1⟩
  have HR1 := hid hr1
  have HG1 := hid hg1
  clear hr1 hg1 HD
  by_cases hx : (takeP zs S 1).1 = 0
  · have hx' : ((takeP zs S 1).1 == 0) = true := by rw [hx]; rfl
    have HE : Hid (turnP zs S = (0, (takeP zs S 1).2)) := by unfold Hid turnP; rw [if_pos hx]
    clear hx
    go_wp2
    go_ret
    rw [HE.out]
    exact ⟨rfl, HR1.out, HG1.out⟩
  · have hx' : ((takeP zs S 1).1 == 0) = false := by simpa using hx
    have HX := hid hx
    clear hx
    obtain ⟨T, hT⟩ : ∃ T, T = (takeP zs S 1).2 := ⟨_, rfl⟩
    have hTf : T.fa = S.fa ∧ T.fm = S.fm ∧ T.pos + T.left = S.pos + S.left := by rw [hT, takeP_fa, takeP_fm, takeP_sum]; exact ⟨rfl, rfl, rfl⟩
    have HT := hid hT
    have HTF := hid hTf
    rw [← hT] at HR1
    clear hT hTf
    have HS7 := hid (s7_of HR1.out)
    rw [HTF.out.1, HTF.out.2.1] at HS7
    have hlt1 := HR1.out.lt
    have hne1 : w1.heap.size ≠ R := Nat.ne_of_gt hlt1
    go_upto_region 3 with fail
    go_cut [3, 4] from 9 to 15 (fun s3 s4 wx => s4 = .bool ((takeP zs T 1).1 == 1) ∧ ∃ X, s3 = .pointer (some ⟨X, 0, none⟩) ∧ Hid (Tld w R X a n c zs (takeP zs T 1).2 (S.fa : Int) (S.fm : Int) wx))
    case first =>
      go_wp2_with fail
      go_region_held3 (fun w' => S7 R (S.fa : Int) (S.fm : Int) w') (first | exact HS7.out | assumption | exact s7_al hs2 hlt2 | exact s7_st (s7_al hs2 hlt2) hne2 | exact s7_st (s7_st (s7_al hs2 hlt2) hne2) hne2 | exact s7_al HS7.out hlt1 | exact s7_st hs2 hne1 | exact s7_st (s7_st hs2 hne1) hne1) (first | (go_at_call 63; refine (f63 1 HK.out (HR1.out.heap (w' := World.drew _) rfl) (by omega) (by rw [HTF.out.2.2]; exact htm)).mono ?_; rintro e w2 ⟨rfl, hr2, hg2⟩; have hlt2 := hr2.lt; have hne2 : w2.heap.size ≠ R := Nat.ne_of_gt hr2.lt; have hs2 := s7_of hr2; rw [takeP_fa, takeP_fm, HTF.out.1, HTF.out.2.1] at hs2; have HTL : Hid (Tld w R w2.heap.size a n c zs (takeP zs T 1).2 (S.fa : Int) (S.fm : Int) (w2.alloc (.cells #[.int .i64 (S.fa : Int), .int .i64 (S.fm : Int)] 66))) := ⟨hr2.below ((Below.refl _ w2).alloc (Nat.le_refl _) _), heap_alloc_new w2 _, hne2, Nat.le_trans HG1.out.size (grown_heap (w := w1) hg2 rfl rfl rfl rfl).size, grown_tr (grown_tr HG1.out (grown_heap (w := w1) hg2 rfl rfl rfl rfl)) (grown_bel ((Below.refl _ w2).alloc (Nat.le_refl _) _))⟩) | (go_at_call 63; refine (f63 1 HK.out ((HR1.out.below ((Below.refl _ w1).alloc (Nat.le_refl _) (.cells #[.int .i64 0, .int .i64 0] 66))).heap (w' := World.drew _) rfl) (by omega) (by rw [HTF.out.2.2]; exact htm)).mono ?_; rintro e w2 ⟨rfl, hr2, hg2⟩; have hs2 := s7_of hr2; rw [takeP_fa, takeP_fm, HTF.out.1, HTF.out.2.1] at hs2; have hx2 := boxk (heap_alloc_new w1 (.cells #[.int .i64 0, .int .i64 0] 66)) (grown_heap hg2 rfl rfl rfl rfl) hne1; have hx20 := cell_at hx2 0; have hx21 := cell_at hx2 1; have hxf0 := froz_at hx2 0; have hxf1 := froz_at hx2 1; have HTL := hid (Tld.setX (w := w) (x := 0) (y := 0) ⟨hr2, hx2, hne1, HG1.out.size, grown_tr (grown_tr HG1.out (grown_bel ((Below.refl _ w1).alloc (Nat.le_refl _) (.cells #[.int .i64 0, .int .i64 0] 66)))) (grown_heap hg2 rfl rfl rfl rfl)⟩ (S.fa : Int) (S.fm : Int))))
      all_goals (go_wp2; go_meet; exact ⟨rfl, _, rfl, HTL⟩)
    case rest =>
    obtain ⟨rfl, X, rfl, HTL⟩ := hcut
    obtain ⟨Y, hY⟩ : ∃ Y, Y = (takeP zs T 1).2 := ⟨_, rfl⟩
    have HYF : Hid (Y.fa = S.fa ∧ Y.fm = S.fm ∧ Y.pos + Y.left = S.pos + S.left) := by
      unfold Hid; rw [hY, takeP_fa, takeP_fm, takeP_sum]; exact HTF.out
    rw [← hY] at HTL
    have HY := hid hY
    clear hY HS7 HG1 HR1 hlt1 hne1 HTF
    by_cases hy : (takeP zs T 1).1 = 1
    · have hy' : ((takeP zs T 1).1 == 1) = true := by rw [hy]; rfl
      obtain ⟨A, hA, hA63⟩ := take6 zs Y
      obtain ⟨M, hM, hM63⟩ := take6 zs (takeP zs Y 6).2
      have HE : Hid (turnP zs S = newT zs (takeP zs (takeP zs Y 6).2 6).2 A (M + 1)) := by
        unfold Hid turnP
        rw [if_neg HX.out, ← HT.out]
        simp only
        rw [if_pos hy, ← HY.out, hA, hM]; rfl
      clear hy
      obtain ⟨V, hV⟩ : ∃ V, V = (takeP zs (takeP zs Y 6).2 6).2 := ⟨_, rfl⟩
      have HVF : Hid (V.fa = S.fa ∧ V.fm = S.fm ∧ V.pos + V.left = S.pos + S.left) := by
        unfold Hid; rw [hV, takeP_fa, takeP_fm, takeP_sum, takeP_fa, takeP_fm, takeP_sum]; exact HYF.out
      have hP6 := fun (W : World) (hr : Rd W R a n c zs Y) => f63 6 HK.out hr (by omega) (by rw [HYF.out.2.2]; exact htm)
      have hP7 := fun (W : World) (hr : Rd W R a n c zs (takeP zs Y 6).2) => f63 6 HK.out hr (by omega) (by rw [takeP_sum, HYF.out.2.2]; exact htm)
      rw [hA] at hP6
      rw [hM, ← hV] at hP7
      rw [← hV] at HE
      have HP6 := hid hP6
      have HP7 := hid hP7
      clear hP6 hP7 hA hM hV
      go_wp2_with fail
      refine (HP6.out _ HTL.out.rd).mono ?_
      rintro e w3 ⟨rfl, hr3, hg3⟩
      have HT3 := hid (HTL.out.call hr3 hg3)
      clear hr3 hg3 HTL
      go_wp2_with fail
      refine (HP7.out _ HT3.out.rd).mono ?_
      rintro e w4 ⟨rfl, hr4, hg4⟩
      have HT4 := hid (HT3.out.call hr4 hg4)
      clear hr4 hg4 HT3
      obtain ⟨_, _, e0, e1, _⟩ := HT4.out.cells
      have f0 := froz_at HT4.out.x 0
      have f1 := froz_at HT4.out.x 1
      have HT5 := hid (HT4.out.setX (A : Int) ((M : Int) + 1))
      have g0 : ((w4.setCell ⟨X, 0, none⟩ (.int .i64 (A : Int))).setCell ⟨X, 1, none⟩ (.int .i64 ((M : Int) + 1))).cell? ⟨X, 0, none⟩ = some (.int .i64 (A : Int)) := cell_at HT5.out.x 0
      have g1 : ((w4.setCell ⟨X, 0, none⟩ (.int .i64 (A : Int))).setCell ⟨X, 1, none⟩ (.int .i64 ((M : Int) + 1))).cell? ⟨X, 1, none⟩ = some (.int .i64 ((M : Int) + 1)) := cell_at HT5.out.x 1
      go_wp2_with fail
      refine (f78 (A : Int) ((M : Int) + 1) _ (by omega) (by omega) (by omega) (by omega)).mono ?_
      rintro e w6 ⟨rfl, hb6⟩
      have HT6 := hid (HT5.out.below hb6)
      clear hb6 HT4 HT5 e0 e1 f0 f1 g0 g1
      by_cases hsum : 64 < A + (M + 1)
      · have HE2 : Hid (turnP zs S = (0, V.brk)) := by
          unfold Hid; rw [HE.out]; unfold newT; rw [if_pos hsum]
        have hneg : (64 : Int) - A - (M + 1) < 0 := by omega
        have x3 : w6.cell? ⟨R, 3, none⟩ = some (.bool V.br) := cell_at HT6.out.rd.box 3
        have f3 := froz_at HT6.out.rd.box 3
        have HR7 := hid (HT6.out.rd.set (S' := V.brk) 3 (.bool true) (by unfold rbox Rs.brk; simp))
        go_wp2
        go_ret
        rw [HE2.out]
        exact ⟨rfl, HR7.out, grown_set HT6.out.g _⟩
      · have hneg : ¬ ((64 : Int) - A - (M + 1) < 0) := by omega
        obtain ⟨k, hk⟩ : ∃ k : Nat, k = 64 - A - (M + 1) := ⟨_, rfl⟩
        have hkI : (64 : Int) - A - (M + 1) = (k : Int) := by omega
        have HKI := hid hkI
        have HKN := hid hk
        have hk63 : k ≤ 63 := by omega
        clear hk hkI
        rw [HKI.out] at hneg ⊢
        have HS6 := hid HT6.out.cells
        rw [HVF.out.1, HVF.out.2.1] at HS6
        go_wp2_with fail
        have hPM := fun (W : World) (hr : Rd W R a n c zs V) => f63 (M + 1) HK.out hr (by omega) (by rw [HVF.out.2.2]; exact htm)
        have HPM := hid hPM
        clear hPM
        go_region_held3 (fun w' => Sr9 R X (S.fa : Int) (S.fm : Int) (A : Int) ((M : Int) + 1) w') (first | exact HS6.out.drew | assumption) (first | (go_at_call 63; refine (HPM.out (World.drew _) HT6.out.drew.rd).mono ?_; rintro e w7 ⟨rfl, hr7, hg7⟩; have ht7 := HT6.out.drew.call hr7 hg7; have hs7 := ht7.cells; rw [takeP_fa, takeP_fm, HVF.out.1, HVF.out.2.1] at hs7) | (go_at_call 78; refine (f78 (A : Int) ((M : Int) + 1) _ (by omega) (by omega) (by omega) (by omega)).mono ?_; rw [HKI.out]; rintro e w8 ⟨rfl, hb8⟩; have ht8 := ht7.below hb8; have hs8 := Sr9.below hs7 hb8))
        have hUe : ∃ u U, takeP zs V (M + 1) = (u, U) := ⟨_, _, rfl⟩
        obtain ⟨u, U, hU⟩ := hUe
        have hub := takeP_bd zs V (M + 1)
        have hUf : U.fa = V.fa ∧ U.fm = V.fm := by
          have h1 := takeP_fa zs V (M + 1)
          have h2 := takeP_fm zs V (M + 1)
          rw [hU] at h1 h2; exact ⟨h1, h2⟩
        rw [hU] at hub ht8
        have HTn := hid ht8
        obtain ⟨tv, htv⟩ : ∃ tv, tv = u * 2 ^ k := ⟨_, rfl⟩
        have hkn := HKN.out
        have mb := mul_bd (l := A) (k := k) (m := M + 1) hub.1 hub.2 (by omega)
        have pl := pow64_le A
        rw [← htv] at mb
        have hwr : IntKind.u64.wrap ((takeP zs V (M + 1)).1 * 2 ^ k) = tv := by
          rw [hU]; show IntKind.u64.wrap (u * 2 ^ k) = tv; rw [← htv, IntKind.wrap_u64]; omega
        rw [hwr]
        have HTV := hid htv
        have HU := hid hU
        have hv0 : 0 ≤ tv := mb.1
        have hv1 : tv ≤ 18446744073709551615 := by omega
        have HVF2 : Hid (V.fa = S.fa ∧ V.fm = S.fm) := ⟨HVF.out.1, HVF.out.2.1⟩
        have HSN := hid HTn.out.cells
        rw [hUf.1, hUf.2, HVF.out.1, HVF.out.2.1] at HSN
        have HUF := hid hUf
        clear hs7 hs8 ht7 ht8 hr7 hg7 hb8 hub pl mb htv hwr hU hUf HT6 HS6 hkn HPM
        have hgf := g_frame
        obtain ⟨b, hbC⟩ : ∃ b : Bool, (b = true ↔ (tv = 0 ∨ zr tv ≠ (A, k) ∨ (V.fa ≤ A ∧ A + (M + 1) ≤ V.fa + V.fm))) := by
          by_cases hC : tv = 0 ∨ zr tv ≠ (A, k) ∨ (V.fa ≤ A ∧ A + (M + 1) ≤ V.fa + V.fm)
          · exact ⟨true, by simp [hC]⟩
          · exact ⟨false, by simp only [Bool.false_eq_true, false_iff]; exact hC⟩
        have HE2 : Hid (turnP zs S = (tv, { U with br := (U.br || b), fa := A, fm := M + 1 })) := by
          unfold Hid; rw [HE.out]
          cases hb : b with
          | true => rw [newT_yes hsum HKN.out HU.out HTV.out (hbC.1 hb)]; simp
          | false => rw [newT_no hsum HKN.out HU.out HTV.out (fun h => by rw [hbC.2 h] at hb; cases hb)]; simp
        have HBC := hid hbC
        clear hbC
        have HKM : Hid (A + (M + 1) + k = 64) := by unfold Hid; have := HKN.out; omega
        have HTB := hid (HC.out.grown HTn.out.g hR)
        go_upto_region 10 with fail
        go_cut [56] from 38 to 56 (fun s56 wx => s56 = .bool b ∧ Hid (Tld w R X a n c zs U (A : Int) ((M : Int) + 1) wx))
        case first =>
          by_cases hz : tv = 0
          · have hz' : (tv == 0) = true := by rw [hz]; rfl
            have hb : b = true := HBC.out.2 (.inl hz)
            clear hz
            go_wp2_with fail
            go_quiet (fail)
            go_wp2
            go_meet
            exact ⟨by rw [hb], hid (HTn.out.drewN nq)⟩
          · have hz' : (tv == 0) = false := by simpa using hz
            have hz0 : 0 < tv := by omega
            obtain ⟨xa, xb, hzr, hzx⟩ := zr_ok hz0 hv1
            have hFO := fun (W : World) (ht : Tab W) => (f76 tv W hz0 hv1 ht).mono (R' := fun e w' => e = .returned (fr xa (64 - xa - xb)) ∧ Below W.heap.size W w') (by
              rintro e w' ⟨a', b', hz2, rfl, hb⟩
              obtain rfl := zr_a hzx hz2
              obtain rfl := zr_b hzx hz2
              exact ⟨rfl, hb⟩)
            have HFO := hid hFO
            have hzs := zr_sum hzx
            clear hFO hzx
            by_cases hne : xa = A ∧ xb = k
            · obtain ⟨rfl, rfl⟩ := hne
              have hneq := fun w' => neqFrame (xa : Int) ((M : Int) + 1) (xa : Int) (64 - (xa : Int) - xb) w'
              rw [show decide (((xa : Int), ((M : Int) + 1)) = ((xa : Int), 64 - (xa : Int) - xb)) = true from decide_eq_true (by
                have := HKM.out; exact Prod.ext rfl (by show (M : Int) + 1 = 64 - (xa : Int) - xb; omega))] at hneq
              have hbe : b = decide ((S.fa : Int) ≤ (xa : Int) ∧ 64 - (S.fa : Int) - (S.fm : Int) ≤ 64 - (xa : Int) - ((M : Int) + 1)) := by
                rw [Bool.eq_iff_iff, HBC.out, decide_eq_true_eq, HVF2.out.1, HVF2.out.2]
                constructor
                · rintro (h | h | h)
                  · exact absurd h hz
                  · exact absurd hzr h
                  · omega
                · intro h; exact .inr (.inr (by omega))
              have HBE := hid hbe
              clear hz hzr hbe
              go_wp2_with fail
              go_region_held3 (fun w' => Sr9 R X (S.fa : Int) (S.fm : Int) (xa : Int) ((M : Int) + 1) w') (first | exact HSN.out.drew | assumption) (first | (go_at_call 76; refine (HFO.out (World.drew _) (fun j hj => HTB.out j hj)).mono ?_; unfold fr; rintro e w9 ⟨rfl, hb9⟩; have ht9 := HTn.out.drew.below hb9; have hs9 := Sr9.below HSN.out.drew hb9) | (go_at_call 77; refine (f77 (S.fa : Int) (S.fm : Int) (xa : Int) ((M : Int) + 1) _ (by omega) (by omega) (by omega) (by omega) (by omega) (by omega) (by omega) (by omega)).mono ?_; rw [← HBE.out]; rintro e w10 ⟨rfl, hb10⟩; have ht10 := ht9.below hb10; have hs10 := Sr9.below hs9 hb10))
              have HT10 := hid ht10
              clear ht9 ht10 hs9 hs10 hb9 hb10
              go_wp2
              go_meet
              exact ⟨rfl, HT10⟩
            · have hneq := fun w' => neqFrame (A : Int) ((M : Int) + 1) (xa : Int) (64 - (xa : Int) - xb) w'
              rw [show decide (((A : Int), ((M : Int) + 1)) = ((xa : Int), 64 - (xa : Int) - xb)) = false from decide_eq_false (by
                intro e; simp only [Prod.mk.injEq] at e; have := HKM.out; apply hne; omega)] at hneq
              have hb : b = true := HBC.out.2 (.inr (.inl (by rw [hzr]; intro e; simp only [Prod.mk.injEq] at e; exact hne e)))
              clear hne hz hzr
              go_wp2_with fail
              refine wp_region_held_drew (S := fun x => Sr9 R X (S.fa : Int) (S.fm : Int) (A : Int) ((M : Int) + 1) x) rfl HSN.out.drew (fun hHeld => ?_)
              refine wpAnyH_take (i := 0) (oi := { dst := some 38, op := Op.move (Operand.tmp 5), type := 54, pos := "l6_chunk.go:221", after := #[], guard := none }) (v := .int .u64 tv) rfl (by kernel_rfl) (by kernel_rfl) (by kernel_rfl) (fun _ _ _ h => h) (Or.inl ⟨by rfl, fun w hSw => by (try dsimp only at hSw); go_split_ands; go_simp⟩) (by assumption) ?_
              simp only [Act.put, List.setIfInBounds_toArray, List.set_cons_zero, List.set_cons_succ]
              refine wpAnyH_take (i := 1) (oi := { dst := some 39, op := Op.binOp BinOp.eql 54 (Operand.tmp 38) (Operand.const (Value.int IntKind.u64 0)) 54, type := 4, pos := "l6_chunk.go:221", after := #[{ on := 0, ground := Ground.data }], guard := none }) (v := .bool false) rfl (by kernel_rfl) (by kernel_rfl) (by kernel_rfl) (fun _ _ _ h => h) (Or.inl ⟨by rfl, fun w hSw => by (try dsimp only at hSw); go_split_ands; go_simp⟩) (by assumption) ?_
              simp only [Act.put, List.setIfInBounds_toArray, List.set_cons_zero, List.set_cons_succ]
              refine wpAnyH_take (i := 2) (oi := { dst := some 40, op := Op.move (Operand.tmp 39), type := 4, pos := "l6_chunk.go:221", after := #[{ on := 1, ground := Ground.data }], guard := none }) (v := .bool false) rfl (by kernel_rfl) (by kernel_rfl) (by kernel_rfl) (fun _ _ _ h => h) (Or.inl ⟨by rfl, fun w hSw => by (try dsimp only at hSw); go_split_ands; go_simp⟩) (by assumption) ?_
              simp only [Act.put, List.setIfInBounds_toArray, List.set_cons_zero, List.set_cons_succ]
              refine wpAnyH_take (i := 3) (oi := { dst := some 41, op := Op.move (Operand.tmp 4), type := 4, pos := "l6_chunk.go:221", after := #[{ on := 2, ground := Ground.guard }], guard := some (2, false) }) (v := .bool true) rfl (by kernel_rfl) (by kernel_rfl) (by kernel_rfl) (fun _ _ _ h => h) (Or.inl ⟨by rfl, fun w hSw => by (try dsimp only at hSw); go_split_ands; go_simp⟩) (by assumption) ?_
              simp only [Act.put, List.setIfInBounds_toArray, List.set_cons_zero, List.set_cons_succ]
              refine wpAnyH_take (i := 4) (oi := { dst := some 42, op := Op.move (Operand.tmp 41), type := 4, pos := "l6_chunk.go:221", after := #[{ on := 3, ground := Ground.data }, { on := 2, ground := Ground.chain }, { on := 2, ground := Ground.guard }], guard := some (2, false) }) (v := .bool true) rfl (by kernel_rfl) (by kernel_rfl) (by kernel_rfl) (fun _ _ _ h => h) (Or.inl ⟨by rfl, fun w hSw => by (try dsimp only at hSw); go_split_ands; go_simp⟩) (by assumption) ?_
              simp only [Act.put, List.setIfInBounds_toArray, List.set_cons_zero, List.set_cons_succ]
              refine wpAnyH_take (i := 5) (oi := { dst := some 43, op := Op.load 66 (Operand.tmp 3), type := 66, pos := "l6_chunk.go:221", after := #[{ on := 4, ground := Ground.guard }], guard := some (4, true) }) (v := .agg #[.int .i64 (A : Int), .int .i64 ((M : Int) + 1)]) rfl (by kernel_rfl) (by kernel_rfl) (by kernel_rfl) (fun _ _ _ h => h) (Or.inl ⟨by rfl, fun w hSw => by (try dsimp only at hSw); go_split_ands; go_simp⟩) (by assumption) ?_
              simp only [Act.put, List.setIfInBounds_toArray, List.set_cons_zero, List.set_cons_succ]
              refine wpAnyH_take (i := 6) (oi := { dst := some 44, op := Op.move (Operand.tmp 5), type := 54, pos := "l6_chunk.go:221", after := #[{ on := 4, ground := Ground.guard }], guard := some (4, true) }) (v := .int .u64 tv) rfl (by kernel_rfl) (by kernel_rfl) (by kernel_rfl) (fun _ _ _ h => h) (Or.inl ⟨by rfl, fun w hSw => by (try dsimp only at hSw); go_split_ands; go_simp⟩) (by assumption) ?_
              simp only [Act.put, List.setIfInBounds_toArray, List.set_cons_zero, List.set_cons_succ]
              refine wpAnyH_ready (rs := [7]) (by kernel_rfl) (by simp) (AllReadyH.cons (o := { dst := some 45, op := Op.call { callee := Callee.value (Operand.func 76), args := #[Operand.tmp 44], argTypes := #[54] }, type := 66, pos := "l6_chunk.go:221", after := #[{ on := 6, ground := Ground.data }, { on := 4, ground := Ground.chain }, { on := 4, ground := Ground.guard }], guard := some (4, true) }) rfl ?_ AllReadyH.nil)
              intro K1 hK1
              go_simp
              go_wp2_with (go_at_call 76; refine (HFO.out (World.drew _) (fun j hj => HTB.out j hj)).mono ?_; unfold fr; rintro e w9 ⟨rfl, hb9⟩; have ht9 := HTn.out.drew.below hb9; have hs9 := Sr9.below HSN.out.drew hb9)
              refine hK1.out _ _ hs9 (fun _ => ?_)
              clear hK1 K1
              refine wpAnyH_take (i := 8) (oi := { dst := some 46, op := Op.binOp BinOp.neq 66 (Operand.tmp 43) (Operand.tmp 45) 66, type := 4, pos := "l6_chunk.go:221", after := #[{ on := 5, ground := Ground.data }, { on := 7, ground := Ground.data }, { on := 4, ground := Ground.guard }], guard := some (4, true) }) (v := .bool true) rfl (by kernel_rfl) (by kernel_rfl) (by kernel_rfl) (fun _ _ _ h => h) (Or.inl ⟨by rfl, fun w hSw => by (try dsimp only at hSw); go_split_ands; go_simp⟩) (by assumption) ?_
              simp only [Act.put, List.setIfInBounds_toArray, List.set_cons_zero, List.set_cons_succ]
              refine wpAnyH_take (i := 9) (oi := { dst := some 47, op := Op.move (Operand.tmp 46), type := 4, pos := "l6_chunk.go:221", after := #[{ on := 8, ground := Ground.data }, { on := 7, ground := Ground.chain }, { on := 4, ground := Ground.guard }], guard := some (4, true) }) (v := .bool true) rfl (by kernel_rfl) (by kernel_rfl) (by kernel_rfl) (fun _ _ _ h => h) (Or.inl ⟨by rfl, fun w hSw => by (try dsimp only at hSw); go_split_ands; go_simp⟩) (by assumption) ?_
              simp only [Act.put, List.setIfInBounds_toArray, List.set_cons_zero, List.set_cons_succ]
              refine wpAnyH_take (i := 10) (oi := { dst := some 48, op := Op.move (Operand.tmp 0), type := 87, pos := "l6_chunk.go:221", after := #[{ on := 9, ground := Ground.guard }], guard := some (9, false) }) (v := undef) rfl (by kernel_rfl) (by kernel_rfl) (by kernel_rfl) (fun _ _ _ h => h) (Or.inr ⟨by rfl, rfl⟩) (by assumption) ?_
              simp only [Act.put, List.setIfInBounds_toArray, List.set_cons_zero, List.set_cons_succ]
              refine wpAnyH_take (i := 11) (oi := { dst := some 49, op := Op.nilCheck (Operand.tmp 48), type := 0, pos := "l6_chunk.go:221", after := #[{ on := 10, ground := Ground.data }, { on := 9, ground := Ground.guard }], guard := some (9, false) }) (v := undef) rfl (by kernel_rfl) (by kernel_rfl) (by kernel_rfl) (fun _ _ _ h => h) (Or.inr ⟨by rfl, rfl⟩) (by assumption) ?_
              simp only [Act.put, List.setIfInBounds_toArray, List.set_cons_zero, List.set_cons_succ]
              refine wpAnyH_take (i := 12) (oi := { dst := some 50, op := Op.fieldAddr 75 (Operand.tmp 49) 5, type := 0, pos := "l6_chunk.go:221", after := #[{ on := 11, ground := Ground.data }, { on := 9, ground := Ground.guard }], guard := some (9, false) }) (v := undef) rfl (by kernel_rfl) (by kernel_rfl) (by kernel_rfl) (fun _ _ _ h => h) (Or.inr ⟨by rfl, rfl⟩) (by assumption) ?_
              simp only [Act.put, List.setIfInBounds_toArray, List.set_cons_zero, List.set_cons_succ]
              refine wpAnyH_take (i := 13) (oi := { dst := some 51, op := Op.load 66 (Operand.tmp 50), type := 66, pos := "l6_chunk.go:221", after := #[{ on := 12, ground := Ground.data }, { on := 9, ground := Ground.guard }], guard := some (9, false) }) (v := undef) rfl (by kernel_rfl) (by kernel_rfl) (by kernel_rfl) (fun _ _ _ h => h) (Or.inr ⟨by rfl, rfl⟩) (by assumption) ?_
              simp only [Act.put, List.setIfInBounds_toArray, List.set_cons_zero, List.set_cons_succ]
              refine wpAnyH_take (i := 14) (oi := { dst := some 52, op := Op.load 66 (Operand.tmp 3), type := 66, pos := "l6_chunk.go:221", after := #[{ on := 9, ground := Ground.guard }], guard := some (9, false) }) (v := undef) rfl (by kernel_rfl) (by kernel_rfl) (by kernel_rfl) (fun _ _ _ h => h) (Or.inr ⟨by rfl, rfl⟩) (by assumption) ?_
              simp only [Act.put, List.setIfInBounds_toArray, List.set_cons_zero, List.set_cons_succ]
              refine wpAnyH_take (i := 15) (oi := { dst := some 53, op := Op.call { callee := Callee.value (Operand.func 77), args := #[Operand.tmp 51, Operand.tmp 52], argTypes := #[66, 66] }, type := 4, pos := "l6_chunk.go:221", after := #[{ on := 13, ground := Ground.data }, { on := 14, ground := Ground.data }, { on := 9, ground := Ground.chain }, { on := 9, ground := Ground.guard }], guard := some (9, false) }) (v := undef) rfl (by kernel_rfl) (by kernel_rfl) (by kernel_rfl) (fun _ _ _ h => h) (Or.inr ⟨by rfl, rfl⟩) (by assumption) ?_
              simp only [Act.put, List.setIfInBounds_toArray, List.set_cons_zero, List.set_cons_succ]
              refine wpAnyH_take (i := 16) (oi := { dst := some 54, op := Op.pick (Operand.tmp 47) (Operand.const (Value.bool true)) (Operand.tmp 53), type := 4, pos := "l6_chunk.go:221", after := #[{ on := 9, ground := Ground.data }, { on := 15, ground := Ground.data }, { on := 4, ground := Ground.guard }], guard := some (4, true) }) (v := .bool true) rfl (by kernel_rfl) (by kernel_rfl) (by kernel_rfl) (fun _ _ _ h => h) (Or.inl ⟨by rfl, fun w hSw => by (try dsimp only at hSw); go_split_ands; go_simp⟩) (by assumption) ?_
              simp only [Act.put, List.setIfInBounds_toArray, List.set_cons_zero, List.set_cons_succ]
              refine wpAnyH_take (i := 17) (oi := { dst := some 55, op := Op.pick (Operand.tmp 42) (Operand.tmp 54) (Operand.const (Value.bool false)), type := 4, pos := "l6_chunk.go:221", after := #[{ on := 4, ground := Ground.data }, { on := 16, ground := Ground.data }, { on := 2, ground := Ground.guard }], guard := some (2, false) }) (v := .bool true) rfl (by kernel_rfl) (by kernel_rfl) (by kernel_rfl) (fun _ _ _ h => h) (Or.inl ⟨by rfl, fun w hSw => by (try dsimp only at hSw); go_split_ands; go_simp⟩) (by assumption) ?_
              simp only [Act.put, List.setIfInBounds_toArray, List.set_cons_zero, List.set_cons_succ]
              refine wpAnyH_take (i := 18) (oi := { dst := some 56, op := Op.pick (Operand.tmp 40) (Operand.const (Value.bool true)) (Operand.tmp 55), type := 4, pos := "l6_chunk.go:221", after := #[{ on := 2, ground := Ground.data }, { on := 17, ground := Ground.data }], guard := none }) (v := .bool true) rfl (by kernel_rfl) (by kernel_rfl) (by kernel_rfl) (fun _ _ _ h => h) (Or.inl ⟨by rfl, fun w hSw => by (try dsimp only at hSw); go_split_ands; go_simp⟩) (by assumption) ?_
              simp only [Act.put, List.setIfInBounds_toArray, List.set_cons_zero, List.set_cons_succ]
              refine wpAnyH_done (by kernel_rfl) ?_ _
              have HT9 := hid ht9
              clear ht9 hs9 hb9
              go_wp2
              go_meet
              exact ⟨by rw [hb], HT9⟩
        case rest =>
        obtain ⟨rfl, HTn⟩ := hcut
        clear HTB
        cases hbv : b with
        | true =>
          have HE3 : Hid (turnP zs S = (tv, { U.brk with fa := A, fm := M + 1 })) := by unfold Hid; rw [HE2.out, hbv]; simp [Rs.brk]
          obtain ⟨_, _, e0, e1, _⟩ := HTn.out.cells
          have r3 : wc.cell? ⟨R, 3, none⟩ = some (.bool U.br) := cell_at HTn.out.rd.box 3
          have f3 := froz_at HTn.out.rd.box 3
          have HTm := hid (HTn.out.setR (S' := U.brk) 3 (.bool true) (by unfold rbox Rs.brk; simp))
          obtain ⟨b7, b8, d0, d1, _⟩ := HTm.out.cells
          have g7 := froz_at HTm.out.rd.box 7
          have g8 := froz_at HTm.out.rd.box 8
          have HTz := hid ((HTm.out.setR (S' := { U.brk with fa := A }) 7 (.int .i64 (A : Int)) (by simp [rbox, Rs.brk])).setR (S' := { U.brk with fa := A, fm := M + 1 }) 8 (.int .i64 ((M : Int) + 1)) (by simp [rbox, Rs.brk]))
          go_wp2
          go_ret
          rw [HE3.out]
          exact ⟨rfl, HTz.out.rd, HTz.out.g⟩
        | false =>
          have HE3 : Hid (turnP zs S = (tv, { U with fa := A, fm := M + 1 })) := by unfold Hid; rw [HE2.out, hbv]; simp
          obtain ⟨_, _, e0, e1, _⟩ := HTn.out.cells
          have HTm := HTn
          obtain ⟨b7, b8, d0, d1, _⟩ := HTm.out.cells
          have g7 := froz_at HTm.out.rd.box 7
          have g8 := froz_at HTm.out.rd.box 8
          have HTz := hid ((HTm.out.setR (S' := { U with fa := A }) 7 (.int .i64 (A : Int)) (by simp [rbox])).setR (S' := { U with fa := A, fm := M + 1 }) 8 (.int .i64 ((M : Int) + 1)) (by simp [rbox]))
          go_wp2
          go_ret
          rw [HE3.out]
          exact ⟨rfl, HTz.out.rd, HTz.out.g⟩
    · have hy' : ((takeP zs T 1).1 == 1) = false := by simpa using hy
      have HE : Hid (turnP zs S = oldT zs Y) := by
        unfold Hid turnP
        rw [if_neg HX.out, ← HT.out]
        simp only
        rw [if_neg hy, ← HY.out]
      clear hy
      obtain ⟨k, hk⟩ : ∃ k : Nat, k = 64 - S.fa - S.fm := ⟨_, rfl⟩
      have hkI : (64 : Int) - S.fa - S.fm = (k : Int) := by omega
      have HKI := hid hkI
      have HKM : Hid (S.fa + S.fm + k = 64) := by unfold Hid; omega
      have HKN := hid hk
      have hk64 : k ≤ 64 := by omega
      have hneg : ¬ ((k : Int) < 0) := by omega
      clear hk hkI
      obtain ⟨F, hF⟩ : ∃ F, F = S.fa := ⟨_, rfl⟩
      obtain ⟨m, hm⟩ : ∃ m, m = S.fm := ⟨_, rfl⟩
      have HFM : Hid (F = S.fa ∧ m = S.fm) := ⟨hF, hm⟩
      have HTL2 : Hid (Tld w R X a n c zs Y (F : Int) (m : Int) wc) := by unfold Hid; rw [hF, hm]; exact HTL.out
      rw [← hF, ← hm] at HKI HKM HKN hf
      have hF64 : F ≤ 64 := by omega
      have hm64 : m ≤ 64 := by omega
      have HYF2 : Hid (Y.fa = F ∧ Y.fm = m ∧ Y.pos + Y.left = S.pos + S.left) := by unfold Hid; rw [hF, hm]; exact HYF.out
      clear hF hm HTL HYF
      obtain ⟨_, _, e0, e1, _⟩ := HTL2.out.cells
      go_wp2_with fail
      refine (f78 (F : Int) (m : Int) _ (by omega) (by omega) (by omega) (by omega)).mono ?_
      rw [HKI.out]
      rintro e w6 ⟨rfl, hb6⟩
      have HT6 := hid (HTL2.out.below hb6)
      clear hb6 HTL2 e0 e1
      have HS6 := hid HT6.out.cells
      rw [HYF2.out.1, HYF2.out.2.1] at HS6
      have hPM := fun (W : World) (hr : Rd W R a n c zs Y) => f63 m HK.out hr (by omega) (by rw [HYF2.out.2.2]; exact htm)
      have HPM := hid hPM
      clear hPM
      go_wp2_with fail
      go_region_held3 (fun w' => Sr9 R X (F : Int) (m : Int) (F : Int) (m : Int) w') (first | exact HS6.out.drew | assumption) (first | (go_at_call 63; refine (HPM.out (World.drew _) HT6.out.drew.rd).mono ?_; rintro e w7 ⟨rfl, hr7, hg7⟩; have ht7 := HT6.out.drew.call hr7 hg7; have hs7 := ht7.cells; rw [takeP_fa, takeP_fm, HYF2.out.1, HYF2.out.2.1] at hs7) | (go_at_call 78; refine (f78 (F : Int) (m : Int) _ (by omega) (by omega) (by omega) (by omega)).mono ?_; rw [HKI.out]; rintro e w8 ⟨rfl, hb8⟩; have ht8 := ht7.below hb8; have hs8 := Sr9.below hs7 hb8))
      have hUe : ∃ u U, takeP zs Y m = (u, U) := ⟨_, _, rfl⟩
      obtain ⟨u, U, hU⟩ := hUe
      have hub := takeP_bd zs Y m
      have hUf : U.fa = F ∧ U.fm = m := by
        have h1 := takeP_fa zs Y m
        have h2 := takeP_fm zs Y m
        rw [hU, HYF2.out.1] at h1
        rw [hU, HYF2.out.2.1] at h2
        exact ⟨h1, h2⟩
      rw [hU] at hub ht8
      have HTn := hid ht8
      obtain ⟨tv, htv⟩ : ∃ tv, tv = u * 2 ^ k := ⟨_, rfl⟩
      have hkm := HKM.out
      have mb := mul_bd (l := F) (k := k) (m := m) hub.1 hub.2 (by omega)
      have pl := pow64_le F
      rw [← htv] at mb
      have hwr : IntKind.u64.wrap ((takeP zs Y m).1 * 2 ^ k) = tv := by
        rw [hU]; show IntKind.u64.wrap (u * 2 ^ k) = tv; rw [← htv, IntKind.wrap_u64]; omega
      rw [hwr]
      have HE2 : Hid (turnP zs S = (tv, if tv = 0 then U.brk else U)) := by
        unfold Hid; rw [HE.out]; unfold oldT
        rw [HYF2.out.1, HYF2.out.2.1]
        simp only
        rw [hU, ← HKN.out]
        simp only
        rw [← htv]
      have hv0 : 0 ≤ tv := mb.1
      have hv1 : tv ≤ 18446744073709551615 := by omega
      have HUF := hid hUf
      clear hs7 hs8 ht7 ht8 hr7 hg7 hb8 hub pl mb htv hwr hU hUf HT6 HS6 hkm HPM
      go_upto_region 10 with fail
      go_cut [56] from 38 to 56 (fun s56 wx => s56 = .bool (tv == 0) ∧ Hid (Tld w R X a n c zs U (F : Int) (m : Int) wx))
      case first =>
        by_cases hz : tv = 0
        · have hz' : (tv == 0) = true := by rw [hz]; rfl
          clear hz
          go_wp2_with fail
          go_quiet (fail)
          go_wp2
          go_meet
          exact ⟨by rw [hz'], hid (HTn.out.drewN nq)⟩
        · have hz' : (tv == 0) = false := by simpa using hz
          clear hz
          go_wp2_with fail
          go_quiet (fail)
          go_wp2
          go_meet
          exact ⟨by rw [hz'], hid (HTn.out.drewN nq)⟩
      case rest =>
      obtain ⟨rfl, HTn⟩ := hcut
      by_cases hz : tv = 0
      · have HE3 : Hid (turnP zs S = (tv, { U.brk with fa := F, fm := m })) := by
          unfold Hid; rw [HE2.out, if_pos hz, ← HUF.out.1, ← HUF.out.2]; rfl
        have hz' : (tv == 0) = true := by rw [hz]; rfl
        clear hz
        obtain ⟨_, _, e0, e1, _⟩ := HTn.out.cells
        have r3 : wc.cell? ⟨R, 3, none⟩ = some (.bool U.br) := cell_at HTn.out.rd.box 3
        have f3 := froz_at HTn.out.rd.box 3
        have HTm := hid (HTn.out.setR (S' := U.brk) 3 (.bool true) (by unfold rbox Rs.brk; simp))
        obtain ⟨b7, b8, d0, d1, _⟩ := HTm.out.cells
        have g7 := froz_at HTm.out.rd.box 7
        have g8 := froz_at HTm.out.rd.box 8
        have HTz := hid ((HTm.out.setR (S' := { U.brk with fa := F }) 7 (.int .i64 (F : Int)) (by simp [rbox, Rs.brk])).setR (S' := { U.brk with fa := F, fm := m }) 8 (.int .i64 (m : Int)) (by simp [rbox, Rs.brk]))
        go_wp2
        go_ret
        rw [HE3.out]
        exact ⟨rfl, HTz.out.rd, HTz.out.g⟩
      · have HE3 : Hid (turnP zs S = (tv, { U with fa := F, fm := m })) := by
          unfold Hid; rw [HE2.out, if_neg hz, ← HUF.out.1, ← HUF.out.2]
        have hz' : (tv == 0) = false := by simpa using hz
        clear hz
        obtain ⟨_, _, e0, e1, _⟩ := HTn.out.cells
        have HTm := HTn
        obtain ⟨b7, b8, d0, d1, _⟩ := HTm.out.cells
        have g7 := froz_at HTm.out.rd.box 7
        have g8 := froz_at HTm.out.rd.box 8
        have HTz := hid ((HTm.out.setR (S' := { U with fa := F }) 7 (.int .i64 (F : Int)) (by simp [rbox])).setR (S' := { U with fa := F, fm := m }) 8 (.int .i64 (m : Int)) (by simp [rbox]))
        go_wp2
        go_ret
        rw [HE3.out]
        exact ⟨rfl, HTz.out.rd, HTz.out.g⟩
end Go.Proofs.YteblbcbfaomdmaaDoor.Chk
/- The program's reader of chunks: first, next. -/
namespace Go.Proofs.YteblbcbfaomdmaaDoor.Chk
open Go.RowKit Go.Proofs.YteblbcbfaomdmaaDoor.Bts
open Go.Proofs.YteblbcbfaomdmaaDoor.Smp hiding hid ret_int below_drewN

set_option maxHeartbeats 4000000 in
theorem f64 {w : World} {R : Nat} {a : Option Addr} {n c : Nat} {zs : List Int} {S : Rs} (hk : Dk n zs) (h : Rd w R a n c zs S) (htm : S.pos + S.left ≤ 8 * n) :
    Calls Tryd.prog 64 #[.pointer (some ⟨R, 0, none⟩)] w fun e w' => e = .returned (.tuple #[]) ∧ Rd w' R a n c zs (firstP zs S) ∧ w.grownBy w' (some R) := by
  have HK := hid hk
  have HD := hid h
  clear hk h
  go_enter Tryd.func64, Tryd.ntmps64
  go_wp2_with fail
  refine (f63 40 HK.out HD.out (by omega) htm).mono ?_
  rintro e w1 ⟨rfl, hr1, hg1⟩
  have r4 : w1.cell? ⟨R, 4, none⟩ = some (.int .i64 (takeP zs S 40).2.t) := cell_at hr1.box 4
  have f4 := froz_at hr1.box 4
  have HR2 : Hid (Rd (w1.setCell ⟨R, 4, none⟩ (.int .i64 (wrap64 (takeP zs S 40).1))) R a n c zs (firstS zs S)) := hr1.set 4 _ (by simp [rbox, firstS])
  have HG2 := hid (grown_set (o := 4) hg1 (.int .i64 (wrap64 (takeP zs S 40).1)))
  have HSM : Hid ((firstS zs S).pos + (firstS zs S).left ≤ 8 * n) := by
    unfold Hid; show (takeP zs S 40).2.pos + (takeP zs S 40).2.left ≤ _; rw [takeP_sum]; exact htm
  have hiw := IntWalk.i64_left (takeP zs S 40).1
  clear hr1 hg1
  go_wp2_with fail
  refine (f63 64 HK.out HR2.out (by omega) HSM.out).mono ?_
  rintro e w3 ⟨rfl, hr3, hg3⟩
  have r5 : w3.cell? ⟨R, 5, none⟩ = some (.int .i64 (takeP zs (firstS zs S) 64).2.v) := cell_at hr3.box 5
  have f5 := froz_at hr3.box 5
  have HR4 : Hid (Rd (w3.setCell ⟨R, 5, none⟩ (.int .i64 (wrap64 (takeP zs (firstS zs S) 64).1))) R a n c zs (firstP zs S)) := hr3.set 5 _ (by simp [rbox, firstP])
  have HG4 := hid (grown_set (o := 5) (grown_tr HG2.out hg3) (.int .i64 (wrap64 (takeP zs (firstS zs S) 64).1)))
  have hiw2 := IntWalk.i64_left (takeP zs (firstS zs S) 64).1
  clear hr3 hg3
  go_wp2
  go_end0
  exact ⟨rfl, HR4.out, HG4.out⟩

theorem timeS_sum (zs : List Int) (S : Rs) : (timeS zs S).pos + (timeS zs S).left = S.pos + S.left := (bendP_keep zs S).2.2.2.2.2
theorem timeS_fr (zs : List Int) (S : Rs) : (timeS zs S).fa = S.fa ∧ (timeS zs S).fm = S.fm := ⟨(bendP_keep zs S).2.2.2.1, (bendP_keep zs S).2.2.2.2.1⟩

theorem box_step (a : Option Addr) (n c : Nat) (zs : List Int) (S : Rs) : (rbox a n c (bendP zs S).2).setIfInBounds 6 (.int .i64 (IntKind.i64.wrap (S.step + (bendP zs S).1))) = rbox a n c (stepS zs S) := by
  simp [rbox, stepS, (bendP_keep zs S).2.2.1, IntWalk.i64_left]
theorem box_time (a : Option Addr) (n c : Nat) (zs : List Int) (S : Rs) : (rbox a n c (stepS zs S)).setIfInBounds 4 (.int .i64 (IntKind.i64.wrap ((stepS zs S).t + (stepS zs S).step))) = rbox a n c (timeS zs S) := by
  simp [rbox, timeS, IntWalk.i64_left]
theorem box_val (a : Option Addr) (n c : Nat) (zs : List Int) (S : Rs) : (rbox a n c (turnP zs (timeS zs S)).2).setIfInBounds 5 (.int .i64 (bits .xor .i64 (timeS zs S).v (IntKind.i64.wrap (turnP zs (timeS zs S)).1))) = rbox a n c (nextP zs S) := by
  simp [rbox, nextP, (turnP_keep zs (timeS zs S)).2.1, IntWalk.i64_left]
set_option maxRecDepth 100000 in
set_option maxHeartbeats 8000000 in
theorem f65 {w : World} {R : Nat} {a : Option Addr} {n c : Nat} {zs : List Int} {S : Rs} (hk : Dk n zs) (h : Rd w R a n c zs S) (htm : S.pos + S.left ≤ 8 * n) (hf : S.fa + S.fm ≤ 64) (hc : Cls w) (ht : Tab w) (hR : R ≠ 0) (hR1 : R ≠ 1) :
    Calls Tryd.prog 65 #[.pointer (some ⟨R, 0, none⟩)] w fun e w' => e = .returned (.tuple #[]) ∧ Rd w' R a n c zs (nextP zs S) ∧ w.grownBy w' (some R) := by
  have HK := hid hk
  have HD := hid h
  have HC := hid hc
  have HT := hid ht
  have r6 : w.cell? ⟨R, 6, none⟩ = some (.int .i64 S.step) := cell_at h.box 6
  clear hk h hc ht
  go_enter Tryd.func65, Tryd.ntmps65
  go_upto_region 0 with fail
  go_cut [] from 2 to 10 (fun wx => Hid (Rd wx R a n c zs (stepS zs S) ∧ w.grownBy wx (some R)))
  case first =>
    go_wp2_with fail
    go_region_with (go_at_call 80; refine (f80 HK.out (HD.out.heap (w' := World.drew _) rfl) htm (fun i hi => HC.out i hi) hR).mono ?_; rintro e w1 ⟨rfl, hr1, hg1⟩; have y6 : w1.cell? ⟨R, 6, none⟩ = some (.int .i64 (bendP zs S).2.step) := cell_at hr1.box 6; rw [(bendP_keep zs S).2.2.1] at y6; have f6 := froz_at hr1.box 6; have HR1 := hid hr1; have HG1 := hid (grown_heap (w := w) hg1 rfl rfl rfl rfl); clear hr1 hg1)
    all_goals
      go_wp2
      go_meet
      exact ⟨HR1.out.set 6 _ (box_step a n c zs S), grown_set HG1.out _⟩
  case rest =>
  obtain ⟨hr1, hg1⟩ := hcut
  have HR1 := hid hr1
  have HG1 := hid hg1
  have r4 : wc.cell? ⟨R, 4, none⟩ = some (.int .i64 (stepS zs S).t) := cell_at hr1.box 4
  have f4 := froz_at hr1.box 4
  have r6' : wc.cell? ⟨R, 6, none⟩ = some (.int .i64 (stepS zs S).step) := cell_at hr1.box 6
  clear hr1 hg1 r6
  go_upto_region 1 with fail
  go_cut [] from 11 to 23 (fun wx => Hid (Rd wx R a n c zs (timeS zs S) ∧ w.grownBy wx (some R)))
  case first =>
    go_wp2_with fail
    go_region_with (fail)
    all_goals
      go_wp2
      go_meet
      exact ⟨(HR1.out.set 4 _ (box_time a n c zs S)).heap (w' := World.drew _) rfl, grown_tr (grown_set (o := 4) HG1.out (.int .i64 (IntKind.i64.wrap ((stepS zs S).t + (stepS zs S).step)))) ⟨rfl, rfl, rfl, Nat.le_refl _, fun _ _ _ => rfl⟩⟩
  case rest =>
  obtain ⟨hr2, hg2⟩ := hcut
  have HR2 := hid hr2
  have HG2 := hid hg2
  have r5 : wc.cell? ⟨R, 5, none⟩ = some (.int .i64 (timeS zs S).v) := cell_at hr2.box 5
  have HC2 := hid (HC.out.grown hg2 hR)
  have HT2 := hid (HT.out.grown hg2 hR1)
  clear hr2 hg2 r4 f4 r6' HR1 HG1
  go_wp2_with fail
  go_region_with (go_at_call 81; refine (f81 HK.out (HR2.out.heap (w' := World.drew _) rfl) (by rw [timeS_sum]; exact htm) (by rw [(timeS_fr zs S).1, (timeS_fr zs S).2]; exact hf) (fun i hi => HT2.out i hi) hR1).mono ?_; rintro e w1 ⟨rfl, hr1, hg1⟩; have y5 : w1.cell? ⟨R, 5, none⟩ = some (.int .i64 (turnP zs (timeS zs S)).2.v) := cell_at hr1.box 5; rw [(turnP_keep zs (timeS zs S)).2.1] at y5; have f5 := froz_at hr1.box 5; have HR3 := hid hr1; have HG3 := hid (grown_tr HG2.out (grown_heap hg1 rfl rfl rfl rfl)); clear hr1 hg1)
  all_goals
    go_wp2
    go_end0
    exact ⟨rfl, HR3.out.set 5 _ (box_val a n c zs S), grown_set HG3.out _⟩
end Go.Proofs.YteblbcbfaomdmaaDoor.Chk
