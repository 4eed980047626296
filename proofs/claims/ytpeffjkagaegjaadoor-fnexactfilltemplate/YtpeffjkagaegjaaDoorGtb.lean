/- Templates: the program's reader. -/
import Derived.Test.YtpeffjkagaegjaaDoorGta
import Derived.Deep.CutRange
namespace Go.Proofs.YtpeffjkagaegjaaDoor.Tpl
open Go.RowKit Go.Proofs.YtpeffjkagaegjaaDoor.Pat Go.Proofs.YtpeffjkagaegjaaDoor.Rdd

theorem pfx2 {s : ByteArray} {t : Nat} : pfx ((by' s).drop t) ⟨#[123, 123]⟩ = decide ((by' s)[t]? = some 123 ∧ (by' s)[t + 1]? = some 123) := by
  unfold pfx
  rw [Bool.eq_iff_iff]
  rw [decide_eq_true_iff, decide_eq_true_iff, ← List.getElem?_drop (i := t) (j := 1)]
  have e0 : (by' s)[t]? = ((by' s).drop t)[0]? := by rw [List.getElem?_drop, Nat.add_zero]
  rw [e0]
  show ((by' s).drop t).take 2 = [123, 123] ↔ _
  match (by' s).drop t with
  | [] => simp
  | [a] => simp
  | a :: b :: r => simp
theorem pfx1 {s : ByteArray} {t : Nat} {c : UInt8} : pfx ((by' s).drop t) ⟨#[c]⟩ = decide ((by' s)[t]? = some c) := by
  unfold pfx
  rw [Bool.eq_iff_iff]
  rw [decide_eq_true_iff, decide_eq_true_iff]
  have e0 : (by' s)[t]? = ((by' s).drop t)[0]? := by rw [List.getElem?_drop, Nat.add_zero]
  rw [e0]
  show ((by' s).drop t).take 1 = [c] ↔ _
  match (by' s).drop t with
  | [] => simp
  | a :: r => simp
/-- What the call of readPiece leaves. -/
def PieR (R : Nat) (s : ByteArray) (t : Nat) (w : World) (e : Ending) (w' : World) : Prop :=
  w.grownBy w' (some R) ∧ ((stp s t = none ∧ ∃ x b k, e = .returned (.tuple #[.agg #[.string x, .bool b], .bool false]) ∧ Rdr R s k w') ∨ ∃ p k, stp s t = some (p, k) ∧ e = .returned (.tuple #[.agg #[.string p.1, .bool p.2], .bool true]) ∧ Rdr R s k w')
theorem two_set0 {w : World} {b : Nat} {u v u' : Value} {t : TypeId} (h : w.heap[b]? = some (.cells #[u, v] t (0, 0))) : (w.setCell ⟨b, 0, none⟩ u').heap[b]? = some (.cells #[u', v] t (0, 0)) := by
  have hlt := lt_block h
  have h' : w.heap[b] = .cells #[u, v] t (0, 0) := by simpa [Array.getElem?_eq_getElem hlt] using h
  show (w.heap.modify b _)[b]? = _
  rw [Array.getElem?_eq_getElem (by simpa using hlt), Array.getElem_modify_self, h']
  rfl
theorem grown_set {w w1 : World} {R B i : Nat} {v : Value} (hg : w.grownBy w1 (some R)) (hB : w.heap.size ≤ B) : w.grownBy (w1.setCell ⟨B, i, none⟩ v) (some R) :=
  ⟨hg.os, hg.tape, hg.output, by simpa [World.setCell] using hg.size, fun j hj hr => (Below.heap_setCell _ _ _ _ (by simp; omega)).trans (hg.block j hj hr)⟩
theorem rdr_set {w1 : World} {R B i k : Nat} {s : ByteArray} {v : Value} (hr : Rdr R s k w1) (hB : R ≠ B) : Rdr R s k (w1.setCell ⟨B, i, none⟩ v) :=
  ⟨(Below.heap_setCell _ _ _ _ (by simpa using hB)).trans hr.1, hr.2⟩
theorem grown_drew {w w1 : World} {R : Nat} (hg : w.grownBy w1 (some R)) : w.grownBy w1.drew (some R) := ⟨hg.os, hg.tape, hg.output, hg.size, hg.block⟩
theorem rdr_drew {w1 : World} {R k : Nat} {s : ByteArray} (hr : Rdr R s k w1) : Rdr R s k w1.drew := ⟨hr.1, hr.2⟩
/-- The box of the piece. -/
def Bx (B : Nat) (x : ByteArray) (b : Bool) (w : World) : Prop := w.heap[B]? = some (.cells #[.string x, .bool b] 52 (0, 0))
theorem Bx.kept {R B : Nat} {x : ByteArray} {b : Bool} {w w' : World} (h : Bx B x b w) (hg : w.grownBy w' (some R)) (hR : R ≠ B) : Bx B x b w' := (hg.block B (lt_block h) (by simp; omega)).trans h
theorem Bx.cells {B : Nat} {x : ByteArray} {b : Bool} {w : World} (h : Bx B x b w) : w.cell? ⟨B, 0, none⟩ = some (.string x) ∧ w.cell? ⟨B, 1, none⟩ = some (.bool b) ∧ w.frozen? ⟨B, 0, none⟩ = false ∧ w.frozen? ⟨B, 1, none⟩ = false := ⟨two0 h, two1 h, two_frz h, two_frz h⟩
theorem Bx.set {B : Nat} {x y : ByteArray} {b c : Bool} {w : World} (h : Bx B x b w) : Bx B y c ((w.setCell ⟨B, 0, none⟩ (.string y)).setCell ⟨B, 1, none⟩ (.bool c)) := two_set1 (two_set0 h)
set_option maxHeartbeats 4000000 in
theorem f25 (R : Nat) (s : ByteArray) (t : Nat) (w : World) (hs : s.size ≤ 200) (ht : t < s.size) (h : Rdr R s t w) : Calls Tryd.prog 25 #[.pointer (some ⟨R, 0, none⟩)] w (PieR R s t w) := by
  have hRw : R < w.heap.size := lt_block h.1
  have hs2 : s.size ≤ 1048576 := by omega
  have HR : Hid (Rdr R s t (w.alloc (.cells #[.string ⟨#[]⟩, .bool false] 52))) := ⟨box_alloc h.1 _, h.2⟩
  have HG := hid (Lib.grownBy_allocR (World.grownBy.refl w (some R)) (.cells #[.string ⟨#[]⟩, .bool false] 52))
  have HB : Hid (Bx w.heap.size ⟨#[]⟩ false (w.alloc (.cells #[.string ⟨#[]⟩, .bool false] 52))) := heap_alloc_new w _
  clear h
  by_cases c2 : (by' s)[t]? = some 123 ∧ (by' s)[t + 1]? = some 123
  · have HS : Hid (stp s t = some ((⟨#[123]⟩, false), t + 2)) := by unfold Hid stp; rw [if_pos c2.1, if_pos c2.2]
    have HC : Hid (pfx ((by' s).drop t) ⟨#[123, 123]⟩ = true) := by unfold Hid; rw [pfx2]; exact decide_eq_true c2
    clear c2
    go_enter Tryd.func25, Tryd.ntmps25
    go_wp2_with fail
    refine (f38g R s ⟨#[123, 123]⟩ t _ hs2 (by decide) HR.out HC.out).mono ?_
    rintro e w1 ⟨rfl, hr1, hg1⟩
    have HX := hid (Lib.grownBy_trans HG.out hg1)
    have HB1 := hid (HB.out.kept hg1 (by omega))
    obtain ⟨b0, b1, f0, f1⟩ := HB1.out.cells
    have HR1 := hid hr1
    clear hr1 hg1
    go_wp2
    have HB2 := HB1.out.set (y := ⟨#[123]⟩) (c := false)
    refine bodyPost_ret (v := .tuple #[.agg #[.string ⟨#[123]⟩, .bool false], .bool true]) ?_ rfl ?_
    · obtain ⟨z0, z1, _, _⟩ := HB2.cells
      rw [results_cell_tmp rfl]
      go_simp
    · exact ⟨grown_set (grown_set HX.out (Nat.le_refl _)) (Nat.le_refl _), .inr ⟨_, _, HS.out, rfl, rdr_set (rdr_set HR1.out (by omega)) (by omega)⟩⟩
  have HC : Hid (pfx ((by' s).drop t) ⟨#[123, 123]⟩ = false) := by unfold Hid; rw [pfx2]; exact decide_eq_false c2
  by_cases c1 : (by' s)[t]? = some 123
  · have c3 : (by' s)[t + 1]? ≠ some 123 := fun e => c2 ⟨c1, e⟩
    have HD : Hid (pfx ((by' s).drop t) ⟨#[123]⟩ = true) := by unfold Hid; rw [pfx1]; exact decide_eq_true c1
    have HS : Hid (stp s t = if (by' s)[nmE (by' s) (t + 1)]? = some 125 ∧ nameL (s.extract (t + 1) (nmE (by' s) (t + 1))).data.toList = true then some ((s.extract (t + 1) (nmE (by' s) (t + 1)), true), nmE (by' s) (t + 1) + 1) else none) := by unfold Hid stp; rw [if_pos c1, if_neg c3]
    have hxz : (s.extract (t + 1) (nmE (by' s) (t + 1))).size ≤ maxLen := by rw [ByteArray.size_extract]; unfold maxLen; omega
    clear c1 c2 c3
    go_enter Tryd.func25, Tryd.ntmps25
    go_wp2_with fail
    refine (f38h R s ⟨#[123, 123]⟩ t _ hs2 (by decide) HR.out HC.out).mono ?_
    rintro e w1 ⟨rfl, hr1, hg1⟩
    have HX1 := hid (Lib.grownBy_trans HG.out hg1)
    have HB1 := hid (HB.out.kept hg1 (by omega))
    have HR1 := hid hr1
    clear hr1 hg1
    go_wp2_with fail
    refine (f38g R s ⟨#[123]⟩ t _ hs2 (by decide) HR1.out HD.out).mono ?_
    rintro e w2 ⟨rfl, hr2, hg2⟩
    have HX2 := hid (Lib.grownBy_trans HX1.out hg2)
    have HB2 := hid (HB1.out.kept hg2 (by omega))
    have HR2 : Hid (Rdr R s (t + 1) w2) := hr2
    clear hr2 hg2
    go_wp2_with fail
    refine (f39 R s (t + 1) _ hs2 HR2.out).mono ?_
    rintro e w3 ⟨rfl, hr3, hg3⟩
    have HX3 := hid (Lib.grownBy_trans HX2.out hg3)
    have HB3 := hid (HB2.out.kept hg3 (by omega))
    have HR3 := hid hr3
    clear hr3 hg3
    generalize s.extract (t + 1) (nmE (by' s) (t + 1)) = x at *
    generalize nmE (by' s) (t + 1) = k at *
    cases hn : nameL x.data.toList
    · have HS' : Hid (stp s t = none) := by unfold Hid; rw [HS.out, if_neg (by rw [hn]; simp)]
      clear HS
      obtain ⟨b0, b1, f0, f1⟩ := HB3.out.cells
      go_wp2_with (go_at_call 26; refine (f26 x _ hxz).mono ?_; rintro e w4 ⟨rfl, rfl⟩)
      have HB4 := HB3.out.set (y := x) (c := true)
      refine bodyPost_ret (v := .tuple #[.agg #[.string x, .bool true], .bool false]) ?_ rfl ?_
      · obtain ⟨z0, z1, _, _⟩ := HB4.cells
        rw [results_cell_tmp rfl]
        go_simp
      · exact ⟨grown_set (grown_set HX3.out (Nat.le_refl _)) (Nat.le_refl _), .inl ⟨HS'.out, x, true, _, rfl, rdr_set (rdr_set HR3.out (by omega)) (by omega)⟩⟩
    · have HE : Hid (pfx ((by' s).drop k) ⟨#[125]⟩ = decide ((by' s)[k]? = some 125)) := pfx1
      by_cases c5 : (by' s)[k]? = some 125
      · have HS' : Hid (stp s t = some ((x, true), k + 1)) := by unfold Hid; rw [HS.out, if_pos ⟨c5, hn⟩]
        have HF : Hid (pfx ((by' s).drop k) ⟨#[125]⟩ = true) := by unfold Hid; rw [HE.out]; exact decide_eq_true c5
        clear HS HE c5
        go_wp2_with (first | (go_at_call 26; refine (f26 x _ hxz).mono ?_; rintro e w4 ⟨rfl, rfl⟩) | (go_at_call 38; refine (f38g R s ⟨#[125]⟩ k _ hs2 (by decide) HR3.out HF.out).mono ?_; rintro e w4 ⟨rfl, hr4, hg4⟩; have HX4 := hid (Lib.grownBy_trans HX3.out hg4); have HB4 := hid (HB3.out.kept hg4 (by omega)); have HR4 : Hid (Rdr R s (k + 1) w4) := hr4; obtain ⟨b0, b1, f0, f1⟩ := HB4.out.cells; clear hr4 hg4))
        have HB5 := HB4.out.set (y := x) (c := true)
        refine bodyPost_ret (v := .tuple #[.agg #[.string x, .bool true], .bool true]) ?_ rfl ?_
        · obtain ⟨z0, z1, _, _⟩ := HB5.cells
          rw [results_cell_tmp rfl]
          go_simp
        · exact ⟨grown_set (grown_set HX4.out (Nat.le_refl _)) (Nat.le_refl _), .inr ⟨(x, true), _, HS'.out, rfl, rdr_set (rdr_set HR4.out (by omega)) (by omega)⟩⟩
      · have HS' : Hid (stp s t = none) := by unfold Hid; rw [HS.out, if_neg (fun e => c5 e.1)]
        have HF : Hid (pfx ((by' s).drop k) ⟨#[125]⟩ = false) := by unfold Hid; rw [HE.out]; exact decide_eq_false c5
        clear HS HE c5
        go_wp2_with (first | (go_at_call 26; refine (f26 x _ hxz).mono ?_; rintro e w4 ⟨rfl, rfl⟩) | (go_at_call 38; refine (f38h R s ⟨#[125]⟩ k _ hs2 (by decide) HR3.out HF.out).mono ?_; rintro e w4 ⟨rfl, hr4, hg4⟩; have HX4 := hid (Lib.grownBy_trans HX3.out hg4); have HB4 := hid (HB3.out.kept hg4 (by omega)); have HR4 := hid hr4; obtain ⟨b0, b1, f0, f1⟩ := HB4.out.cells; clear hr4 hg4))
        have HB5 := HB4.out.set (y := x) (c := true)
        refine bodyPost_ret (v := .tuple #[.agg #[.string x, .bool true], .bool false]) ?_ rfl ?_
        · obtain ⟨z0, z1, _, _⟩ := HB5.cells
          rw [results_cell_tmp rfl]
          go_simp
        · exact ⟨grown_set (grown_set HX4.out (Nat.le_refl _)) (Nat.le_refl _), .inl ⟨HS'.out, x, true, _, rfl, rdr_set (rdr_set HR4.out (by omega)) (by omega)⟩⟩
  have HD : Hid (pfx ((by' s).drop t) ⟨#[123]⟩ = false) := by unfold Hid; rw [pfx1]; exact decide_eq_false c1
  have HS : Hid (stp s t = some ((s.extract t (t + 1), false), t + 1)) := by unfold Hid stp; rw [if_neg c1]
  clear c1 c2
  go_enter Tryd.func25, Tryd.ntmps25
  go_wp2_with fail
  refine (f38h R s ⟨#[123, 123]⟩ t _ hs2 (by decide) HR.out HC.out).mono ?_
  rintro e w1 ⟨rfl, hr1, hg1⟩
  have HX1 := hid (Lib.grownBy_trans HG.out hg1)
  have HB1 := hid (HB.out.kept hg1 (by omega))
  have HR1 := hid hr1
  clear hr1 hg1
  go_wp2_with fail
  refine (f38h R s ⟨#[123]⟩ t _ hs2 (by decide) HR1.out HD.out).mono ?_
  rintro e w2 ⟨rfl, hr2, hg2⟩
  have HX2 := hid (Lib.grownBy_trans HX1.out hg2)
  have HB2 := hid (HB1.out.kept hg2 (by omega))
  have HR2 := hid hr2
  have r1 := two1 hr2.1
  have rf := two_frz (o := 1) hr2.1
  clear hr2 hg2
  go_upto_region 7 with fail
  have HR3 : Hid (Rdr R s (t + 1) (w2.setCell ⟨R, 1, none⟩ (.int .i64 ((t : Int) + 1)))) := ⟨two_set1 HR2.out.1, by omega⟩
  have HX3 := hid (Lib.grownBy_setB HX2.out 1 (.int .i64 ((t : Int) + 1)))
  have HB3 : Hid (Bx w.heap.size ⟨#[]⟩ false (w2.setCell ⟨R, 1, none⟩ (.int .i64 ((t : Int) + 1)))) := (Below.heap_setCell _ _ _ _ (by simp; omega)).trans HB2.out
  generalize w2.setCell ⟨R, 1, none⟩ (.int .i64 ((t : Int) + 1)) = w3 at *
  clear r1 rf
  have i0 : (0 : Int) ≤ (t : Int) := by omega
  have i1 : (t : Int) ≤ (t : Int) + 1 := by omega
  have i2 : (t : Int) + 1 ≤ (s.size : Int) := by omega
  have q1 : IntKind.i64.wrap (t : Int) = (t : Int) := by rw [IntKind.wrap_i64]; omega
  have HS3 := hid (SR.refl HR3.out)
  have hx : SR R s (t + 1) w3 w3.drew := HS3.out.drew
  have g0 := hx.1
  have g1 : w3.drew.cell? ⟨R, 1, none⟩ = some (.int .i64 ((t : Int) + 1)) := hx.2.1
  have HB4 : Bx w.heap.size ⟨#[]⟩ false w3.drew := HB3.out
  obtain ⟨b0, b1, f0, f1⟩ := HB4.cells
  obtain ⟨y0, y1, y2, y3⟩ := HB3.out.cells
  go_region
  all_goals
    go_wp2
    have HB5 := HB4.set (y := s.extract t (t + 1)) (c := false)
    refine bodyPost_ret (v := .tuple #[.agg #[.string (s.extract t (t + 1)), .bool false], .bool true]) ?_ rfl ?_
    · obtain ⟨z0, z1, _, _⟩ := HB5.cells
      rw [results_cell_tmp rfl]
      go_simp
    · exact ⟨grown_drew (grown_set (grown_set HX3.out (Nat.le_refl _)) (Nat.le_refl _)), .inr ⟨_, _, HS.out, rfl, rdr_drew (rdr_set (rdr_set HR3.out (by omega)) (by omega))⟩⟩

theorem infoP : (Tryd.prog.info? 52).map (fun i => (i.zero, i.size, i.bytes)) = some (some (.agg #[.string ⟨#[]⟩, .bool false]), 2, 24) := by kernel_rfl
/-- What the call of readTemplate leaves. -/
def TplR (s : ByteArray) (w : World) (e : Ending) (w' : World) : Prop :=
  Below w.heap.size w w' ∧ ((tpl s = none ∧ e = .returned (.tuple #[.slice none 0 0, .bool false])) ∨ ∃ ps a c, tpl s = some ps ∧ e = .returned (.tuple #[.slice a ps.length c, .bool true]) ∧ w'.ownsRow w.heap.size 52 2 (.slice a ps.length c) ps.length (flatP ps) ∧ ps.length ≤ 200 ∧ ∀ p ∈ ps, p.1.size ≤ 200)
/-- The reader at the first block of the call, and the row of what was read. -/
structure Ts (s : ByteArray) (w0 : World) (k : Nat) (ps : List Pc) (a : Option Addr) (c : Nat) (w : World) : Prop where
  rdr : Rdr w0.heap.size s k w
  row : w.ownsRow (w0.heap.size + 1) 52 2 (.slice a ps.length c) ps.length (flatP ps)
  bel : Below w0.heap.size w0 w
theorem Ts.lt {s : ByteArray} {w0 w : World} {k : Nat} {ps : List Pc} {a : Option Addr} {c : Nat} (h : Ts s w0 k ps a c w) : w0.heap.size + 1 ≤ w.heap.size := lt_block h.rdr.1
theorem Ts.moved {s : ByteArray} {w0 w w' : World} {k k' : Nat} {ps : List Pc} {a : Option Addr} {c : Nat} (h : Ts s w0 k ps a c w) (hr : Rdr w0.heap.size s k' w') (hg : w.grownBy w' (some w0.heap.size)) : Ts s w0 k' ps a c w' := by
  refine ⟨hr, h.row.kept hg ?_, h.bel.grown hg h.bel.size (fun j hj => by simp at hj; omega)⟩
  cases hv : (Value.slice a ps.length c).ownBlock with
  | none => exact .inl rfl
  | some g => have := (h.row.lt g hv).1; exact .inr (by simp; omega)
theorem Ts.alloc {s : ByteArray} {w0 w : World} {k : Nat} {ps : List Pc} {a : Option Addr} {c : Nat} (h : Ts s w0 k ps a c w) (o : Obj) : Ts s w0 k ps a c (w.alloc o) :=
  ⟨⟨box_alloc h.rdr.1 _, h.rdr.2⟩, h.row.alloc _, h.bel.alloc h.bel.size _⟩
theorem Ts.app {s : ByteArray} {w0 w w' : World} {k : Nat} {ps ps' : List Pc} {a a' : Option Addr} {c c' : Nat} (h : Ts s w0 k ps a c w) (hg : w.grownBy w' (Value.slice a ps.length c).ownBlock) (ho : w'.ownsRow (w0.heap.size + 1) 52 2 (.slice a' ps'.length c') ps'.length (flatP ps')) : Ts s w0 k ps' a' c' w' := by
  refine ⟨⟨(hg.block _ h.lt (fun e => by have := (h.row.lt _ e.symm).1; omega)).trans h.rdr.1, h.rdr.2⟩, ho, h.bel.grown hg h.bel.size (fun j hj => by have := (h.row.lt j hj).1; omega)⟩
set_option maxRecDepth 100000 in
set_option maxHeartbeats 4000000 in
theorem f14 (s : ByteArray) (w : World) (hs : s.size ≤ maxLen) : Calls Tryd.prog 14 #[.string s] w (TplR s w) := by
  have hs' := hs
  unfold maxLen at hs'
  by_cases h200 : 200 < s.size
  · go_enter Tryd.func14, Tryd.ntmps14
    go_wp2
    go_ret2
    exact ⟨Below.refl _ _, .inl ⟨tpl_long h200, rfl⟩⟩
  cases hpr : printL s.data.toList
  · have HT := hid (tpl_unprinted hpr)
    go_enter Tryd.func14, Tryd.ntmps14
    go_wp2_with (go_at_call 24; refine (f24 s _ hs).mono ?_; rintro e w' ⟨rfl, hw'⟩; have hw2 := hw'.symm; clear hw'; subst hw2)
    go_ret2
    exact ⟨Below.refl _ _, .inl ⟨HT.out, rfl⟩⟩
  have HT := hid (tpl_ok (s := s) (by omega) hpr)
  obtain ⟨i0, hi, hz0, hz1, hz2⟩ := info_parts infoP
  have H0 : Hid (Ts s w 0 [] none 0 (w.alloc (.cells #[.string s, .int .i64 0] 50))) := ⟨⟨heap_alloc_new w _, Nat.zero_le _⟩, World.ownsRow_nil _ _ _ _, (Below.refl _ _).alloc (Nat.le_refl _) _⟩
  go_enter Tryd.func14, Tryd.ntmps14
  go_wp2_with (go_at_call 24; refine (f24 s _ hs).mono ?_; rintro e w' ⟨rfl, hw'⟩; have hw2 := hw'.symm; clear hw'; subst hw2)
  go_loopw [5] (fun so wr => ∃ (k : Nat) (ps : List Pc) (a : Option Addr) (c : Nat), k ≤ s.size ∧ so = .slice a ps.length c ∧ Hid (Sofar s ps k) ∧ Hid (Ts s w k ps a c wr)) (fun _ wr => s.size - posOf w.heap.size wr)
  case atStart => exact ⟨0, [], none, 0, Nat.zero_le _, rfl, Sofar.zero s, H0⟩
  case round =>
    obtain ⟨k, ps, a, c, hk, rfl, HF, HS⟩ := hrel
    have HP := hid (posOf_eq HS.out.rdr)
    have r1 := two1 HS.out.rdr.1
    by_cases hlt : k < s.size
    · have i1 : (k : Int) < (s.size : Int) := by omega
      go_upto_region 7 with (go_at_call 25; refine (f25 w.heap.size s k _ (by omega) hlt HS.out.rdr).mono ?_; rintro e w1 ⟨hg1, hc⟩; rcases hc with ⟨hn, x, b, k', rfl, hr1⟩ | ⟨p, k', hn, rfl, hr1⟩)
      · have HN := hid (HF.out.bad hlt hn)
        have HS1 := hid (HS.out.moved hr1 hg1)
        clear hr1 hg1 hn
        go_wp2
        go_ret2
        refine ⟨HS1.out.bel.alloc HS1.out.bel.size _, .inl ⟨HT.out.trans HN.out, rfl⟩⟩
      · have HF2 := hid (HF.out.next hlt hn)
        have hkl := stp_lt hn hlt
        have HS1 := hid ((HS.out.moved hr1 hg1).alloc (.cells #[.string p.1, .bool p.2] 52))
        have hb : (w1.alloc (.cells #[.string p.1, .bool p.2] 52)).heap[w1.heap.size]? = some (.cells #[.string p.1, .bool p.2] 52 (0, 0)) := heap_alloc_new w1 _
        have b0 := two0 hb
        have b1 := two1 hb
        have hpl : ps.length ≤ k := HF.out.2.1
        clear hr1 hg1 hn hb
        generalize w1.alloc (.cells #[.string p.1, .bool p.2] 52) = w2 at *
        go_wp2_with (at_builtin; refine wpList_append_own _ rfl (.tmp 33) (.tmp 35) 36 rfl (w.heap.size + 1) 52 i0 (.agg #[.string ⟨#[]⟩, .bool false]) 2 24 Tryd.underlying36 hi hz0 hz1 hz2 rfl (by decide) _ _ _ rfl (HS1.out.alloc _).row ⟨w2.heap.size, 0, none⟩ 1 1 [.string p.1, .bool p.2] rfl rfl ?d1 ?d2 ?d3 ?d4 ?d5 ?_)
        case d1 => exact two_new _ _ _ _
        case d2 => intro u hu; simp at hu; rcases hu with rfl | rfl <;> rfl
        case d3 => unfold maxLen; omega
        case d4 => omega
        case d5 => have := HS1.out.lt; simp; omega
        intro v3 w3 hown3 hgr3 _
        obtain ⟨a3, c3, rfl⟩ := own_form' hown3
        rw [← flatP_snoc] at hown3
        have HS3 : Hid (Ts s w k' (ps ++ [p]) a3 c3 w3) := (HS1.out.alloc _).app hgr3 (by simpa using hown3)
        have HP3 := hid (posOf_eq HS3.out.rdr)
        clear hown3 hgr3
        go_wp2
        go_roundw
        case rel => exact ⟨k', ps ++ [p], a3, c3, hkl.2.1, by simp, HF2.out, HS3⟩
        case measure => rw [HP.out, HP3.out]; omega
    · have i1 : ¬ (k : Int) < (s.size : Int) := by omega
      go_wp2
      go_ret2
      have hd := HF.out.done (by omega)
      refine ⟨HS.out.bel, .inr ⟨ps, a, c, HT.out.trans hd, rfl, ?_, by have := HF.out.2.1; omega, fun p hp => by have := HF.out.2.2 p hp; omega⟩⟩
      have hr := HS.out.row
      refine ⟨hr.1, ?_⟩
      rcases hr.2 with h | ⟨g, cap, cur, h1, h2, h3⟩
      · exact .inl h
      · exact .inr ⟨g, cap, cur, h1, by omega, h3⟩
def gdT (s : ByteArray) : Bool := (tpl s).isSome
end Go.Proofs.YtpeffjkagaegjaaDoor.Tpl
