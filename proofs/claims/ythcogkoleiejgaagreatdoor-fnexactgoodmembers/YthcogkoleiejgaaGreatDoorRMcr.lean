/- Lists of members: how they lie in memory; measured, copied, compared. -/
import Derived.Test.YthcogkoleiejgaaGreatDoorRRwc
import Derived.Test.YthcogkoleiejgaaGreatDoorRCtw
namespace Go.Proofs.YthcogkoleiejgaaGreatDoor.Mcf
open Go.RowKit
open Go.Proofs.YthcogkoleiejgaaGreatDoor.Pat (Mt HasM)
open Go.Proofs.YthcogkoleiejgaaGreatDoor.Fil (HasT)
open Go.Proofs.YthcogkoleiejgaaGreatDoor.Rwc

structure T where
  n : Int
  p : Int
  cs : List Ctl.Ag
  ca : Option Addr
  cc : Nat
  ds : List Ctl.Ag
  da : Option Addr
  dc : Nat
structure Pl where
  n : Int
  p : Int
  cs : List Ctl.Ag
  ds : List Ctl.Ag
def pl (q : T) : Pl := ⟨q.n, q.p, q.cs, q.ds⟩
def t0 : T := ⟨0, 0, [], none, 0, [], none, 0⟩
instance : Inhabited T := ⟨t0⟩
def cl (q : T) : List Value := [.int .i64 q.n, .int .i64 q.p, .slice q.ca q.cs.length q.cc, .slice q.da q.ds.length q.dc]
abbrev arT (q : T) : Array Value := #[.int .i64 q.n, .int .i64 q.p, .slice q.ca q.cs.length q.cc, .slice q.da q.ds.length q.dc]
abbrev agT (q : T) : Value := .agg #[.int .i64 q.n, .int .i64 q.p, .slice q.ca q.cs.length q.cc, .slice q.da q.ds.length q.dc]
def flat (L : List T) : List Value := L.flatMap cl
theorem cl_len (q : T) : (cl q).length = 4 := rfl
theorem flat_cons (q : T) (L : List T) : flat (q :: L) = cl q ++ flat L := rfl
theorem flat_append (L K : List T) : flat (L ++ K) = flat L ++ flat K := by simp [flat]
theorem flat_len (L : List T) : (flat L).length = L.length * 4 := by
  induction L with
  | nil => rfl
  | cons q L ih => rw [flat_cons, List.length_append, ih, cl_len, List.length_cons]; omega
theorem flat_get : ∀ (L : List T) (i j : Nat), i < L.length → j < 4 → (flat L)[i * 4 + j]? = (cl (L.getD i t0))[j]? := by
  intro L
  induction L with
  | nil => intro i j h; simp at h
  | cons p L ih =>
    intro i j h hj
    cases i with
    | zero => rw [flat_cons, Nat.zero_mul, Nat.zero_add, List.getElem?_append_left (by rw [cl_len]; exact hj)]; rfl
    | succ i =>
      have := ih i j (by simpa using h) hj
      rw [flat_cons, show (i + 1) * 4 + j = i * 4 + j + 4 by omega, List.getElem?_append_right (by rw [cl_len]; omega), cl_len, Nat.add_sub_cancel, this]
      rfl
theorem flat_set : ∀ (L : List T) (i : Nat) (q : T), i < L.length → ((((flat L).set (i * 4) (.int .i64 q.n)).set (i * 4 + 1) (.int .i64 q.p)).set (i * 4 + 2) (.slice q.ca q.cs.length q.cc)).set (i * 4 + 3) (.slice q.da q.ds.length q.dc) = flat (L.set i q) := by
  intro L
  induction L with
  | nil => intro i q h; simp at h
  | cons p L ih =>
    intro i q h
    cases i with
    | zero => rfl
    | succ i =>
      have := ih i q (by simpa using h)
      rw [flat_cons, List.set_cons_succ, flat_cons, ← this]
      rw [show (i + 1) * 4 = i * 4 + 4 by omega]
      simp only [cl, List.cons_append, List.nil_append, List.set_cons_succ, show i * 4 + 4 + 1 = i * 4 + 1 + 4 from by omega, show i * 4 + 4 + 2 = i * 4 + 2 + 4 from by omega, show i * 4 + 4 + 3 = i * 4 + 3 + 4 from by omega]
theorem made (n : Nat) : (madeCells #[.int .i64 0, .int .i64 0, .slice none 0 0, .slice none 0 0] (n * 4)).toList = flat (List.replicate n t0) := by
  apply List.ext_getElem?
  intro j
  by_cases hj : j < n * 4
  · have hl : j / 4 < (List.replicate n t0).length := by simp; omega
    have h2 : (List.replicate n t0).getD (j / 4) t0 = t0 := by
      rw [List.getD_eq_getElem?_getD, List.getElem?_replicate]; split <;> rfl
    have g := flat_get _ (j / 4) (j % 4) hl (by omega)
    rw [h2, show j / 4 * 4 + j % 4 = j by omega] at g
    rw [g]
    unfold madeCells
    have hm : j % 4 < 4 := by omega
    simp [hj]
    generalize j % 4 = r at *
    rcases (show r = 0 ∨ r = 1 ∨ r = 2 ∨ r = 3 by omega) with rfl | rfl | rfl | rfl <;> rfl
  · rw [List.getElem?_eq_none (by simp [size_madeCells]; omega), List.getElem?_eq_none (by rw [flat_len]; simp; omega)]
/-- The cells of one. -/
def Cells (w : World) (b o : Nat) (q : T) : Prop := ∀ j, j < 4 → w.cell? ⟨b, o + j, none⟩ = (cl q)[j]?
theorem Cells.below {w w' : World} {b o : Nat} {q : T} (h : Cells w b o q) (hb : Below w.heap.size w w') (hl : b < w.heap.size) : Cells w' b o q := fun j hj => (hb.cell (by exact hl)).trans (h j hj)
theorem Cells.all {w : World} {b o : Nat} {q : T} (h : Cells w b o q) : w.cell? ⟨b, o, none⟩ = some (.int .i64 q.n) ∧ w.cell? ⟨b, o + 1, none⟩ = some (.int .i64 q.p) ∧ w.cell? ⟨b, o + 2, none⟩ = some (.slice q.ca q.cs.length q.cc) ∧ w.cell? ⟨b, o + 3, none⟩ = some (.slice q.da q.ds.length q.dc) :=
  ⟨h 0 (by omega), h 1 (by omega), h 2 (by omega), h 3 (by omega)⟩
theorem cellsN {x : World} {b : Nat} {v0 v1 v2 v3 : Value} {t : TypeId} (h : x.heap[b]? = some (.cells #[v0, v1, v2, v3] t)) : x.cell? ⟨b, 0, none⟩ = some v0 ∧ x.cell? ⟨b, 1, none⟩ = some v1 ∧ x.cell? ⟨b, 2, none⟩ = some v2 ∧ x.cell? ⟨b, 3, none⟩ = some v3 :=
  ⟨cell_at h 0, cell_at h 1, cell_at h 2, cell_at h 3⟩
theorem frozN {x : World} {b : Nat} {v0 v1 v2 v3 : Value} {t : TypeId} (h : x.heap[b]? = some (.cells #[v0, v1, v2, v3] t)) : x.frozen? ⟨b, 0, none⟩ = false ∧ x.frozen? ⟨b, 1, none⟩ = false ∧ x.frozen? ⟨b, 2, none⟩ = false ∧ x.frozen? ⟨b, 3, none⟩ = false :=
  ⟨froz_at h 0, froz_at h 1, froz_at h 2, froz_at h 3⟩
/-- What its lists hold. -/
structure Lst (w : World) (q : T) : Prop where
  c : Ctl.HasA w q.ca q.cs
  d : Ctl.HasA w q.da q.ds
theorem Lst.below {w w' : World} {q : T} (h : Lst w q) (hb : Below w.heap.size w w') : Lst w' q := ⟨h.c.below hb, h.d.below hb⟩
def Has (w : World) (a : Option Addr) (ts : List T) : Prop :=
  ts = [] ∨ ∃ b off, a = some ⟨b, off, none⟩ ∧ b < w.heap.size ∧ ∀ i, i < ts.length → Cells w b (off + i * 4) (ts.getD i t0) ∧ Lst w (ts.getD i t0)
theorem Has.below {w w' : World} {a : Option Addr} {ts : List T} (h : Has w a ts) (hb : Below w.heap.size w w') : Has w' a ts := by
  rcases h with h | ⟨b, off, h1, h2, h3⟩
  · exact .inl h
  · exact .inr ⟨b, off, h1, Nat.lt_of_lt_of_le h2 hb.size, fun i hi => ⟨(h3 i hi).1.below hb h2, (h3 i hi).2.below hb⟩⟩
theorem Has.at2 {w : World} {a : Option Addr} {ts : List T} (h : Has w a ts) (i : Nat) (hi : i < ts.length) : ∃ b off, a = some ⟨b, off, none⟩ ∧ b < w.heap.size ∧ Cells w b (off + i * 4) (ts.getD i t0) ∧ Lst w (ts.getD i t0) := by
  rcases h with h | ⟨b, off, h1, h2, h3⟩
  · rw [h] at hi; simp at hi
  · exact ⟨b, off, h1, h2, h3 i hi⟩
/-- All texts and numbers are such as a machine can hold. -/
structure Ft (q : T) : Prop where
  n : In64 q.n
  p : In64 q.p
  c : Ctl.Fit q.cs ∧ q.cs.length ≤ maxLen
  d : Ctl.Fit q.ds ∧ q.ds.length ≤ maxLen
def Fit (ts : List T) : Prop := ∀ i, Ft (ts.getD i t0)
/-- How many items its lists have. -/
def wt (q : T) : Nat := q.cs.length + q.ds.length
def tot (ts : List T) : Nat → Nat
  | 0 => 0
  | k + 1 => tot ts k + wt (ts.getD k t0)
def Sml (ts : List T) : Prop := ∀ i, i < ts.length → wt (ts.getD i t0) ≤ 1048576
theorem tot_mono (ts : List T) : ∀ (k j : Nat), j ≤ k → tot ts j ≤ tot ts k := by
  intro k
  induction k with
  | zero => intro j h; rw [show j = 0 by omega]; exact Nat.le_refl _
  | succ k ih =>
    intro j h
    by_cases e : j = k + 1
    · rw [e]; exact Nat.le_refl _
    · have := ih j (by omega)
      simp only [tot]; omega
theorem sml_tot {ts : List T} (h : tot ts ts.length ≤ 1048576) : Sml ts := by
  intro i hi
  have := tot_mono ts ts.length (i + 1) hi
  simp only [tot] at this
  omega
def Same (n : Nat) (ts ts' : List T) : Prop := ∀ i, i < n → pl (ts'.getD i t0) = pl (ts.getD i t0)

set_option maxHeartbeats 4000000 in
theorem f11 (q : T) (L : Int) (w : World) (hL0 : 0 ≤ L) (hL1 : L ≤ 1048576) (hr : Lst w q) (hf : Ft q) :
    Calls Tryz.prog 11 #[agT q, .int .i64 L] w fun e w' => ∃ y : Int, e = .returned (.int .i64 y) ∧ -1 ≤ y ∧ y ≤ L ∧ (0 ≤ y → wt q + y ≤ L) ∧ Below w.heap.size w w' := by
  have HB0 := hid ((Below.refl w.heap.size w).alloc (Nat.le_refl _) (.cells (arT q) 41))
  have HX0 := hid (heap_alloc_new w (.cells (arT q) 41))
  have HR := hid hr
  have HF := hid hf
  clear hr hf
  obtain ⟨W0, hW⟩ : ∃ W, W = w.alloc (.cells (arT q) 41) := ⟨_, rfl⟩
  rw [← hW] at HB0 HX0
  have HW := hid hW
  clear hW
  simp only [agT]
  go_enter Tryz.func11, Tryz.ntmps11
  go_upto_region 1 with fail
  rw [← HW.out]
  clear HW
  obtain ⟨y, hy⟩ : ∃ y : Int, y = L := ⟨_, rfl⟩
  have HY0 : Hid (0 + y ≤ L) := by unfold Hid; omega
  have hy0 : 0 ≤ y := by omega
  have hyL : y ≤ L := by omega
  rw [← hy]
  have HLY := hid hyL
  clear hy
  obtain ⟨c0, c1, c2, c3⟩ := cellsN HX0.out
  go_wp2_with fail
  refine (Ctw.f39u q.ca q.cs.length q.cc y q.cs _ (by omega) (by omega) rfl (HR.out.c.below HB0.out) HF.out.c.1 HF.out.c.2).mono ?_
  rintro e w1 ⟨u2, rfl, u2l, u2h, hu, hb⟩
  have HB1 := hid (HB0.out.trans (hb.mono HB0.out.size))
  have HX1 := hid (kept HX0.out hb)
  have HU2 := hid hu
  clear hb hu c0 c1 c2 c3
  by_cases g2 : u2 < 0
  · go_wp2
    go_ret
    exact ⟨-1, rfl, by omega, by omega, fun h => absurd h (by omega), HB1.out⟩
  have HV2 := hid (HU2.out (by omega))
  obtain ⟨c0, c1, c2, c3⟩ := cellsN HX1.out
  go_wp2_with fail
  refine (Ctw.f39u q.da q.ds.length q.dc u2 q.ds _ (by omega) (by omega) rfl (HR.out.d.below HB1.out) HF.out.d.1 HF.out.d.2).mono ?_
  rintro e w2 ⟨u3, rfl, u3l, u3h, hu, hb⟩
  have HB2 := hid (HB1.out.trans (hb.mono HB1.out.size))
  have HX2 := hid (kept HX1.out hb)
  have HU3 := hid hu
  clear hb hu c0 c1 c2 c3
  by_cases g3 : u3 < 0
  · go_wp2
    go_ret
    exact ⟨-1, rfl, by omega, by omega, fun h => absurd h (by omega), HB2.out⟩
  have HV3 := hid (HU3.out (by omega))
  go_wp2
  go_ret
  exact ⟨u3, rfl, by omega, by omega, fun _ => by have := HV2.out; have := HV3.out; unfold wt; omega, HB2.out⟩

/-- One whose lists are in memory of their own, from B on and below U. -/
structure Own1 (X B U : Nat) (q : T) (w : World) : Prop where
  c : ∃ g, q.ca = some ⟨g, 0, none⟩ ∧ B ≤ g ∧ g < U ∧ w.ownsRow X 128 4 (.slice (some ⟨g, 0, none⟩) q.cs.length q.cc) q.cs.length (Ctl.flat q.cs)
  d : ∃ g, q.da = some ⟨g, 0, none⟩ ∧ B ≤ g ∧ g < U ∧ w.ownsRow X 128 4 (.slice (some ⟨g, 0, none⟩) q.ds.length q.dc) q.ds.length (Ctl.flat q.ds)
theorem Own1.below {X B U : Nat} {q : T} {w w' : World} (h : Own1 X B U q w) (hb : Below w.heap.size w w') : Own1 X B U q w' := by
  obtain ⟨gc, xc, yc, zc, oc⟩ := h.c
  obtain ⟨gd, xd, yd, zd, od⟩ := h.d
  exact ⟨⟨gc, xc, yc, zc, own_below oc hb⟩, ⟨gd, xd, yd, zd, own_below od hb⟩⟩
theorem Own1.set {X B U c o : Nat} {q : T} {w : World} (h : Own1 X B U q w) (hc : c < B ∨ U ≤ c) (v : Value) : Own1 X B U q (w.setCell ⟨c, o, none⟩ v) := by
  obtain ⟨gc, xc, yc, zc, oc⟩ := h.c
  obtain ⟨gd, xd, yd, zd, od⟩ := h.d
  exact ⟨⟨gc, xc, yc, zc, own_set oc (by simp only; omega) v⟩, ⟨gd, xd, yd, zd, own_set od (by simp only; omega) v⟩⟩
theorem Own1.wide {X Y B C U V : Nat} {q : T} {w : World} (h : Own1 X B U q w) (hX : Y ≤ X) (hB : C ≤ B) (hU : U ≤ V) : Own1 Y C V q w := by
  obtain ⟨gc, xc, yc, zc, oc⟩ := h.c
  obtain ⟨gd, xd, yd, zd, od⟩ := h.d
  exact ⟨⟨gc, xc, by omega, by omega, own_base oc hX⟩, ⟨gd, xd, by omega, by omega, own_base od hX⟩⟩
theorem Own1.lst {X B U : Nat} {q : T} {w : World} (h : Own1 X B U q w) : Lst w q := by
  obtain ⟨gc, xc, yc, zc, oc⟩ := h.c
  obtain ⟨gd, xd, yd, zd, od⟩ := h.d
  exact ⟨by rw [xc]; exact Ctl.HasA.own oc, by rw [xd]; exact Ctl.HasA.own od⟩
structure Ti (w : World) (q : T) (m0 m1 m2 m3 : Value) (W : World) : Prop where
  arg : W.heap[w.heap.size]? = some (.cells (arT q) 41)
  res : W.heap[w.heap.size + 1]? = some (.cells #[.int .i64 0, .int .i64 0, .slice none 0 0, .slice none 0 0] 46)
  out : W.heap[w.heap.size + 2]? = some (.cells #[m0, m1, m2, m3] 46)
  bel : Below w.heap.size w W
theorem Ti.mv {w W W' : World} {q : T} {m0 m1 m2 m3 : Value} (h : Ti w q m0 m1 m2 m3 W) (hb : Below W.heap.size W W') : Ti w q m0 m1 m2 m3 W' :=
  ⟨kept h.arg hb, kept h.res hb, kept h.out hb, h.bel.trans (hb.mono h.bel.size)⟩
theorem Ti.s0 {w W : World} {q : T} {m0 m1 m2 m3 : Value} (h : Ti w q m0 m1 m2 m3 W) (x : Value) : Ti w q x m1 m2 m3 (W.setCell ⟨w.heap.size + 2, 0, none⟩ x) := ⟨set_else h.arg (by simp only; omega), set_else h.res (by simp only; omega), set_at h.out, h.bel.setCell (by simp) _⟩
theorem Ti.s1 {w W : World} {q : T} {m0 m1 m2 m3 : Value} (h : Ti w q m0 m1 m2 m3 W) (x : Value) : Ti w q m0 x m2 m3 (W.setCell ⟨w.heap.size + 2, 1, none⟩ x) := ⟨set_else h.arg (by simp only; omega), set_else h.res (by simp only; omega), set_at h.out, h.bel.setCell (by simp) _⟩
theorem Ti.s2 {w W : World} {q : T} {m0 m1 m2 m3 : Value} (h : Ti w q m0 m1 m2 m3 W) (x : Value) : Ti w q m0 m1 x m3 (W.setCell ⟨w.heap.size + 2, 2, none⟩ x) := ⟨set_else h.arg (by simp only; omega), set_else h.res (by simp only; omega), set_at h.out, h.bel.setCell (by simp) _⟩
theorem Ti.s3 {w W : World} {q : T} {m0 m1 m2 m3 : Value} (h : Ti w q m0 m1 m2 m3 W) (x : Value) : Ti w q m0 m1 m2 x (W.setCell ⟨w.heap.size + 2, 3, none⟩ x) := ⟨set_else h.arg (by simp only; omega), set_else h.res (by simp only; omega), set_at h.out, h.bel.setCell (by simp) _⟩
theorem Ti.first (w : World) (q : T) : Ti w q (.int .i64 0) (.int .i64 0) (.slice none 0 0) (.slice none 0 0) (((w.alloc (.cells (arT q) 41)).alloc (.cells #[.int .i64 0, .int .i64 0, .slice none 0 0, .slice none 0 0] 46)).alloc (.cells #[.int .i64 0, .int .i64 0, .slice none 0 0, .slice none 0 0] 46)) := by
  have b1 := fun (W : World) o => (Below.refl W.heap.size W).alloc (Nat.le_refl _) o
  refine ⟨kept (kept (heap_alloc_new w _) (b1 _ _)) (b1 _ _), ?_, ?_, ((b1 w _).alloc (by simp) _).alloc (by simp; omega) _⟩
  · have := kept (heap_alloc_new (w.alloc (.cells (arT q) 41)) (.cells #[.int .i64 0, .int .i64 0, .slice none 0 0, .slice none 0 0] 46)) (b1 _ (.cells #[.int .i64 0, .int .i64 0, .slice none 0 0, .slice none 0 0] 46))
    simpa using this
  · have := heap_alloc_new ((w.alloc (.cells (arT q) 41)).alloc (.cells #[.int .i64 0, .int .i64 0, .slice none 0 0, .slice none 0 0] 46)) (.cells #[.int .i64 0, .int .i64 0, .slice none 0 0, .slice none 0 0] 46)
    simpa using this

set_option maxRecDepth 100000 in
set_option maxHeartbeats 8000000 in
theorem f13 (q : T) (w : World) (hr : Lst w q) (hs : wt q ≤ 1048576) :
    Calls Tryz.prog 13 #[agT q] w fun e w' => ∃ q' : T, e = .returned (agT q') ∧ pl q' = pl q ∧ Own1 w.heap.size (w.heap.size + 3) w'.heap.size q' w' ∧ Below w.heap.size w w' := by
  have HR := hid hr
  clear hr
  unfold wt at hs
  have HT := hid (Ti.first w q)
  obtain ⟨W0, hW0⟩ : ∃ W, W = ((w.alloc (.cells (arT q) 41)).alloc (.cells #[.int .i64 0, .int .i64 0, .slice none 0 0, .slice none 0 0] 46)).alloc (.cells #[.int .i64 0, .int .i64 0, .slice none 0 0, .slice none 0 0] 46) := ⟨_, rfl⟩
  rw [← hW0] at HT
  have HW := hid hW0
  clear hW0
  simp only [agT]
  go_enter Tryz.func13, Tryz.ntmps13
  go_upto_region 2 with fail
  rw [← HW.out]
  clear HW
  obtain ⟨y0, y1, y2, y3⟩ := cellsN HT.out.arg
  have HU := HT
  clear HT
  obtain ⟨x0, x1, x2, x3⟩ := cellsN HU.out.out
  obtain ⟨f0, f1, f2, f3⟩ := frozN HU.out.out
  have HT := hid (HU.out.s0 (.int .i64 q.n))
  obtain ⟨W1, hW⟩ : ∃ W, W = W0.setCell ⟨w.heap.size + 2, 0, none⟩ (.int .i64 q.n) := ⟨_, rfl⟩
  rw [← hW] at HT 
  have HW := hid hW
  clear hW HU
  go_upto_region 3 with fail
  rw [← HW.out]
  clear HW x0 x1 x2 x3 f0 f1 f2 f3 y0 y1 y2 y3
  obtain ⟨y0, y1, y2, y3⟩ := cellsN HT.out.arg
  have HU := HT
  clear HT
  obtain ⟨x0, x1, x2, x3⟩ := cellsN HU.out.out
  obtain ⟨f0, f1, f2, f3⟩ := frozN HU.out.out
  have HT := hid (HU.out.s1 (.int .i64 q.p))
  obtain ⟨W2, hW⟩ : ∃ W, W = W1.setCell ⟨w.heap.size + 2, 1, none⟩ (.int .i64 q.p) := ⟨_, rfl⟩
  rw [← hW] at HT 
  have HW := hid hW
  clear hW HU
  go_upto_region 4 with fail
  rw [← HW.out]
  clear HW x0 x1 x2 x3 f0 f1 f2 f3 y0 y1 y2 y3
  obtain ⟨x0, x1, x2, x3⟩ := cellsN HT.out.arg
  go_wp2_with fail
  refine (Ctw.f42 q.ca q.cs.length q.cc q.cs _ rfl (by omega) (HR.out.c.below HT.out.bel)).mono ?_
  rintro e v2 ⟨rfl, ho, hb⟩
  have hlt : w.heap.size + 2 < W2.heap.size := lt_at HT.out.out
  have HQc : Hid (v2.ownsRow w.heap.size 128 4 (.slice (some ⟨W2.heap.size, 0, none⟩) q.cs.length q.cs.length) q.cs.length (Ctl.flat q.cs)) := own_base ho HT.out.bel.size
  have HGc := hid hlt
  have HU := hid (HT.out.mv hb)
  clear HT x0 x1 x2 x3 ho hb hlt
  obtain ⟨Sc, hS⟩ : ∃ S, S = W2.heap.size := ⟨_, rfl⟩
  rw [← hS] at HQc HGc ⊢
  clear hS
  obtain ⟨x0, x1, x2, x3⟩ := cellsN HU.out.out
  obtain ⟨f0, f1, f2, f3⟩ := frozN HU.out.out
  have HT := hid (HU.out.s2 (.slice (some ⟨Sc, 0, none⟩) q.cs.length q.cs.length))
  have HQc' := hid (own_set HQc.out (p := ⟨w.heap.size + 2, 2, none⟩) (by have := HGc.out; simp only; omega) (.slice (some ⟨Sc, 0, none⟩) q.cs.length q.cs.length))
  clear HQc
  obtain ⟨W3, hW⟩ : ∃ W, W = v2.setCell ⟨w.heap.size + 2, 2, none⟩ (.slice (some ⟨Sc, 0, none⟩) q.cs.length q.cs.length) := ⟨_, rfl⟩
  rw [← hW] at HT HQc'
  have HQc := HQc'
  clear HQc'
  have HW := hid hW
  clear hW HU
  go_upto_region 5 with fail
  rw [← HW.out]
  clear HW x0 x1 x2 x3 f0 f1 f2 f3
  obtain ⟨x0, x1, x2, x3⟩ := cellsN HT.out.arg
  go_wp2_with fail
  refine (Ctw.f42 q.da q.ds.length q.dc q.ds _ rfl (by omega) (HR.out.d.below HT.out.bel)).mono ?_
  rintro e v3 ⟨rfl, ho, hb⟩
  have hlt : w.heap.size + 2 < W3.heap.size := lt_at HT.out.out
  have HQd : Hid (v3.ownsRow w.heap.size 128 4 (.slice (some ⟨W3.heap.size, 0, none⟩) q.ds.length q.ds.length) q.ds.length (Ctl.flat q.ds)) := own_base ho HT.out.bel.size
  have HGd := hid hlt
  have HPc := hid (own_below HQc.out hb)
  clear HQc
  have HU := hid (HT.out.mv hb)
  clear HT x0 x1 x2 x3 ho hb hlt
  obtain ⟨Sd, hS⟩ : ∃ S, S = W3.heap.size := ⟨_, rfl⟩
  rw [← hS] at HQd HGd ⊢
  clear hS
  have HQc := HPc
  clear HPc
  obtain ⟨x0, x1, x2, x3⟩ := cellsN HU.out.out
  obtain ⟨f0, f1, f2, f3⟩ := frozN HU.out.out
  have HT := hid (HU.out.s3 (.slice (some ⟨Sd, 0, none⟩) q.ds.length q.ds.length))
  have HQc' := hid (own_set HQc.out (p := ⟨w.heap.size + 2, 3, none⟩) (by have := HGc.out; simp only; omega) (.slice (some ⟨Sd, 0, none⟩) q.ds.length q.ds.length))
  clear HQc
  have HQd' := hid (own_set HQd.out (p := ⟨w.heap.size + 2, 3, none⟩) (by have := HGd.out; simp only; omega) (.slice (some ⟨Sd, 0, none⟩) q.ds.length q.ds.length))
  clear HQd
  obtain ⟨W4, hW⟩ : ∃ W, W = v3.setCell ⟨w.heap.size + 2, 3, none⟩ (.slice (some ⟨Sd, 0, none⟩) q.ds.length q.ds.length) := ⟨_, rfl⟩
  rw [← hW] at HT HQc' HQd'
  have HQc := HQc'
  clear HQc'
  have HQd := HQd'
  clear HQd'
  have HW := hid hW
  clear hW HU
  go_upto_region 6 with fail
  rw [← HW.out]
  clear HW x0 x1 x2 x3 f0 f1 f2 f3
  obtain ⟨x0, x1, x2, x3⟩ := cellsN HT.out.out
  obtain ⟨y0, y1, y2, y3⟩ := cellsN HT.out.res
  obtain ⟨f0, f1, f2, f3⟩ := frozN HT.out.res
  have HE : Hid (∀ x, x = (((W4.setCell ⟨w.heap.size + 1, 0, none⟩ (.int .i64 q.n)).setCell ⟨w.heap.size + 1, 1, none⟩ (.int .i64 q.p)).setCell ⟨w.heap.size + 1, 2, none⟩ (.slice (some ⟨Sc, 0, none⟩) q.cs.length q.cs.length)).setCell ⟨w.heap.size + 1, 3, none⟩ (.slice (some ⟨Sd, 0, none⟩) q.ds.length q.ds.length) → x.heap[w.heap.size + 1]? = some (.cells #[.int .i64 q.n, .int .i64 q.p, .slice (some ⟨Sc, 0, none⟩) q.cs.length q.cs.length, .slice (some ⟨Sd, 0, none⟩) q.ds.length q.ds.length] 46) ∧ Below w.heap.size w x ∧ x.ownsRow w.heap.size 128 4 (.slice (some ⟨Sc, 0, none⟩) q.cs.length q.cs.length) q.cs.length (Ctl.flat q.cs) ∧ x.ownsRow w.heap.size 128 4 (.slice (some ⟨Sd, 0, none⟩) q.ds.length q.ds.length) q.ds.length (Ctl.flat q.ds)) := by
    rintro x rfl
    refine ⟨?_, Below.setCell (Below.setCell (Below.setCell (Below.setCell (HT.out.bel) (by simp) _) (by simp) _) (by simp) _) (by simp) _, own_set (own_set (own_set (own_set (HQc.out) (by have := HGc.out; simp only; omega) _) (by have := HGc.out; simp only; omega) _) (by have := HGc.out; simp only; omega) _) (by have := HGc.out; simp only; omega) _, own_set (own_set (own_set (own_set (HQd.out) (by have := HGd.out; simp only; omega) _) (by have := HGd.out; simp only; omega) _) (by have := HGd.out; simp only; omega) _) (by have := HGd.out; simp only; omega) _⟩
    have h0 : (W4.setCell ⟨w.heap.size + 1, 0, none⟩ (.int .i64 q.n)).heap[w.heap.size + 1]? = some (.cells #[.int .i64 q.n, .int .i64 0, .slice none 0 0, .slice none 0 0] 46) := set_at HT.out.res
    have h1 : ((W4.setCell ⟨w.heap.size + 1, 0, none⟩ (.int .i64 q.n)).setCell ⟨w.heap.size + 1, 1, none⟩ (.int .i64 q.p)).heap[w.heap.size + 1]? = some (.cells #[.int .i64 q.n, .int .i64 q.p, .slice none 0 0, .slice none 0 0] 46) := set_at h0
    have h2 : (((W4.setCell ⟨w.heap.size + 1, 0, none⟩ (.int .i64 q.n)).setCell ⟨w.heap.size + 1, 1, none⟩ (.int .i64 q.p)).setCell ⟨w.heap.size + 1, 2, none⟩ (.slice (some ⟨Sc, 0, none⟩) q.cs.length q.cs.length)).heap[w.heap.size + 1]? = some (.cells #[.int .i64 q.n, .int .i64 q.p, .slice (some ⟨Sc, 0, none⟩) q.cs.length q.cs.length, .slice none 0 0] 46) := set_at h1
    have h3 : ((((W4.setCell ⟨w.heap.size + 1, 0, none⟩ (.int .i64 q.n)).setCell ⟨w.heap.size + 1, 1, none⟩ (.int .i64 q.p)).setCell ⟨w.heap.size + 1, 2, none⟩ (.slice (some ⟨Sc, 0, none⟩) q.cs.length q.cs.length)).setCell ⟨w.heap.size + 1, 3, none⟩ (.slice (some ⟨Sd, 0, none⟩) q.ds.length q.ds.length)).heap[w.heap.size + 1]? = some (.cells #[.int .i64 q.n, .int .i64 q.p, .slice (some ⟨Sc, 0, none⟩) q.cs.length q.cs.length, .slice (some ⟨Sd, 0, none⟩) q.ds.length q.ds.length] 46) := set_at h2
    exact h3
  go_wp2
  revert HE
  generalize hwf : World.setCell _ _ _ = wf
  intro HE
  obtain ⟨k1, k2, kc, kd⟩ := HE.out wf (by rw [← hwf])
  obtain ⟨r0, r1, r2, r3⟩ := cellsN k1
  refine bodyPost_ret (v := .agg #[.int .i64 q.n, .int .i64 q.p, .slice (some ⟨Sc, 0, none⟩) q.cs.length q.cs.length, .slice (some ⟨Sd, 0, none⟩) q.ds.length q.ds.length]) (by simp [results, Tryz.results13, go_sem, r0, r1, r2, r3]) rfl ⟨⟨q.n, q.p, q.cs, some ⟨Sc, 0, none⟩, q.cs.length, q.ds, some ⟨Sd, 0, none⟩, q.ds.length⟩, rfl, rfl, ⟨⟨Sc, rfl, by have := HGc.out; omega, (kc.lt Sc rfl).2, kc⟩, ⟨Sd, rfl, by have := HGd.out; omega, (kd.lt Sd rfl).2, kd⟩⟩, k2⟩

theorem infoT : (Tryz.prog.info? 46).map (fun i => (i.zero, i.size, i.bytes)) = some (some (.agg #[.int .i64 0, .int .i64 0, .slice none 0 0, .slice none 0 0]), 4, 64) := by kernel_rfl
theorem step_set (d : List T) (n k : Nat) (q : T) (hd : d.length = k) (hk : k < n) : (d ++ List.replicate (n - k) t0).set k q = (d ++ [q]) ++ List.replicate (n - (k + 1)) t0 := by
  rw [List.set_append_right _ _ (by omega), hd, Nat.sub_self, show n - k = (n - (k + 1)) + 1 from by omega, List.replicate_succ, List.set_cons_zero, List.append_assoc]
  rfl
theorem getD_snoc (d : List T) (q : T) (i : Nat) : (d ++ [q]).getD i t0 = if i = d.length then q else d.getD i t0 := by
  rw [List.getD_eq_getElem?_getD, List.getD_eq_getElem?_getD]
  by_cases h : i < d.length
  · rw [List.getElem?_append_left h, if_neg (by omega)]
  · rw [List.getElem?_append_right (by omega)]
    by_cases e : i = d.length
    · rw [if_pos e, e, Nat.sub_self]; rfl
    · rw [if_neg e, List.getElem?_eq_none (by simp; omega), List.getElem?_eq_none (by omega)]
/-- The first k of a list lie in memory of their own, one behind the other: the i-th from Z i on and below Z (i + 1). -/
structure Owns (X B k : Nat) (Z : Nat → Nat) (d : List T) (w : World) : Prop where
  len : d.length = k
  low : B < Z 0
  up : ∀ i, i < k → Z i ≤ Z (i + 1)
  own : ∀ i, i < k → Own1 X (Z i) (Z (i + 1)) (d.getD i t0) w
  top : Z k ≤ w.heap.size
theorem Owns.zle {X B k : Nat} {Z : Nat → Nat} {d : List T} {w : World} (h : Owns X B k Z d w) : ∀ j i, i ≤ j → j ≤ k → Z i ≤ Z j := by
  intro j
  induction j with
  | zero => intro i hi _; rw [show i = 0 by omega]; exact Nat.le_refl _
  | succ j ih =>
    intro i hi hj
    by_cases e : i = j + 1
    · rw [e]; exact Nat.le_refl _
    · exact Nat.le_trans (ih i (by omega) (by omega)) (h.up j (by omega))
theorem Owns.below {X B k : Nat} {Z : Nat → Nat} {d : List T} {w w' : World} (h : Owns X B k Z d w) (hb : Below w.heap.size w w') : Owns X B k Z d w' := ⟨h.len, h.low, h.up, fun i hi => (h.own i hi).below hb, Nat.le_trans h.top hb.size⟩
theorem Owns.set {X B k : Nat} {Z : Nat → Nat} {d : List T} {w : World} (h : Owns X B k Z d w) (o : Nat) (v : Value) : Owns X B k Z d (w.setCell ⟨B, o, none⟩ v) :=
  ⟨h.len, h.low, h.up, fun i hi => (h.own i hi).set (.inl (Nat.lt_of_lt_of_le h.low (h.zle i 0 (Nat.zero_le _) (by omega)))) v, by simpa using h.top⟩
theorem Owns.snoc {X B k U : Nat} {Z : Nat → Nat} {d : List T} {w : World} {q : T} (h : Owns X B k Z d w) (h1 : Own1 X (Z k) U q w) (hU : Z k ≤ U) (hW : U ≤ w.heap.size) : Owns X B (k + 1) (fun i => if i ≤ k then Z i else U) (d ++ [q]) w := by
  have hl := h.len
  refine ⟨by simp [hl], by simpa using h.low, fun i hi => ?_, fun i hi => ?_, ?_⟩
  · show (if i ≤ k then Z i else U) ≤ (if i + 1 ≤ k then Z (i + 1) else U)
    rw [if_pos (show i ≤ k by omega)]
    by_cases e : i = k
    · subst e; rw [if_neg (show ¬ i + 1 ≤ i by omega)]; exact hU
    · rw [if_pos (show i + 1 ≤ k by omega)]; exact h.up i (by omega)
  · show Own1 X (if i ≤ k then Z i else U) (if i + 1 ≤ k then Z (i + 1) else U) ((d ++ [q]).getD i t0) w
    rw [if_pos (show i ≤ k by omega), getD_snoc]
    by_cases e : i = k
    · subst e
      rw [if_neg (show ¬ i + 1 ≤ i by omega), if_pos hl.symm]
      exact h1
    · rw [if_pos (show i + 1 ≤ k by omega), if_neg (show ¬ i = d.length by omega)]
      exact h.own i (by omega)
  · show (if k + 1 ≤ k then Z (k + 1) else U) ≤ w.heap.size
    rw [if_neg (show ¬ k + 1 ≤ k by omega)]
    exact hW
/-- A list at block g, all of it in memory of its own from X on. -/
structure OwnT (X g n : Nat) (ts : List T) (w : World) : Prop where
  row : w.ownsRow X 46 4 (.slice (some ⟨g, 0, none⟩) n n) n (flat ts)
  kin : ∃ Z, Owns X g n Z ts w
theorem OwnT.below {X g n : Nat} {ts : List T} {w w' : World} (h : OwnT X g n ts w) (hb : Below w.heap.size w w') : OwnT X g n ts w' := by
  obtain ⟨Z, hZ⟩ := h.kin
  exact ⟨own_below h.row hb, Z, hZ.below hb⟩
theorem OwnT.len {X g n : Nat} {ts : List T} {w : World} (h : OwnT X g n ts w) : ts.length = n := by obtain ⟨Z, hZ⟩ := h.kin; exact hZ.len
theorem OwnT.has {X g n : Nat} {ts : List T} {w : World} (h : OwnT X g n ts w) : Has w (some ⟨g, 0, none⟩) ts := by
  obtain ⟨Z, hZ⟩ := h.kin
  have hl := h.row.1
  rw [flat_len] at hl
  refine .inr ⟨g, 0, rfl, (h.row.lt g rfl).2, fun i hi => ⟨fun j hj => ?_, (hZ.own i (by rw [← hZ.len]; exact hi)).lst⟩⟩
  rw [Nat.zero_add]
  exact (h.row.cellAt (i * 4 + j) (by omega)).trans (flat_get ts i j hi hj)
theorem Same.snoc {k : Nat} {ts d : List T} {q : T} (h : Same k ts d) (hd : d.length = k) (h1 : pl q = pl (ts.getD k t0)) : Same (k + 1) ts (d ++ [q]) := by
  intro i hi
  rw [getD_snoc]
  by_cases e : i = d.length
  · rw [if_pos e, e, hd]; exact h1
  · rw [if_neg e]; exact h i (by omega)

set_option maxHeartbeats 4000000 in
theorem f15 (q q' : T) (w : World) (hp : pl q' = pl q) (hs : wt q ≤ 1048576) (hl : Lst w q) (hl' : Lst w q') :
    Calls Tryz.prog 15 #[agT q, agT q'] w fun e w' => e = .returned (.bool true) ∧ Below w.heap.size w w' := by
  obtain ⟨n, p, cs, ca, cc, ds, da, dc⟩ := q
  obtain ⟨n', p', cs', ca', cc', ds', da', dc'⟩ := q'
  simp only [pl, Pl.mk.injEq] at hp
  obtain ⟨rfl, rfl, rfl, rfl⟩ := hp
  unfold wt at hs
  simp only at hs
  have HB := hid (((Below.refl w.heap.size w).alloc (Nat.le_refl _) (.cells #[.int .i64 n', .int .i64 p', .slice ca cs'.length cc, .slice da ds'.length dc] 46)).alloc (by simp) (.cells #[.int .i64 n', .int .i64 p', .slice ca' cs'.length cc', .slice da' ds'.length dc'] 46))
  have HA : Hid (((w.alloc (.cells #[.int .i64 n', .int .i64 p', .slice ca cs'.length cc, .slice da ds'.length dc] 46)).alloc (.cells #[.int .i64 n', .int .i64 p', .slice ca' cs'.length cc', .slice da' ds'.length dc'] 46)).heap[w.heap.size]? = some (.cells #[.int .i64 n', .int .i64 p', .slice ca cs'.length cc, .slice da ds'.length dc] 46)) := kept (heap_alloc_new w _) ((Below.refl _ _).alloc (Nat.le_refl _) _)
  have HC : Hid (((w.alloc (.cells #[.int .i64 n', .int .i64 p', .slice ca cs'.length cc, .slice da ds'.length dc] 46)).alloc (.cells #[.int .i64 n', .int .i64 p', .slice ca' cs'.length cc', .slice da' ds'.length dc'] 46)).heap[w.heap.size + 1]? = some (.cells #[.int .i64 n', .int .i64 p', .slice ca' cs'.length cc', .slice da' ds'.length dc'] 46)) := by
    have := heap_alloc_new (w.alloc (.cells #[.int .i64 n', .int .i64 p', .slice ca cs'.length cc, .slice da ds'.length dc] 46)) (.cells #[.int .i64 n', .int .i64 p', .slice ca' cs'.length cc', .slice da' ds'.length dc'] 46)
    unfold Hid
    simpa using this
  have HR := hid hl
  have HR' := hid hl'
  clear hl hl'
  have nn : (n' != n') = false := by simp
  have np : (p' != p') = false := by simp
  obtain ⟨W0, hW⟩ : ∃ W, W = ((w.alloc (.cells #[.int .i64 n', .int .i64 p', .slice ca cs'.length cc, .slice da ds'.length dc] 46)).alloc (.cells #[.int .i64 n', .int .i64 p', .slice ca' cs'.length cc', .slice da' ds'.length dc'] 46)) := ⟨_, rfl⟩
  rw [← hW] at HA HC HB
  have HW := hid hW
  clear hW
  simp only [agT]
  go_enter Tryz.func15, Tryz.ntmps15
  go_upto_region 1 with fail
  rw [← HW.out]
  clear HW
  obtain ⟨x0, x1, x2, x3⟩ := cellsN HA.out
  obtain ⟨y0, y1, y2, y3⟩ := cellsN HC.out
  go_wp2_with fail
  refine (Ctw.f45 ca ca' cs'.length cc cc' cs' _ rfl (by omega) (HR.out.c.below HB.out) (HR'.out.c.below HB.out)).mono ?_
  rintro e Wc ⟨rfl, hb⟩
  have HA' := hid (kept HA.out hb)
  have HC' := hid (kept HC.out hb)
  have HB' := hid (HB.out.trans (hb.mono HB.out.size))
  clear HA HC HB hb x0 x1 x2 x3 y0 y1 y2 y3
  have HA := HA'
  have HC := HC'
  have HB := HB'
  clear HA' HC' HB'
  obtain ⟨x0, x1, x2, x3⟩ := cellsN HA.out
  obtain ⟨y0, y1, y2, y3⟩ := cellsN HC.out
  go_wp2_with fail
  refine (Ctw.f45 da da' ds'.length dc dc' ds' _ rfl (by omega) (HR.out.d.below HB.out) (HR'.out.d.below HB.out)).mono ?_
  rintro e Wd ⟨rfl, hb⟩
  have HA' := hid (kept HA.out hb)
  have HC' := hid (kept HC.out hb)
  have HB' := hid (HB.out.trans (hb.mono HB.out.size))
  clear HA HC HB hb x0 x1 x2 x3 y0 y1 y2 y3
  have HA := HA'
  have HC := HC'
  have HB := HB'
  clear HA' HC' HB'
  obtain ⟨x0, x1, x2, x3⟩ := cellsN HA.out
  obtain ⟨y0, y1, y2, y3⟩ := cellsN HC.out
  go_wp2
  go_ret
  exact ⟨rfl, HB.out⟩
/-- Two entries' cells, and what they hold; all that was there is as it was. -/
abbrev EE (w : World) (q q' : T) (b o b' o' : Nat) (x : World) : Prop :=
  x.cell? ⟨b, o, none⟩ = some (.int .i64 q.n) ∧ x.cell? ⟨b, o + 1, none⟩ = some (.int .i64 q.p) ∧ x.cell? ⟨b, o + 2, none⟩ = some (.slice q.ca q.cs.length q.cc) ∧ x.cell? ⟨b, o + 3, none⟩ = some (.slice q.da q.ds.length q.dc) ∧ x.cell? ⟨b', o', none⟩ = some (.int .i64 q'.n) ∧ x.cell? ⟨b', o' + 1, none⟩ = some (.int .i64 q'.p) ∧ x.cell? ⟨b', o' + 2, none⟩ = some (.slice q'.ca q'.cs.length q'.cc) ∧ x.cell? ⟨b', o' + 3, none⟩ = some (.slice q'.da q'.ds.length q'.dc) ∧ Lst x q ∧ Lst x q' ∧ b < x.heap.size ∧ b' < x.heap.size ∧ Below w.heap.size w x
theorem EE.below {w : World} {q q' : T} {b o b' o' : Nat} {x y : World} (h : EE w q q' b o b' o' x) (hb : Below x.heap.size x y) : EE w q q' b o b' o' y := by
  obtain ⟨h0, h1, h2, h3, k0, k1, k2, k3, t1, t3, l1, l2, hw⟩ := h
  have e1 : ∀ j, y.cell? ⟨b, j, none⟩ = x.cell? ⟨b, j, none⟩ := fun j => hb.cell (by exact l1)
  have e2 : ∀ j, y.cell? ⟨b', j, none⟩ = x.cell? ⟨b', j, none⟩ := fun j => hb.cell (by exact l2)
  exact ⟨(e1 _).trans h0, (e1 _).trans h1, (e1 _).trans h2, (e1 _).trans h3, (e2 _).trans k0, (e2 _).trans k1, (e2 _).trans k2, (e2 _).trans k3, t1.below hb, t3.below hb, Nat.lt_of_lt_of_le l1 hb.size, Nat.lt_of_lt_of_le l2 hb.size, hw.trans (hb.mono hw.size)⟩
theorem EE.drew {w : World} {q q' : T} {b o b' o' : Nat} {x : World} (h : EE w q q' b o b' o' x) : EE w q q' b o b' o' x.drew := h.below (Below.refl _ x).drew
theorem EE.t1 {w : World} {q q' : T} {b o b' o' : Nat} {x : World} (h : EE w q q' b o b' o' x) : Lst x q := h.2.2.2.2.2.2.2.2.1
theorem EE.t3 {w : World} {q q' : T} {b o b' o' : Nat} {x : World} (h : EE w q q' b o b' o' x) : Lst x q' := h.2.2.2.2.2.2.2.2.2.1
theorem EE.bel {w : World} {q q' : T} {b o b' o' : Nat} {x : World} (h : EE w q q' b o b' o' x) : Below w.heap.size w x := h.2.2.2.2.2.2.2.2.2.2.2.2
end Go.Proofs.YthcogkoleiejgaaGreatDoor.Mcf
