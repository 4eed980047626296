/- Lists of streams: how they lie in memory; measured, copied, compared. -/
import Derived.Test.YtaanafejhgijnaaRwc
import Derived.Test.YtaanafejhgijnaaLbw
import Derived.Test.YtaanafejhgijnaaLin
namespace Go.Proofs.Ytaanafejhgijnaa.Stm
open Go.RowKit
open Go.Proofs.Ytaanafejhgijnaa.Lab (Lb HasL)
open Go.Proofs.Ytaanafejhgijnaa.Lin (Ln HasZ)
open Go.Proofs.Ytaanafejhgijnaa.Rwc

structure T where
  ls : List Lb
  la : Option Addr
  lc : Nat
  ns : List Ln
  na : Option Addr
  nc : Nat
structure Pl where
  ls : List Lb
  ns : List Ln
def pl (q : T) : Pl := ⟨q.ls, q.ns⟩
def t0 : T := ⟨[], none, 0, [], none, 0⟩
instance : Inhabited T := ⟨t0⟩
def cl (q : T) : List Value := [.slice q.la q.ls.length q.lc, .slice q.na q.ns.length q.nc]
abbrev arT (q : T) : Array Value := #[.slice q.la q.ls.length q.lc, .slice q.na q.ns.length q.nc]
abbrev agT (q : T) : Value := .agg #[.slice q.la q.ls.length q.lc, .slice q.na q.ns.length q.nc]
def flat (L : List T) : List Value := L.flatMap cl
theorem cl_len (q : T) : (cl q).length = 2 := rfl
theorem flat_cons (q : T) (L : List T) : flat (q :: L) = cl q ++ flat L := rfl
theorem flat_append (L K : List T) : flat (L ++ K) = flat L ++ flat K := by simp [flat]
theorem flat_len (L : List T) : (flat L).length = L.length * 2 := by
  induction L with
  | nil => rfl
  | cons q L ih => rw [flat_cons, List.length_append, ih, cl_len, List.length_cons]; omega
theorem flat_get : ∀ (L : List T) (i j : Nat), i < L.length → j < 2 → (flat L)[i * 2 + j]? = (cl (L.getD i t0))[j]? := by
  intro L
  induction L with
  | nil => intro i j h; simp at h
  | cons p L ih =>
    intro i j h hj
    cases i with
    | zero => rw [flat_cons, Nat.zero_mul, Nat.zero_add, List.getElem?_append_left (by rw [cl_len]; exact hj)]; rfl
    | succ i =>
      have := ih i j (by simpa using h) hj
      rw [flat_cons, show (i + 1) * 2 + j = i * 2 + j + 2 by omega, List.getElem?_append_right (by rw [cl_len]; omega), cl_len, Nat.add_sub_cancel, this]
      rfl
theorem flat_set : ∀ (L : List T) (i : Nat) (q : T), i < L.length → ((flat L).set (i * 2) (.slice q.la q.ls.length q.lc)).set (i * 2 + 1) (.slice q.na q.ns.length q.nc) = flat (L.set i q) := by
  intro L
  induction L with
  | nil => intro i q h; simp at h
  | cons p L ih =>
    intro i q h
    cases i with
    | zero => rfl
    | succ i =>
      have := ih i q (by simpa using h)
      rw [flat_cons, List.set_cons_succ, flat_cons, ← this]
      rw [show (i + 1) * 2 = i * 2 + 2 by omega]
      simp only [cl, List.cons_append, List.nil_append, List.set_cons_succ, show i * 2 + 2 + 1 = i * 2 + 1 + 2 from by omega]
theorem made (n : Nat) : (madeCells #[.slice none 0 0, .slice none 0 0] (n * 2)).toList = flat (List.replicate n t0) := by
  apply List.ext_getElem?
  intro j
  by_cases hj : j < n * 2
  · have hl : j / 2 < (List.replicate n t0).length := by simp; omega
    have h2 : (List.replicate n t0).getD (j / 2) t0 = t0 := by
      rw [List.getD_eq_getElem?_getD, List.getElem?_replicate]; split <;> rfl
    have g := flat_get _ (j / 2) (j % 2) hl (by omega)
    rw [h2, show j / 2 * 2 + j % 2 = j by omega] at g
    rw [g]
    unfold madeCells
    have hm : j % 2 < 2 := by omega
    simp [hj]
    generalize j % 2 = r at *
    rcases (show r = 0 ∨ r = 1 by omega) with rfl | rfl <;> rfl
  · rw [List.getElem?_eq_none (by simp [size_madeCells]; omega), List.getElem?_eq_none (by rw [flat_len]; simp; omega)]
/-- The cells of one. -/
def Cells (w : World) (b o : Nat) (q : T) : Prop := ∀ j, j < 2 → w.cell? ⟨b, o + j, none⟩ = (cl q)[j]?
theorem Cells.below {w w' : World} {b o : Nat} {q : T} (h : Cells w b o q) (hb : Below w.heap.size w w') (hl : b < w.heap.size) : Cells w' b o q := fun j hj => (hb.cell (by exact hl)).trans (h j hj)
theorem Cells.all {w : World} {b o : Nat} {q : T} (h : Cells w b o q) : w.cell? ⟨b, o, none⟩ = some (.slice q.la q.ls.length q.lc) ∧ w.cell? ⟨b, o + 1, none⟩ = some (.slice q.na q.ns.length q.nc) :=
  ⟨h 0 (by omega), h 1 (by omega)⟩
theorem cellsN {x : World} {b : Nat} {v0 v1 : Value} {t : TypeId} (h : x.heap[b]? = some (.cells #[v0, v1] t)) : x.cell? ⟨b, 0, none⟩ = some v0 ∧ x.cell? ⟨b, 1, none⟩ = some v1 :=
  ⟨cell_at h 0, cell_at h 1⟩
theorem frozN {x : World} {b : Nat} {v0 v1 : Value} {t : TypeId} (h : x.heap[b]? = some (.cells #[v0, v1] t)) : x.frozen? ⟨b, 0, none⟩ = false ∧ x.frozen? ⟨b, 1, none⟩ = false :=
  ⟨froz_at h 0, froz_at h 1⟩
/-- What its lists hold. -/
structure Lst (w : World) (q : T) : Prop where
  l : HasL w q.la q.ls
  n : HasZ w q.na q.ns
theorem Lst.below {w w' : World} {q : T} (h : Lst w q) (hb : Below w.heap.size w w') : Lst w' q := ⟨h.l.below hb, h.n.below hb⟩
def Has (w : World) (a : Option Addr) (ts : List T) : Prop :=
  ts = [] ∨ ∃ b off, a = some ⟨b, off, none⟩ ∧ b < w.heap.size ∧ ∀ i, i < ts.length → Cells w b (off + i * 2) (ts.getD i t0) ∧ Lst w (ts.getD i t0)
theorem Has.below {w w' : World} {a : Option Addr} {ts : List T} (h : Has w a ts) (hb : Below w.heap.size w w') : Has w' a ts := by
  rcases h with h | ⟨b, off, h1, h2, h3⟩
  · exact .inl h
  · exact .inr ⟨b, off, h1, Nat.lt_of_lt_of_le h2 hb.size, fun i hi => ⟨(h3 i hi).1.below hb h2, (h3 i hi).2.below hb⟩⟩
theorem Has.at2 {w : World} {a : Option Addr} {ts : List T} (h : Has w a ts) (i : Nat) (hi : i < ts.length) : ∃ b off, a = some ⟨b, off, none⟩ ∧ b < w.heap.size ∧ Cells w b (off + i * 2) (ts.getD i t0) ∧ Lst w (ts.getD i t0) := by
  rcases h with h | ⟨b, off, h1, h2, h3⟩
  · rw [h] at hi; simp at hi
  · exact ⟨b, off, h1, h2, h3 i hi⟩
/-- All texts and numbers are such as a machine can hold. -/
structure Ft (q : T) : Prop where
  l : Lab.Fit q.ls ∧ q.ls.length ≤ maxLen
  n : Lin.Fit q.ns ∧ q.ns.length ≤ maxLen
def Fit (ts : List T) : Prop := ∀ i, Ft (ts.getD i t0)
/-- How many items its lists have. -/
def wt (q : T) : Nat := q.ls.length + q.ns.length
def tot (ts : List T) : Nat → Nat
  | 0 => 0
  | k + 1 => tot ts k + wt (ts.getD k t0)
def Sml (ts : List T) : Prop := ∀ i, i < ts.length → wt (ts.getD i t0) ≤ 1048576
theorem tot_mono (ts : List T) : ∀ (k j : Nat), j ≤ k → tot ts j ≤ tot ts k := by
  intro k
  induction k with
  | zero => intro j h; rw [show j = 0 by omega]; exact Nat.le_refl _
  | succ k ih =>
    intro j h
    by_cases e : j = k + 1
    · rw [e]; exact Nat.le_refl _
    · have := ih j (by omega)
      simp only [tot]; omega
theorem sml_tot {ts : List T} (h : tot ts ts.length ≤ 1048576) : Sml ts := by
  intro i hi
  have := tot_mono ts ts.length (i + 1) hi
  simp only [tot] at this
  omega
def Same (n : Nat) (ts ts' : List T) : Prop := ∀ i, i < n → pl (ts'.getD i t0) = pl (ts.getD i t0)

set_option maxHeartbeats 4000000 in
theorem f9 (q : T) (L : Int) (w : World) (hL0 : 0 ≤ L) (hL1 : L ≤ 1048576) (hr : Lst w q) (hf : Ft q) :
    Calls Try.prog 9 #[agT q, .int .i64 L] w fun e w' => ∃ y : Int, e = .returned (.int .i64 y) ∧ -1 ≤ y ∧ y ≤ L ∧ (0 ≤ y → wt q + y ≤ L) ∧ Below w.heap.size w w' := by
  have HB0 := hid ((Below.refl w.heap.size w).alloc (Nat.le_refl _) (.cells (arT q) 33))
  have HX0 := hid (heap_alloc_new w (.cells (arT q) 33))
  have HR := hid hr
  have HF := hid hf
  clear hr hf
  obtain ⟨W0, hW⟩ : ∃ W, W = w.alloc (.cells (arT q) 33) := ⟨_, rfl⟩
  rw [← hW] at HB0 HX0
  have HW := hid hW
  clear hW
  simp only [agT]
  go_enter Try.func9, Try.ntmps9
  go_upto_region 1 with fail
  rw [← HW.out]
  clear HW
  obtain ⟨y, hy⟩ : ∃ y : Int, y = L := ⟨_, rfl⟩
  have HY0 : Hid (0 + y ≤ L) := by unfold Hid; omega
  have hy0 : 0 ≤ y := by omega
  have hyL : y ≤ L := by omega
  rw [← hy]
  have HLY := hid hyL
  clear hy
  obtain ⟨c0, c1⟩ := cellsN HX0.out
  go_wp2_with fail
  refine (Lbw.f20u q.la q.ls.length q.lc y q.ls _ (by omega) (by omega) rfl (HR.out.l.below HB0.out) HF.out.l.1 HF.out.l.2).mono ?_
  rintro e w1 ⟨u0, rfl, u0l, u0h, hu, hb⟩
  have HB1 := hid (HB0.out.trans (hb.mono HB0.out.size))
  have HX1 := hid (kept HX0.out hb)
  have HU0 := hid hu
  clear hb hu c0 c1
  by_cases g0 : u0 < 0
  · go_wp2
    go_ret
    exact ⟨-1, rfl, by omega, by omega, fun h => absurd h (by omega), HB1.out⟩
  have HV0 := hid (HU0.out (by omega))
  obtain ⟨c0, c1⟩ := cellsN HX1.out
  go_wp2_with fail
  refine (Lin.f21u q.na q.ns.length q.nc u0 q.ns _ (by omega) (by omega) rfl (HR.out.n.below HB1.out) HF.out.n.1 HF.out.n.2).mono ?_
  rintro e w2 ⟨u1, rfl, u1l, u1h, hu, hb⟩
  have HB2 := hid (HB1.out.trans (hb.mono HB1.out.size))
  have HX2 := hid (kept HX1.out hb)
  have HU1 := hid hu
  clear hb hu c0 c1
  by_cases g1 : u1 < 0
  · go_wp2
    go_ret
    exact ⟨-1, rfl, by omega, by omega, fun h => absurd h (by omega), HB2.out⟩
  have HV1 := hid (HU1.out (by omega))
  go_wp2
  go_ret
  exact ⟨u1, rfl, by omega, by omega, fun _ => by have := HV0.out; have := HV1.out; unfold wt; omega, HB2.out⟩

set_option maxHeartbeats 2000000 in
theorem f4 (a : Option Addr) (n c : Nat) (L : Int) (ts : List T) (w : World) (hL0 : 0 ≤ L) (hL1 : L ≤ 1048576) (hn : ts.length = n) (hr : Has w a ts) (hf : Fit ts) (hmax : n ≤ maxLen) :
    Calls Try.prog 4 #[.slice a n c, .int .i64 L] w fun e w' => ∃ y : Int, e = .returned (.int .i64 y) ∧ -1 ≤ y ∧ y ≤ L ∧ (0 ≤ y → n + tot ts n + y ≤ L) ∧ Below w.heap.size w w' := by
  unfold maxLen at hmax
  by_cases hbig : n ≤ L
  · have HN := hid hn
    have HR := hid hr
    have HF := hid hf
    clear hn hr hf
    go_enter Try.func4, Try.ntmps4
    go_wp2
    go_loopw [1, 5] (fun sx i wr => ∃ (k : Nat) (x : Int), k ≤ n ∧ i = .int .i64 k ∧ sx = .int .i64 x ∧ 0 ≤ x ∧ n + tot ts k + x ≤ L ∧ Hid (Below w.heap.size w wr)) (fun _ i _ => n - (intOf i).toNat)
    case atStart => exact ⟨0, _, Nat.zero_le _, rfl, rfl, by omega, by simp only [tot]; omega, Below.refl _ _⟩
    case round =>
      obtain ⟨k, x, hk, rfl, rfl, hx0, hx1, HB⟩ := hrel
      by_cases hlt : k < n
      · obtain ⟨b, off, rfl, hbl, hc, hl⟩ := (HR.out).at2 k (by rw [HN.out]; exact hlt)
        obtain ⟨d0, d1⟩ := (hc.below HB.out hbl).all
        have HL := hid (hl.below HB.out)
        have G := hid (HF.out k)
        have HT : Hid (tot ts (k + 1) = tot ts k + wt (ts.getD k t0)) := rfl
        clear hc hl hbl
        generalize ts.getD k t0 = q at *
        go_wp2_with fail
        refine (f9 q x _ hx0 (by omega) HL.out G.out).mono ?_
        rintro e w2 ⟨y, rfl, y0, y1, hy, hb2⟩
        have HB2 := hid (HB.out.trans (hb2.mono HB.out.size))
        clear hb2 d0 d1 HB
        by_cases hy0 : y < 0
        · go_wp2
          go_ret
          exact ⟨-1, rfl, by omega, by omega, fun h => absurd h (by omega), HB2.out⟩
        · have hy' := hid (hy (by omega))
          clear hy
          go_wp2
          go_roundw
          case rel => exact ⟨k + 1, y, by omega, by go_num, rfl, by omega, by rw [HT.out]; have := hy'.out; omega, HB2.out⟩
          case measure => simp [intOf]; omega
      · obtain rfl : k = n := by omega
        go_wp2
        go_ret
        exact ⟨x, rfl, by omega, by omega, fun _ => by omega, HB.out⟩
  · go_enter Try.func4, Try.ntmps4
    go_wp2
    go_ret
    exact ⟨-1, rfl, by omega, by omega, by omega, Below.refl _ _⟩

/-- One whose lists are in memory of their own, from B on and below U. -/
structure Own1 (X B U : Nat) (q : T) (w : World) : Prop where
  l : ∃ g, q.la = some ⟨g, 0, none⟩ ∧ B ≤ g ∧ g < U ∧ w.ownsRow X 52 2 (.slice (some ⟨g, 0, none⟩) q.ls.length q.lc) q.ls.length (Lab.flat q.ls)
  n : ∃ g, q.na = some ⟨g, 0, none⟩ ∧ B ≤ g ∧ g < U ∧ w.ownsRow X 41 2 (.slice (some ⟨g, 0, none⟩) q.ns.length q.nc) q.ns.length (Lin.flat q.ns)
theorem Own1.below {X B U : Nat} {q : T} {w w' : World} (h : Own1 X B U q w) (hb : Below w.heap.size w w') : Own1 X B U q w' := by
  obtain ⟨gl, xl, yl, zl, ol⟩ := h.l
  obtain ⟨gn, xn, yn, zn, on⟩ := h.n
  exact ⟨⟨gl, xl, yl, zl, own_below ol hb⟩, ⟨gn, xn, yn, zn, own_below on hb⟩⟩
theorem Own1.set {X B U c o : Nat} {q : T} {w : World} (h : Own1 X B U q w) (hc : c < B ∨ U ≤ c) (v : Value) : Own1 X B U q (w.setCell ⟨c, o, none⟩ v) := by
  obtain ⟨gl, xl, yl, zl, ol⟩ := h.l
  obtain ⟨gn, xn, yn, zn, on⟩ := h.n
  exact ⟨⟨gl, xl, yl, zl, own_set ol (by simp only; omega) v⟩, ⟨gn, xn, yn, zn, own_set on (by simp only; omega) v⟩⟩
theorem Own1.wide {X Y B C U V : Nat} {q : T} {w : World} (h : Own1 X B U q w) (hX : Y ≤ X) (hB : C ≤ B) (hU : U ≤ V) : Own1 Y C V q w := by
  obtain ⟨gl, xl, yl, zl, ol⟩ := h.l
  obtain ⟨gn, xn, yn, zn, on⟩ := h.n
  exact ⟨⟨gl, xl, by omega, by omega, own_base ol hX⟩, ⟨gn, xn, by omega, by omega, own_base on hX⟩⟩
theorem Own1.lst {X B U : Nat} {q : T} {w : World} (h : Own1 X B U q w) : Lst w q := by
  obtain ⟨gl, xl, yl, zl, ol⟩ := h.l
  obtain ⟨gn, xn, yn, zn, on⟩ := h.n
  exact ⟨by rw [xl]; exact Lab.HasL.own ol, by rw [xn]; exact Lin.HasZ.own on⟩
structure Ti (w : World) (q : T) (m0 m1 : Value) (W : World) : Prop where
  arg : W.heap[w.heap.size]? = some (.cells (arT q) 33)
  res : W.heap[w.heap.size + 1]? = some (.cells #[.slice none 0 0, .slice none 0 0] 37)
  out : W.heap[w.heap.size + 2]? = some (.cells #[m0, m1] 37)
  bel : Below w.heap.size w W
theorem Ti.mv {w W W' : World} {q : T} {m0 m1 : Value} (h : Ti w q m0 m1 W) (hb : Below W.heap.size W W') : Ti w q m0 m1 W' :=
  ⟨kept h.arg hb, kept h.res hb, kept h.out hb, h.bel.trans (hb.mono h.bel.size)⟩
theorem Ti.s0 {w W : World} {q : T} {m0 m1 : Value} (h : Ti w q m0 m1 W) (x : Value) : Ti w q x m1 (W.setCell ⟨w.heap.size + 2, 0, none⟩ x) := ⟨set_else h.arg (by simp only; omega), set_else h.res (by simp only; omega), set_at h.out, h.bel.setCell (by simp) _⟩
theorem Ti.s1 {w W : World} {q : T} {m0 m1 : Value} (h : Ti w q m0 m1 W) (x : Value) : Ti w q m0 x (W.setCell ⟨w.heap.size + 2, 1, none⟩ x) := ⟨set_else h.arg (by simp only; omega), set_else h.res (by simp only; omega), set_at h.out, h.bel.setCell (by simp) _⟩
theorem Ti.first (w : World) (q : T) : Ti w q (.slice none 0 0) (.slice none 0 0) (((w.alloc (.cells (arT q) 33)).alloc (.cells #[.slice none 0 0, .slice none 0 0] 37)).alloc (.cells #[.slice none 0 0, .slice none 0 0] 37)) := by
  have b1 := fun (W : World) o => (Below.refl W.heap.size W).alloc (Nat.le_refl _) o
  refine ⟨kept (kept (heap_alloc_new w _) (b1 _ _)) (b1 _ _), ?_, ?_, ((b1 w _).alloc (by simp) _).alloc (by simp; omega) _⟩
  · have := kept (heap_alloc_new (w.alloc (.cells (arT q) 33)) (.cells #[.slice none 0 0, .slice none 0 0] 37)) (b1 _ (.cells #[.slice none 0 0, .slice none 0 0] 37))
    simpa using this
  · have := heap_alloc_new ((w.alloc (.cells (arT q) 33)).alloc (.cells #[.slice none 0 0, .slice none 0 0] 37)) (.cells #[.slice none 0 0, .slice none 0 0] 37)
    simpa using this

set_option maxRecDepth 100000 in
set_option maxHeartbeats 8000000 in
theorem f14 (q : T) (w : World) (hr : Lst w q) (hs : wt q ≤ 1048576) :
    Calls Try.prog 14 #[agT q] w fun e w' => ∃ q' : T, e = .returned (agT q') ∧ pl q' = pl q ∧ Own1 w.heap.size (w.heap.size + 3) w'.heap.size q' w' ∧ Below w.heap.size w w' := by
  have HR := hid hr
  clear hr
  unfold wt at hs
  have HT := hid (Ti.first w q)
  obtain ⟨W0, hW0⟩ : ∃ W, W = ((w.alloc (.cells (arT q) 33)).alloc (.cells #[.slice none 0 0, .slice none 0 0] 37)).alloc (.cells #[.slice none 0 0, .slice none 0 0] 37) := ⟨_, rfl⟩
  rw [← hW0] at HT
  have HW := hid hW0
  clear hW0
  simp only [agT]
  go_enter Try.func14, Try.ntmps14
  go_upto_region 2 with fail
  rw [← HW.out]
  clear HW
  obtain ⟨x0, x1⟩ := cellsN HT.out.arg
  go_wp2_with fail
  refine (Lbw.f27 q.la q.ls.length q.lc q.ls _ rfl (by omega) (HR.out.l.below HT.out.bel)).mono ?_
  rintro e v0 ⟨rfl, ho, hb⟩
  have hlt : w.heap.size + 2 < W0.heap.size := lt_at HT.out.out
  have HQl : Hid (v0.ownsRow w.heap.size 52 2 (.slice (some ⟨W0.heap.size, 0, none⟩) q.ls.length q.ls.length) q.ls.length (Lab.flat q.ls)) := own_base ho HT.out.bel.size
  have HGl := hid hlt
  have HU := hid (HT.out.mv hb)
  clear HT x0 x1 ho hb hlt
  obtain ⟨Sl, hS⟩ : ∃ S, S = W0.heap.size := ⟨_, rfl⟩
  rw [← hS] at HQl HGl ⊢
  clear hS
  obtain ⟨x0, x1⟩ := cellsN HU.out.out
  obtain ⟨f0, f1⟩ := frozN HU.out.out
  have HT := hid (HU.out.s0 (.slice (some ⟨Sl, 0, none⟩) q.ls.length q.ls.length))
  have HQl' := hid (own_set HQl.out (p := ⟨w.heap.size + 2, 0, none⟩) (by have := HGl.out; simp only; omega) (.slice (some ⟨Sl, 0, none⟩) q.ls.length q.ls.length))
  clear HQl
  obtain ⟨W1, hW⟩ : ∃ W, W = v0.setCell ⟨w.heap.size + 2, 0, none⟩ (.slice (some ⟨Sl, 0, none⟩) q.ls.length q.ls.length) := ⟨_, rfl⟩
  rw [← hW] at HT HQl'
  have HQl := HQl'
  clear HQl'
  have HW := hid hW
  clear hW HU
  go_upto_region 3 with fail
  rw [← HW.out]
  clear HW x0 x1 f0 f1
  obtain ⟨x0, x1⟩ := cellsN HT.out.arg
  go_wp2_with fail
  refine (Lin.f28 q.na q.ns.length q.nc q.ns _ rfl (by omega) (HR.out.n.below HT.out.bel)).mono ?_
  rintro e v1 ⟨rfl, ho, hb⟩
  have hlt : w.heap.size + 2 < W1.heap.size := lt_at HT.out.out
  have HQn : Hid (v1.ownsRow w.heap.size 41 2 (.slice (some ⟨W1.heap.size, 0, none⟩) q.ns.length q.ns.length) q.ns.length (Lin.flat q.ns)) := own_base ho HT.out.bel.size
  have HGn := hid hlt
  have HPl := hid (own_below HQl.out hb)
  clear HQl
  have HU := hid (HT.out.mv hb)
  clear HT x0 x1 ho hb hlt
  obtain ⟨Sn, hS⟩ : ∃ S, S = W1.heap.size := ⟨_, rfl⟩
  rw [← hS] at HQn HGn ⊢
  clear hS
  have HQl := HPl
  clear HPl
  obtain ⟨x0, x1⟩ := cellsN HU.out.out
  obtain ⟨f0, f1⟩ := frozN HU.out.out
  have HT := hid (HU.out.s1 (.slice (some ⟨Sn, 0, none⟩) q.ns.length q.ns.length))
  have HQl' := hid (own_set HQl.out (p := ⟨w.heap.size + 2, 1, none⟩) (by have := HGl.out; simp only; omega) (.slice (some ⟨Sn, 0, none⟩) q.ns.length q.ns.length))
  clear HQl
  have HQn' := hid (own_set HQn.out (p := ⟨w.heap.size + 2, 1, none⟩) (by have := HGn.out; simp only; omega) (.slice (some ⟨Sn, 0, none⟩) q.ns.length q.ns.length))
  clear HQn
  obtain ⟨W2, hW⟩ : ∃ W, W = v1.setCell ⟨w.heap.size + 2, 1, none⟩ (.slice (some ⟨Sn, 0, none⟩) q.ns.length q.ns.length) := ⟨_, rfl⟩
  rw [← hW] at HT HQl' HQn'
  have HQl := HQl'
  clear HQl'
  have HQn := HQn'
  clear HQn'
  have HW := hid hW
  clear hW HU
  go_upto_region 4 with fail
  rw [← HW.out]
  clear HW x0 x1 f0 f1
  obtain ⟨x0, x1⟩ := cellsN HT.out.out
  obtain ⟨y0, y1⟩ := cellsN HT.out.res
  obtain ⟨f0, f1⟩ := frozN HT.out.res
  have HE : Hid (∀ x, x = (W2.setCell ⟨w.heap.size + 1, 0, none⟩ (.slice (some ⟨Sl, 0, none⟩) q.ls.length q.ls.length)).setCell ⟨w.heap.size + 1, 1, none⟩ (.slice (some ⟨Sn, 0, none⟩) q.ns.length q.ns.length) → x.heap[w.heap.size + 1]? = some (.cells #[.slice (some ⟨Sl, 0, none⟩) q.ls.length q.ls.length, .slice (some ⟨Sn, 0, none⟩) q.ns.length q.ns.length] 37) ∧ Below w.heap.size w x ∧ x.ownsRow w.heap.size 52 2 (.slice (some ⟨Sl, 0, none⟩) q.ls.length q.ls.length) q.ls.length (Lab.flat q.ls) ∧ x.ownsRow w.heap.size 41 2 (.slice (some ⟨Sn, 0, none⟩) q.ns.length q.ns.length) q.ns.length (Lin.flat q.ns)) := by
    rintro x rfl
    refine ⟨?_, Below.setCell (Below.setCell (HT.out.bel) (by simp) _) (by simp) _, own_set (own_set (HQl.out) (by have := HGl.out; simp only; omega) _) (by have := HGl.out; simp only; omega) _, own_set (own_set (HQn.out) (by have := HGn.out; simp only; omega) _) (by have := HGn.out; simp only; omega) _⟩
    have h0 : (W2.setCell ⟨w.heap.size + 1, 0, none⟩ (.slice (some ⟨Sl, 0, none⟩) q.ls.length q.ls.length)).heap[w.heap.size + 1]? = some (.cells #[.slice (some ⟨Sl, 0, none⟩) q.ls.length q.ls.length, .slice none 0 0] 37) := set_at HT.out.res
    have h1 : ((W2.setCell ⟨w.heap.size + 1, 0, none⟩ (.slice (some ⟨Sl, 0, none⟩) q.ls.length q.ls.length)).setCell ⟨w.heap.size + 1, 1, none⟩ (.slice (some ⟨Sn, 0, none⟩) q.ns.length q.ns.length)).heap[w.heap.size + 1]? = some (.cells #[.slice (some ⟨Sl, 0, none⟩) q.ls.length q.ls.length, .slice (some ⟨Sn, 0, none⟩) q.ns.length q.ns.length] 37) := set_at h0
    exact h1
  go_wp2
  revert HE
  generalize hwf : World.setCell _ _ _ = wf
  intro HE
  obtain ⟨k1, k2, kl, kn⟩ := HE.out wf (by rw [← hwf])
  obtain ⟨r0, r1⟩ := cellsN k1
  refine bodyPost_ret (v := .agg #[.slice (some ⟨Sl, 0, none⟩) q.ls.length q.ls.length, .slice (some ⟨Sn, 0, none⟩) q.ns.length q.ns.length]) (by simp [results, Try.results14, go_sem, r0, r1]) rfl ⟨⟨q.ls, some ⟨Sl, 0, none⟩, q.ls.length, q.ns, some ⟨Sn, 0, none⟩, q.ns.length⟩, rfl, rfl, ⟨⟨Sl, rfl, by have := HGl.out; omega, (kl.lt Sl rfl).2, kl⟩, ⟨Sn, rfl, by have := HGn.out; omega, (kn.lt Sn rfl).2, kn⟩⟩, k2⟩

theorem infoT : (Try.prog.info? 37).map (fun i => (i.zero, i.size, i.bytes)) = some (some (.agg #[.slice none 0 0, .slice none 0 0]), 2, 48) := by kernel_rfl
theorem step_set (d : List T) (n k : Nat) (q : T) (hd : d.length = k) (hk : k < n) : (d ++ List.replicate (n - k) t0).set k q = (d ++ [q]) ++ List.replicate (n - (k + 1)) t0 := by
  rw [List.set_append_right _ _ (by omega), hd, Nat.sub_self, show n - k = (n - (k + 1)) + 1 from by omega, List.replicate_succ, List.set_cons_zero, List.append_assoc]
  rfl
theorem getD_snoc (d : List T) (q : T) (i : Nat) : (d ++ [q]).getD i t0 = if i = d.length then q else d.getD i t0 := by
  rw [List.getD_eq_getElem?_getD, List.getD_eq_getElem?_getD]
  by_cases h : i < d.length
  · rw [List.getElem?_append_left h, if_neg (by omega)]
  · rw [List.getElem?_append_right (by omega)]
    by_cases e : i = d.length
    · rw [if_pos e, e, Nat.sub_self]; rfl
    · rw [if_neg e, List.getElem?_eq_none (by simp; omega), List.getElem?_eq_none (by omega)]
/-- The first k of a list lie in memory of their own, one behind the other: the i-th from Z i on and below Z (i + 1). -/
structure Owns (X B k : Nat) (Z : Nat → Nat) (d : List T) (w : World) : Prop where
  len : d.length = k
  low : B < Z 0
  up : ∀ i, i < k → Z i ≤ Z (i + 1)
  own : ∀ i, i < k → Own1 X (Z i) (Z (i + 1)) (d.getD i t0) w
  top : Z k ≤ w.heap.size
theorem Owns.zle {X B k : Nat} {Z : Nat → Nat} {d : List T} {w : World} (h : Owns X B k Z d w) : ∀ j i, i ≤ j → j ≤ k → Z i ≤ Z j := by
  intro j
  induction j with
  | zero => intro i hi _; rw [show i = 0 by omega]; exact Nat.le_refl _
  | succ j ih =>
    intro i hi hj
    by_cases e : i = j + 1
    · rw [e]; exact Nat.le_refl _
    · exact Nat.le_trans (ih i (by omega) (by omega)) (h.up j (by omega))
theorem Owns.below {X B k : Nat} {Z : Nat → Nat} {d : List T} {w w' : World} (h : Owns X B k Z d w) (hb : Below w.heap.size w w') : Owns X B k Z d w' := ⟨h.len, h.low, h.up, fun i hi => (h.own i hi).below hb, Nat.le_trans h.top hb.size⟩
theorem Owns.set {X B k : Nat} {Z : Nat → Nat} {d : List T} {w : World} (h : Owns X B k Z d w) (o : Nat) (v : Value) : Owns X B k Z d (w.setCell ⟨B, o, none⟩ v) :=
  ⟨h.len, h.low, h.up, fun i hi => (h.own i hi).set (.inl (Nat.lt_of_lt_of_le h.low (h.zle i 0 (Nat.zero_le _) (by omega)))) v, by simpa using h.top⟩
theorem Owns.snoc {X B k U : Nat} {Z : Nat → Nat} {d : List T} {w : World} {q : T} (h : Owns X B k Z d w) (h1 : Own1 X (Z k) U q w) (hU : Z k ≤ U) (hW : U ≤ w.heap.size) : Owns X B (k + 1) (fun i => if i ≤ k then Z i else U) (d ++ [q]) w := by
  have hl := h.len
  refine ⟨by simp [hl], by simpa using h.low, fun i hi => ?_, fun i hi => ?_, ?_⟩
  · show (if i ≤ k then Z i else U) ≤ (if i + 1 ≤ k then Z (i + 1) else U)
    rw [if_pos (show i ≤ k by omega)]
    by_cases e : i = k
    · subst e; rw [if_neg (show ¬ i + 1 ≤ i by omega)]; exact hU
    · rw [if_pos (show i + 1 ≤ k by omega)]; exact h.up i (by omega)
  · show Own1 X (if i ≤ k then Z i else U) (if i + 1 ≤ k then Z (i + 1) else U) ((d ++ [q]).getD i t0) w
    rw [if_pos (show i ≤ k by omega), getD_snoc]
    by_cases e : i = k
    · subst e
      rw [if_neg (show ¬ i + 1 ≤ i by omega), if_pos hl.symm]
      exact h1
    · rw [if_pos (show i + 1 ≤ k by omega), if_neg (show ¬ i = d.length by omega)]
      exact h.own i (by omega)
  · show (if k + 1 ≤ k then Z (k + 1) else U) ≤ w.heap.size
    rw [if_neg (show ¬ k + 1 ≤ k by omega)]
    exact hW
/-- A list at block g, all of it in memory of its own from X on. -/
structure OwnT (X g n : Nat) (ts : List T) (w : World) : Prop where
  row : w.ownsRow X 37 2 (.slice (some ⟨g, 0, none⟩) n n) n (flat ts)
  kin : ∃ Z, Owns X g n Z ts w
theorem OwnT.below {X g n : Nat} {ts : List T} {w w' : World} (h : OwnT X g n ts w) (hb : Below w.heap.size w w') : OwnT X g n ts w' := by
  obtain ⟨Z, hZ⟩ := h.kin
  exact ⟨own_below h.row hb, Z, hZ.below hb⟩
theorem OwnT.len {X g n : Nat} {ts : List T} {w : World} (h : OwnT X g n ts w) : ts.length = n := by obtain ⟨Z, hZ⟩ := h.kin; exact hZ.len
theorem OwnT.has {X g n : Nat} {ts : List T} {w : World} (h : OwnT X g n ts w) : Has w (some ⟨g, 0, none⟩) ts := by
  obtain ⟨Z, hZ⟩ := h.kin
  have hl := h.row.1
  rw [flat_len] at hl
  refine .inr ⟨g, 0, rfl, (h.row.lt g rfl).2, fun i hi => ⟨fun j hj => ?_, (hZ.own i (by rw [← hZ.len]; exact hi)).lst⟩⟩
  rw [Nat.zero_add]
  exact (h.row.cellAt (i * 2 + j) (by omega)).trans (flat_get ts i j hi hj)
theorem Same.snoc {k : Nat} {ts d : List T} {q : T} (h : Same k ts d) (hd : d.length = k) (h1 : pl q = pl (ts.getD k t0)) : Same (k + 1) ts (d ++ [q]) := by
  intro i hi
  rw [getD_snoc]
  by_cases e : i = d.length
  · rw [if_pos e, e, hd]; exact h1
  · rw [if_neg e]; exact h i (by omega)

set_option maxHeartbeats 4000000 in
theorem f6 (a : Option Addr) (n c : Nat) (ts : List T) (w : World) (hn : ts.length = n) (hb : n ≤ 1048576) (hr : Has w a ts) (hz : Sml ts) :
    Calls Try.prog 6 #[.slice a n c] w fun e w' => ∃ ts' : List T, e = .returned (.slice (some ⟨w.heap.size, 0, none⟩) n n) ∧ Same n ts ts' ∧ OwnT w.heap.size w.heap.size n ts' w' ∧ Below w.heap.size w w' := by
  obtain ⟨i0, hi, hz0, hz1, hz2⟩ := info_parts infoT
  have HN := hid hn
  have HR := hid hr
  have HZ := hid hz
  clear hn hr hz
  go_enter Try.func6, Try.ntmps6
  go_wp2_with (at_make; refine wpList_make_full _ rfl _ _ 25 rfl w.heap.size 37 i0 (.agg #[.slice none 0 0, .slice none 0 0]) 2 Try.underlying25 hi hz0 hz1 _ _ _ _ n rfl rfl rfl rfl ?b2 ?b3 (Nat.le_refl _) ?_)
  case b2 => rw [hz2]; omega
  case b3 => unfold maxLen; omega
  intro w0 hown0 hgrow0
  have hown1 : Hid (w0.ownsRow w.heap.size 37 2 (.slice (some ⟨w.heap.size, 0, none⟩) n n) n (flat (List.replicate n t0))) := by
    rw [← made]; exact hown0
  have hb0 := hid ((Below.refl w.heap.size w).grown hgrow0 (Nat.le_refl _) (fun k h => by cases h))
  have HO0 : Hid (Owns w.heap.size w.heap.size 0 (fun _ => w0.heap.size) [] w0) := ⟨rfl, (hown1.out.lt w.heap.size rfl).2, fun i hi => by omega, fun i hi => by omega, Nat.le_refl _⟩
  clear hown0 hgrow0
  go_wp2
  go_loopw [4] (fun i wr => ∃ (k : Nat) (d : List T), k ≤ n ∧ i = .int .i64 k ∧ Hid (Same k ts d) ∧ Hid (∃ Z, Owns w.heap.size w.heap.size k Z d wr) ∧ Hid (wr.ownsRow w.heap.size 37 2 (.slice (some ⟨w.heap.size, 0, none⟩) n n) n (flat (d ++ List.replicate (n - k) t0))) ∧ Hid (Below w.heap.size w wr))
    (fun i _ => n - (intOf i).toNat)
  case atStart => exact ⟨0, [], Nat.zero_le _, rfl, fun i hi => by omega, ⟨_, HO0.out⟩, by unfold Hid; simpa using hown1.out, hb0.out⟩
  case round =>
    obtain ⟨k, d, hk, rfl, HSm, HZ1, HO, HX⟩ := hrel
    have HLN : Hid (d.length = k) := by obtain ⟨Z, hZ⟩ := HZ1.out; exact hZ.len
    by_cases hlt : k < n
    · obtain ⟨b, off, rfl, hbl, hc, hT1⟩ := (HR.out).at2 k (by rw [HN.out]; exact hlt)
      obtain ⟨d0, d1⟩ := (hc.below HX.out hbl).all
      have HT1 := hid (hT1.below HX.out)
      have HS := hid (HZ.out k (by rw [HN.out]; exact hlt))
      obtain ⟨q, hq⟩ : ∃ q, q = ts.getD k t0 := ⟨_, rfl⟩
      have HQ := hid hq
      rw [← hq] at d0 d1 HT1 HS
      clear hc hT1 hbl hq
      go_wp2_with fail
      refine (f14 q _ HT1.out HS.out).mono ?_
      rintro e w2 ⟨q', rfl, hp, ho2, hb2⟩
      have HO2 := hid (own_below HO.out hb2)
      have HX2 := hid (HX.out.trans (hb2.mono HX.out.size))
      have HZ2 : Hid (∃ Z, Owns w.heap.size w.heap.size (k + 1) Z (d ++ [q']) w2) := by
        obtain ⟨Z, hZ⟩ := HZ1.out
        have h1 := hZ.top
        have h2 := hb2.size
        exact ⟨_, (hZ.below hb2).snoc (ho2.wide HX.out.size (by omega) (Nat.le_refl _)) (by omega) (Nat.le_refl _)⟩
      have HL : Hid ((d ++ List.replicate (n - k) t0).length = n) := by unfold Hid; have := HLN.out; simp; omega
      have HSn := hid (HSm.out.snoc HLN.out (hp.trans (by rw [← HQ.out])))
      have gg := fun j hj => flat_get (d ++ List.replicate (n - k) t0) k j (by rw [HL.out]; exact hlt) hj
      have z0 := (HO2.out.cellAt (k * 2) (by omega)).trans (gg 0 (by omega))
      have f0 := HO2.out.frozenAt (k * 2)
      have z1 := (HO2.out.cellAt (k * 2 + 1) (by omega)).trans (gg 1 (by omega))
      have f1 := HO2.out.frozenAt (k * 2 + 1)
      simp only [cl, List.getElem?_cons_zero, List.getElem?_cons_succ] at z0 z1
      have HE : Hid (∀ wz, wz = (w2.setCell ⟨w.heap.size, k * 2, none⟩ (.slice q'.la q'.ls.length q'.lc)).setCell ⟨w.heap.size, k * 2 + 1, none⟩ (.slice q'.na q'.ns.length q'.nc) → (∃ Z, Owns w.heap.size w.heap.size (k + 1) Z (d ++ [q']) wz) ∧ wz.ownsRow w.heap.size 37 2 (.slice (some ⟨w.heap.size, 0, none⟩) n n) n (flat ((d ++ [q']) ++ List.replicate (n - (k + 1)) t0)) ∧ Below w.heap.size w wz) := by
        rintro wz rfl
        obtain ⟨Z, hZ⟩ := HZ2.out
        refine ⟨⟨Z, ((hZ.set _ _).set _ _)⟩, ?_, ((HX2.out.setCell (Nat.le_refl _) _).setCell (Nat.le_refl _) _)⟩
        rw [← step_set d n k _ HLN.out hlt, ← flat_set _ k _ (by rw [HL.out]; exact hlt)]
        exact ((HO2.out.stored (k * 2) _).1.stored (k * 2 + 1) _).1
      clear hb2 ho2 hp HO HT1 HO2 HX2 HZ2 HX HZ1 HSm d0 d1 gg
      go_wp2
      go_roundw
      case rel =>
        obtain ⟨e1, e2, e3⟩ := HE.out _ rfl
        exact ⟨k + 1, _, by omega, by go_num, HSn.out, e1, e2, e3⟩
      case measure => simp [intOf]; omega
    · obtain rfl : k = n := by omega
      have HE : Hid (OwnT w.heap.size w.heap.size k d wr) := by
        have h := HO.out
        rw [Nat.sub_self, List.replicate_zero, List.append_nil] at h
        exact ⟨h, HZ1.out⟩
      go_wp2
      go_ret
      exact ⟨d, rfl, HSm.out, HE.out, HX.out⟩

set_option maxHeartbeats 4000000 in
theorem f19 (q q' : T) (w : World) (hp : pl q' = pl q) (hs : wt q ≤ 1048576) (hl : Lst w q) (hl' : Lst w q') :
    Calls Try.prog 19 #[agT q, agT q'] w fun e w' => e = .returned (.bool true) ∧ Below w.heap.size w w' := by
  obtain ⟨ls, la, lc, ns, na, nc⟩ := q
  obtain ⟨ls', la', lc', ns', na', nc'⟩ := q'
  simp only [pl, Pl.mk.injEq] at hp
  obtain ⟨rfl, rfl⟩ := hp
  unfold wt at hs
  simp only at hs
  have HB := hid (((Below.refl w.heap.size w).alloc (Nat.le_refl _) (.cells #[.slice la ls'.length lc, .slice na ns'.length nc] 37)).alloc (by simp) (.cells #[.slice la' ls'.length lc', .slice na' ns'.length nc'] 37))
  have HA : Hid (((w.alloc (.cells #[.slice la ls'.length lc, .slice na ns'.length nc] 37)).alloc (.cells #[.slice la' ls'.length lc', .slice na' ns'.length nc'] 37)).heap[w.heap.size]? = some (.cells #[.slice la ls'.length lc, .slice na ns'.length nc] 37)) := kept (heap_alloc_new w _) ((Below.refl _ _).alloc (Nat.le_refl _) _)
  have HC : Hid (((w.alloc (.cells #[.slice la ls'.length lc, .slice na ns'.length nc] 37)).alloc (.cells #[.slice la' ls'.length lc', .slice na' ns'.length nc'] 37)).heap[w.heap.size + 1]? = some (.cells #[.slice la' ls'.length lc', .slice na' ns'.length nc'] 37)) := by
    have := heap_alloc_new (w.alloc (.cells #[.slice la ls'.length lc, .slice na ns'.length nc] 37)) (.cells #[.slice la' ls'.length lc', .slice na' ns'.length nc'] 37)
    unfold Hid
    simpa using this
  have HR := hid hl
  have HR' := hid hl'
  clear hl hl'

  obtain ⟨W0, hW⟩ : ∃ W, W = ((w.alloc (.cells #[.slice la ls'.length lc, .slice na ns'.length nc] 37)).alloc (.cells #[.slice la' ls'.length lc', .slice na' ns'.length nc'] 37)) := ⟨_, rfl⟩
  rw [← hW] at HA HC HB
  have HW := hid hW
  clear hW
  simp only [agT]
  go_enter Try.func19, Try.ntmps19
  go_upto_region 1 with fail
  rw [← HW.out]
  clear HW
  obtain ⟨x0, x1⟩ := cellsN HA.out
  obtain ⟨y0, y1⟩ := cellsN HC.out
  go_wp2_with fail
  refine (Lbw.f36 la la' ls'.length lc lc' ls' _ rfl (by omega) (HR.out.l.below HB.out) (HR'.out.l.below HB.out)).mono ?_
  rintro e Wl ⟨rfl, hb⟩
  have HA' := hid (kept HA.out hb)
  have HC' := hid (kept HC.out hb)
  have HB' := hid (HB.out.trans (hb.mono HB.out.size))
  clear HA HC HB hb x0 x1 y0 y1
  have HA := HA'
  have HC := HC'
  have HB := HB'
  clear HA' HC' HB'
  obtain ⟨x0, x1⟩ := cellsN HA.out
  obtain ⟨y0, y1⟩ := cellsN HC.out
  go_wp2_with fail
  refine (Lin.f37 na na' ns'.length nc nc' ns' _ rfl (by omega) (HR.out.n.below HB.out) (HR'.out.n.below HB.out)).mono ?_
  rintro e Wn ⟨rfl, hb⟩
  have HA' := hid (kept HA.out hb)
  have HC' := hid (kept HC.out hb)
  have HB' := hid (HB.out.trans (hb.mono HB.out.size))
  clear HA HC HB hb x0 x1 y0 y1
  have HA := HA'
  have HC := HC'
  have HB := HB'
  clear HA' HC' HB'
  obtain ⟨x0, x1⟩ := cellsN HA.out
  obtain ⟨y0, y1⟩ := cellsN HC.out
  go_wp2
  go_ret
  exact ⟨rfl, HB.out⟩
/-- Two entries' cells, and what they hold; all that was there is as it was. -/
abbrev EE (w : World) (q q' : T) (b o b' o' : Nat) (x : World) : Prop :=
  x.cell? ⟨b, o, none⟩ = some (.slice q.la q.ls.length q.lc) ∧ x.cell? ⟨b, o + 1, none⟩ = some (.slice q.na q.ns.length q.nc) ∧ x.cell? ⟨b', o', none⟩ = some (.slice q'.la q'.ls.length q'.lc) ∧ x.cell? ⟨b', o' + 1, none⟩ = some (.slice q'.na q'.ns.length q'.nc) ∧ Lst x q ∧ Lst x q' ∧ b < x.heap.size ∧ b' < x.heap.size ∧ Below w.heap.size w x
theorem EE.below {w : World} {q q' : T} {b o b' o' : Nat} {x y : World} (h : EE w q q' b o b' o' x) (hb : Below x.heap.size x y) : EE w q q' b o b' o' y := by
  obtain ⟨h0, h1, k0, k1, t1, t3, l1, l2, hw⟩ := h
  have e1 : ∀ j, y.cell? ⟨b, j, none⟩ = x.cell? ⟨b, j, none⟩ := fun j => hb.cell (by exact l1)
  have e2 : ∀ j, y.cell? ⟨b', j, none⟩ = x.cell? ⟨b', j, none⟩ := fun j => hb.cell (by exact l2)
  exact ⟨(e1 _).trans h0, (e1 _).trans h1, (e2 _).trans k0, (e2 _).trans k1, t1.below hb, t3.below hb, Nat.lt_of_lt_of_le l1 hb.size, Nat.lt_of_lt_of_le l2 hb.size, hw.trans (hb.mono hw.size)⟩
theorem EE.drew {w : World} {q q' : T} {b o b' o' : Nat} {x : World} (h : EE w q q' b o b' o' x) : EE w q q' b o b' o' x.drew := h.below (Below.refl _ x).drew
theorem EE.t1 {w : World} {q q' : T} {b o b' o' : Nat} {x : World} (h : EE w q q' b o b' o' x) : Lst x q := h.2.2.2.2.1
theorem EE.t3 {w : World} {q q' : T} {b o b' o' : Nat} {x : World} (h : EE w q q' b o b' o' x) : Lst x q' := h.2.2.2.2.2.1
theorem EE.bel {w : World} {q q' : T} {b o b' o' : Nat} {x : World} (h : EE w q q' b o b' o' x) : Below w.heap.size w x := h.2.2.2.2.2.2.2.2
set_option maxHeartbeats 4000000 in
theorem f8 (a a' : Option Addr) (n c c' : Nat) (ts ts' : List T) (w : World) (hn : ts.length = n) (hn' : ts'.length = n) (hb : n ≤ 1048576) (hr : Has w a ts) (hr' : Has w a' ts') (hs : Same n ts ts') (hz : Sml ts) :
    Calls Try.prog 8 #[.slice a n c, .slice a' n c'] w fun e w' => e = .returned (.bool true) ∧ Below w.heap.size w w' := by
  have HN := hid hn
  have HN' := hid hn'
  have HR := hid hr
  have HR' := hid hr'
  have HS := hid hs
  have HZ := hid hz
  clear hn hn' hr hr' hs hz
  go_enter Try.func8, Try.ntmps8
  go_wp2
  go_loopw [5] (fun i wr => ∃ k : Nat, k ≤ n ∧ i = .int .i64 k ∧ Hid (Below w.heap.size w wr)) (fun i _ => n - (intOf i).toNat)
  case atStart => exact ⟨0, Nat.zero_le _, rfl, Below.refl _ _⟩
  case round =>
    obtain ⟨k, hk, rfl, HX⟩ := hrel
    by_cases hlt : k < n
    · obtain ⟨b, off, rfl, hbl, hc, t1⟩ := (HR.out.below HX.out).at2 k (by rw [HN.out]; exact hlt)
      obtain ⟨b', off', rfl, hbl', hc', t1'⟩ := (HR'.out.below HX.out).at2 k (by rw [HN'.out]; exact hlt)
      have HP := hid (HS.out k hlt)
      have HL := hid (HZ.out k (by rw [HN.out]; exact hlt))
      generalize ts.getD k t0 = q at *
      generalize ts'.getD k t0 = q' at *
      obtain ⟨h0, h1⟩ := hc.all
      obtain ⟨k0, k1⟩ := hc'.all
      have HE : Hid (EE w q q' b (off + k * 2) b' (off' + k * 2) wr) := ⟨h0, h1, k0, k1, t1, t1', hbl, hbl', HX.out⟩
      clear hc hc' t1 t1' hbl hbl' h0 h1 k0 k1
      have i1 : (k : Int) < (n : Int) := by omega
      go_wp2_with fail
      go_region_held3 (fun x => EE w q q' b (off + k * 2) b' (off' + k * 2) x) (first | exact HE.out.drew | assumption) (first | (go_at_call 19; refine (f19 q q' _ HP.out HL.out (EE.t1 (by assumption)) (EE.t3 (by assumption))).mono ?_; rintro e w2 ⟨rfl, hb2⟩; have hs2 := EE.below (by assumption) hb2; clear hb2))
      have HX2 := hid hs2.bel
      clear hs2
      go_wp2
      go_roundw
      case rel => exact ⟨k + 1, by omega, by go_num, HX2.out⟩
      case measure => simp [intOf]; omega
    · go_wp2
      go_ret
      exact ⟨rfl, HX.out⟩
end Go.Proofs.Ytaanafejhgijnaa.Stm
