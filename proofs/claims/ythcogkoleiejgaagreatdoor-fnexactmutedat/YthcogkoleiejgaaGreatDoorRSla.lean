/- Lists of silences: how they lie in memory; measured, copied, compared. -/
import Derived.Test.YthcogkoleiejgaaGreatDoorRRwc
namespace Go.Proofs.YthcogkoleiejgaaGreatDoor.Sln
open Go.RowKit
open Go.Proofs.YthcogkoleiejgaaGreatDoor.Pat (Mt HasM)
open Go.Proofs.YthcogkoleiejgaaGreatDoor.Fil (HasT)
open Go.Proofs.YthcogkoleiejgaaGreatDoor.Rwc

structure T where
  s : ByteArray
  ls : List Mt
  la : Option Addr
  lc : Nat
  f : Int
  t : Int
structure Pl where
  s : ByteArray
  ls : List Mt
  f : Int
  t : Int
def pl (q : T) : Pl := ⟨q.s, q.ls, q.f, q.t⟩
def t0 : T := ⟨ByteArray.empty, [], none, 0, 0, 0⟩
instance : Inhabited T := ⟨t0⟩
def cl (q : T) : List Value := [.string q.s, .slice q.la q.ls.length q.lc, .int .i64 q.f, .int .i64 q.t]
abbrev arT (q : T) : Array Value := #[.string q.s, .slice q.la q.ls.length q.lc, .int .i64 q.f, .int .i64 q.t]
abbrev agT (q : T) : Value := .agg #[.string q.s, .slice q.la q.ls.length q.lc, .int .i64 q.f, .int .i64 q.t]
def flat (L : List T) : List Value := L.flatMap cl
theorem cl_len (q : T) : (cl q).length = 4 := rfl
theorem flat_cons (q : T) (L : List T) : flat (q :: L) = cl q ++ flat L := rfl
theorem flat_append (L K : List T) : flat (L ++ K) = flat L ++ flat K := by simp [flat]
theorem flat_len (L : List T) : (flat L).length = L.length * 4 := by
  induction L with
  | nil => rfl
  | cons q L ih => rw [flat_cons, List.length_append, ih, cl_len, List.length_cons]; omega
theorem flat_get : ∀ (L : List T) (i j : Nat), i < L.length → j < 4 → (flat L)[i * 4 + j]? = (cl (L.getD i t0))[j]? := by
  intro L
  induction L with
  | nil => intro i j h; simp at h
  | cons p L ih =>
    intro i j h hj
    cases i with
    | zero => rw [flat_cons, Nat.zero_mul, Nat.zero_add, List.getElem?_append_left (by rw [cl_len]; exact hj)]; rfl
    | succ i =>
      have := ih i j (by simpa using h) hj
      rw [flat_cons, show (i + 1) * 4 + j = i * 4 + j + 4 by omega, List.getElem?_append_right (by rw [cl_len]; omega), cl_len, Nat.add_sub_cancel, this]
      rfl
theorem flat_set : ∀ (L : List T) (i : Nat) (q : T), i < L.length → ((((flat L).set (i * 4) (.string q.s)).set (i * 4 + 1) (.slice q.la q.ls.length q.lc)).set (i * 4 + 2) (.int .i64 q.f)).set (i * 4 + 3) (.int .i64 q.t) = flat (L.set i q) := by
  intro L
  induction L with
  | nil => intro i q h; simp at h
  | cons p L ih =>
    intro i q h
    cases i with
    | zero => rfl
    | succ i =>
      have := ih i q (by simpa using h)
      rw [flat_cons, List.set_cons_succ, flat_cons, ← this]
      rw [show (i + 1) * 4 = i * 4 + 4 by omega]
      simp only [cl, List.cons_append, List.nil_append, List.set_cons_succ, show i * 4 + 4 + 1 = i * 4 + 1 + 4 from by omega, show i * 4 + 4 + 2 = i * 4 + 2 + 4 from by omega, show i * 4 + 4 + 3 = i * 4 + 3 + 4 from by omega]
theorem made (n : Nat) : (madeCells #[.string ⟨#[]⟩, .slice none 0 0, .int .i64 0, .int .i64 0] (n * 4)).toList = flat (List.replicate n t0) := by
  apply List.ext_getElem?
  intro j
  by_cases hj : j < n * 4
  · have hl : j / 4 < (List.replicate n t0).length := by simp; omega
    have h2 : (List.replicate n t0).getD (j / 4) t0 = t0 := by
      rw [List.getD_eq_getElem?_getD, List.getElem?_replicate]; split <;> rfl
    have g := flat_get _ (j / 4) (j % 4) hl (by omega)
    rw [h2, show j / 4 * 4 + j % 4 = j by omega] at g
    rw [g]
    unfold madeCells
    have hm : j % 4 < 4 := by omega
    simp [hj]
    generalize j % 4 = r at *
    rcases (show r = 0 ∨ r = 1 ∨ r = 2 ∨ r = 3 by omega) with rfl | rfl | rfl | rfl <;> rfl
  · rw [List.getElem?_eq_none (by simp [size_madeCells]; omega), List.getElem?_eq_none (by rw [flat_len]; simp; omega)]
/-- The cells of one. -/
def Cells (w : World) (b o : Nat) (q : T) : Prop := ∀ j, j < 4 → w.cell? ⟨b, o + j, none⟩ = (cl q)[j]?
theorem Cells.below {w w' : World} {b o : Nat} {q : T} (h : Cells w b o q) (hb : Below w.heap.size w w') (hl : b < w.heap.size) : Cells w' b o q := fun j hj => (hb.cell (by exact hl)).trans (h j hj)
theorem Cells.all {w : World} {b o : Nat} {q : T} (h : Cells w b o q) : w.cell? ⟨b, o, none⟩ = some (.string q.s) ∧ w.cell? ⟨b, o + 1, none⟩ = some (.slice q.la q.ls.length q.lc) ∧ w.cell? ⟨b, o + 2, none⟩ = some (.int .i64 q.f) ∧ w.cell? ⟨b, o + 3, none⟩ = some (.int .i64 q.t) :=
  ⟨h 0 (by omega), h 1 (by omega), h 2 (by omega), h 3 (by omega)⟩
theorem cellsN {x : World} {b : Nat} {v0 v1 v2 v3 : Value} {t : TypeId} (h : x.heap[b]? = some (.cells #[v0, v1, v2, v3] t)) : x.cell? ⟨b, 0, none⟩ = some v0 ∧ x.cell? ⟨b, 1, none⟩ = some v1 ∧ x.cell? ⟨b, 2, none⟩ = some v2 ∧ x.cell? ⟨b, 3, none⟩ = some v3 :=
  ⟨cell_at h 0, cell_at h 1, cell_at h 2, cell_at h 3⟩
theorem frozN {x : World} {b : Nat} {v0 v1 v2 v3 : Value} {t : TypeId} (h : x.heap[b]? = some (.cells #[v0, v1, v2, v3] t)) : x.frozen? ⟨b, 0, none⟩ = false ∧ x.frozen? ⟨b, 1, none⟩ = false ∧ x.frozen? ⟨b, 2, none⟩ = false ∧ x.frozen? ⟨b, 3, none⟩ = false :=
  ⟨froz_at h 0, froz_at h 1, froz_at h 2, froz_at h 3⟩
/-- What its lists hold. -/
structure Lst (w : World) (q : T) : Prop where
  l : HasM w q.la q.ls
theorem Lst.below {w w' : World} {q : T} (h : Lst w q) (hb : Below w.heap.size w w') : Lst w' q := ⟨h.l.below hb⟩
def Has (w : World) (a : Option Addr) (ts : List T) : Prop :=
  ts = [] ∨ ∃ b off, a = some ⟨b, off, none⟩ ∧ b < w.heap.size ∧ ∀ i, i < ts.length → Cells w b (off + i * 4) (ts.getD i t0) ∧ Lst w (ts.getD i t0)
theorem Has.below {w w' : World} {a : Option Addr} {ts : List T} (h : Has w a ts) (hb : Below w.heap.size w w') : Has w' a ts := by
  rcases h with h | ⟨b, off, h1, h2, h3⟩
  · exact .inl h
  · exact .inr ⟨b, off, h1, Nat.lt_of_lt_of_le h2 hb.size, fun i hi => ⟨(h3 i hi).1.below hb h2, (h3 i hi).2.below hb⟩⟩
theorem Has.at2 {w : World} {a : Option Addr} {ts : List T} (h : Has w a ts) (i : Nat) (hi : i < ts.length) : ∃ b off, a = some ⟨b, off, none⟩ ∧ b < w.heap.size ∧ Cells w b (off + i * 4) (ts.getD i t0) ∧ Lst w (ts.getD i t0) := by
  rcases h with h | ⟨b, off, h1, h2, h3⟩
  · rw [h] at hi; simp at hi
  · exact ⟨b, off, h1, h2, h3 i hi⟩
/-- All texts and numbers are such as a machine can hold. -/
structure Ft (q : T) : Prop where
  s : q.s.size ≤ maxLen
  l : Pat.FitM q.ls ∧ q.ls.length ≤ maxLen
  f : In64 q.f
  t : In64 q.t
def Fit (ts : List T) : Prop := ∀ i, Ft (ts.getD i t0)
/-- How many items its lists have. -/
def wt (q : T) : Nat := q.ls.length
def tot (ts : List T) : Nat → Nat
  | 0 => 0
  | k + 1 => tot ts k + wt (ts.getD k t0)
def Sml (ts : List T) : Prop := ∀ i, i < ts.length → wt (ts.getD i t0) ≤ 1048576
theorem tot_mono (ts : List T) : ∀ (k j : Nat), j ≤ k → tot ts j ≤ tot ts k := by
  intro k
  induction k with
  | zero => intro j h; rw [show j = 0 by omega]; exact Nat.le_refl _
  | succ k ih =>
    intro j h
    by_cases e : j = k + 1
    · rw [e]; exact Nat.le_refl _
    · have := ih j (by omega)
      simp only [tot]; omega
theorem sml_tot {ts : List T} (h : tot ts ts.length ≤ 1048576) : Sml ts := by
  intro i hi
  have := tot_mono ts ts.length (i + 1) hi
  simp only [tot] at this
  omega
def Same (n : Nat) (ts ts' : List T) : Prop := ∀ i, i < n → pl (ts'.getD i t0) = pl (ts.getD i t0)

set_option maxHeartbeats 4000000 in
theorem f50 (q : T) (L : Int) (w : World) (hL0 : 0 ≤ L) (hL1 : L ≤ 1048576) (hr : Lst w q) (hf : Ft q) :
    Calls Tryz.prog 50 #[agT q, .int .i64 L] w fun e w' => ∃ y : Int, e = .returned (.int .i64 y) ∧ -1 ≤ y ∧ y ≤ L ∧ (0 ≤ y → wt q + y ≤ L) ∧ Below w.heap.size w w' := by
  have HB0 := hid ((Below.refl w.heap.size w).alloc (Nat.le_refl _) (.cells (arT q) 95))
  have HX0 := hid (heap_alloc_new w (.cells (arT q) 95))
  have HR := hid hr
  have HF := hid hf
  have hts : q.s.size ≤ maxLen := hf.s
  unfold maxLen at hts
  clear hr hf
  obtain ⟨W0, hW⟩ : ∃ W, W = w.alloc (.cells (arT q) 95) := ⟨_, rfl⟩
  rw [← hW] at HB0 HX0
  have HW := hid hW
  clear hW
  simp only [agT]
  go_enter Tryz.func50, Tryz.ntmps50
  go_upto_region 1 with fail
  rw [← HW.out]
  clear HW
  obtain ⟨y, hy⟩ : ∃ y : Int, y = L := ⟨_, rfl⟩
  have HY0 : Hid (0 + y ≤ L) := by unfold Hid; omega
  have hy0 : 0 ≤ y := by omega
  have hyL : y ≤ L := by omega
  rw [← hy]
  have HLY := hid hyL
  clear hy
  obtain ⟨c0, c1, c2, c3⟩ := cellsN HX0.out
  by_cases gs : y < q.s.size
  · go_wp2
    go_ret
    exact ⟨-1, rfl, by omega, by omega, fun h => absurd h (by omega), HB0.out⟩
  clear c0 c1 c2 c3
  obtain ⟨c0, c1, c2, c3⟩ := cellsN HX0.out
  go_wp2_with fail
  refine (Rwc.f82u q.la q.ls.length q.lc (y - q.s.size) q.ls _ (by omega) (by omega) rfl (HR.out.l.below HB0.out) HF.out.l.1 HF.out.l.2).mono ?_
  rintro e w1 ⟨u1, rfl, u1l, u1h, hu, hb⟩
  have HB1 := hid (HB0.out.trans (hb.mono HB0.out.size))
  have HX1 := hid (kept HX0.out hb)
  have HU1 := hid hu
  clear hb hu c0 c1 c2 c3
  by_cases g1 : u1 < 0
  · go_wp2
    go_ret
    exact ⟨-1, rfl, by omega, by omega, fun h => absurd h (by omega), HB1.out⟩
  have HV1 := hid (HU1.out (by omega))
  go_wp2
  go_ret
  exact ⟨u1, rfl, by omega, by omega, fun _ => by have := HV1.out; unfold wt; omega, HB1.out⟩

set_option maxHeartbeats 2000000 in
theorem f20 (a : Option Addr) (n c : Nat) (L : Int) (ts : List T) (w : World) (hL0 : 0 ≤ L) (hL1 : L ≤ 1048576) (hn : ts.length = n) (hr : Has w a ts) (hf : Fit ts) (hmax : n ≤ maxLen) :
    Calls Tryz.prog 20 #[.slice a n c, .int .i64 L] w fun e w' => ∃ y : Int, e = .returned (.int .i64 y) ∧ -1 ≤ y ∧ y ≤ L ∧ (0 ≤ y → n + tot ts n + y ≤ L) ∧ Below w.heap.size w w' := by
  unfold maxLen at hmax
  by_cases hbig : n ≤ L
  · have HN := hid hn
    have HR := hid hr
    have HF := hid hf
    clear hn hr hf
    go_enter Tryz.func20, Tryz.ntmps20
    go_wp2
    go_loopw [1, 5] (fun sx i wr => ∃ (k : Nat) (x : Int), k ≤ n ∧ i = .int .i64 k ∧ sx = .int .i64 x ∧ 0 ≤ x ∧ n + tot ts k + x ≤ L ∧ Hid (Below w.heap.size w wr)) (fun _ i _ => n - (intOf i).toNat)
    case atStart => exact ⟨0, _, Nat.zero_le _, rfl, rfl, by omega, by simp only [tot]; omega, Below.refl _ _⟩
    case round =>
      obtain ⟨k, x, hk, rfl, rfl, hx0, hx1, HB⟩ := hrel
      by_cases hlt : k < n
      · obtain ⟨b, off, rfl, hbl, hc, hl⟩ := (HR.out).at2 k (by rw [HN.out]; exact hlt)
        obtain ⟨d0, d1, d2, d3⟩ := (hc.below HB.out hbl).all
        have HL := hid (hl.below HB.out)
        have G := hid (HF.out k)
        have HT : Hid (tot ts (k + 1) = tot ts k + wt (ts.getD k t0)) := rfl
        clear hc hl hbl
        generalize ts.getD k t0 = q at *
        go_wp2_with fail
        refine (f50 q x _ hx0 (by omega) HL.out G.out).mono ?_
        rintro e w2 ⟨y, rfl, y0, y1, hy, hb2⟩
        have HB2 := hid (HB.out.trans (hb2.mono HB.out.size))
        clear hb2 d0 d1 d2 d3 HB
        by_cases hy0 : y < 0
        · go_wp2
          go_ret
          exact ⟨-1, rfl, by omega, by omega, fun h => absurd h (by omega), HB2.out⟩
        · have hy' := hid (hy (by omega))
          clear hy
          go_wp2
          go_roundw
          case rel => exact ⟨k + 1, y, by omega, by go_num, rfl, by omega, by rw [HT.out]; have := hy'.out; omega, HB2.out⟩
          case measure => simp [intOf]; omega
      · obtain rfl : k = n := by omega
        go_wp2
        go_ret
        exact ⟨x, rfl, by omega, by omega, fun _ => by omega, HB.out⟩
  · go_enter Tryz.func20, Tryz.ntmps20
    go_wp2
    go_ret
    exact ⟨-1, rfl, by omega, by omega, by omega, Below.refl _ _⟩

/-- One whose lists are in memory of their own, from B on and below U. -/
structure Own1 (X B U : Nat) (q : T) (w : World) : Prop where
  l : ∃ g, q.la = some ⟨g, 0, none⟩ ∧ B ≤ g ∧ g < U ∧ w.ownsRow X 141 3 (.slice (some ⟨g, 0, none⟩) q.ls.length q.lc) q.ls.length (Pat.flatM q.ls)
theorem Own1.below {X B U : Nat} {q : T} {w w' : World} (h : Own1 X B U q w) (hb : Below w.heap.size w w') : Own1 X B U q w' := by
  obtain ⟨gl, xl, yl, zl, ol⟩ := h.l
  exact ⟨⟨gl, xl, yl, zl, own_below ol hb⟩⟩
theorem Own1.set {X B U c o : Nat} {q : T} {w : World} (h : Own1 X B U q w) (hc : c < B ∨ U ≤ c) (v : Value) : Own1 X B U q (w.setCell ⟨c, o, none⟩ v) := by
  obtain ⟨gl, xl, yl, zl, ol⟩ := h.l
  exact ⟨⟨gl, xl, yl, zl, own_set ol (by simp only; omega) v⟩⟩
theorem Own1.wide {X Y B C U V : Nat} {q : T} {w : World} (h : Own1 X B U q w) (hX : Y ≤ X) (hB : C ≤ B) (hU : U ≤ V) : Own1 Y C V q w := by
  obtain ⟨gl, xl, yl, zl, ol⟩ := h.l
  exact ⟨⟨gl, xl, by omega, by omega, own_base ol hX⟩⟩
theorem Own1.lst {X B U : Nat} {q : T} {w : World} (h : Own1 X B U q w) : Lst w q := by
  obtain ⟨gl, xl, yl, zl, ol⟩ := h.l
  exact ⟨by rw [xl]; exact Pat.HasM.own ol⟩
structure Ti (w : World) (q : T) (m0 m1 m2 m3 : Value) (W : World) : Prop where
  arg : W.heap[w.heap.size]? = some (.cells (arT q) 95)
  res : W.heap[w.heap.size + 1]? = some (.cells #[.string ⟨#[]⟩, .slice none 0 0, .int .i64 0, .int .i64 0] 101)
  out : W.heap[w.heap.size + 2]? = some (.cells #[m0, m1, m2, m3] 101)
  bel : Below w.heap.size w W
theorem Ti.mv {w W W' : World} {q : T} {m0 m1 m2 m3 : Value} (h : Ti w q m0 m1 m2 m3 W) (hb : Below W.heap.size W W') : Ti w q m0 m1 m2 m3 W' :=
  ⟨kept h.arg hb, kept h.res hb, kept h.out hb, h.bel.trans (hb.mono h.bel.size)⟩
theorem Ti.s0 {w W : World} {q : T} {m0 m1 m2 m3 : Value} (h : Ti w q m0 m1 m2 m3 W) (x : Value) : Ti w q x m1 m2 m3 (W.setCell ⟨w.heap.size + 2, 0, none⟩ x) := ⟨set_else h.arg (by simp only; omega), set_else h.res (by simp only; omega), set_at h.out, h.bel.setCell (by simp) _⟩
theorem Ti.s1 {w W : World} {q : T} {m0 m1 m2 m3 : Value} (h : Ti w q m0 m1 m2 m3 W) (x : Value) : Ti w q m0 x m2 m3 (W.setCell ⟨w.heap.size + 2, 1, none⟩ x) := ⟨set_else h.arg (by simp only; omega), set_else h.res (by simp only; omega), set_at h.out, h.bel.setCell (by simp) _⟩
theorem Ti.s2 {w W : World} {q : T} {m0 m1 m2 m3 : Value} (h : Ti w q m0 m1 m2 m3 W) (x : Value) : Ti w q m0 m1 x m3 (W.setCell ⟨w.heap.size + 2, 2, none⟩ x) := ⟨set_else h.arg (by simp only; omega), set_else h.res (by simp only; omega), set_at h.out, h.bel.setCell (by simp) _⟩
theorem Ti.s3 {w W : World} {q : T} {m0 m1 m2 m3 : Value} (h : Ti w q m0 m1 m2 m3 W) (x : Value) : Ti w q m0 m1 m2 x (W.setCell ⟨w.heap.size + 2, 3, none⟩ x) := ⟨set_else h.arg (by simp only; omega), set_else h.res (by simp only; omega), set_at h.out, h.bel.setCell (by simp) _⟩
theorem Ti.first (w : World) (q : T) : Ti w q (.string ⟨#[]⟩) (.slice none 0 0) (.int .i64 0) (.int .i64 0) (((w.alloc (.cells (arT q) 95)).alloc (.cells #[.string ⟨#[]⟩, .slice none 0 0, .int .i64 0, .int .i64 0] 101)).alloc (.cells #[.string ⟨#[]⟩, .slice none 0 0, .int .i64 0, .int .i64 0] 101)) := by
  have b1 := fun (W : World) o => (Below.refl W.heap.size W).alloc (Nat.le_refl _) o
  refine ⟨kept (kept (heap_alloc_new w _) (b1 _ _)) (b1 _ _), ?_, ?_, ((b1 w _).alloc (by simp) _).alloc (by simp; omega) _⟩
  · have := kept (heap_alloc_new (w.alloc (.cells (arT q) 95)) (.cells #[.string ⟨#[]⟩, .slice none 0 0, .int .i64 0, .int .i64 0] 101)) (b1 _ (.cells #[.string ⟨#[]⟩, .slice none 0 0, .int .i64 0, .int .i64 0] 101))
    simpa using this
  · have := heap_alloc_new ((w.alloc (.cells (arT q) 95)).alloc (.cells #[.string ⟨#[]⟩, .slice none 0 0, .int .i64 0, .int .i64 0] 101)) (.cells #[.string ⟨#[]⟩, .slice none 0 0, .int .i64 0, .int .i64 0] 101)
    simpa using this

set_option maxRecDepth 100000 in
set_option maxHeartbeats 8000000 in
theorem f61 (q : T) (w : World) (hr : Lst w q) (hs : wt q ≤ 1048576) :
    Calls Tryz.prog 61 #[agT q] w fun e w' => ∃ q' : T, e = .returned (agT q') ∧ pl q' = pl q ∧ Own1 w.heap.size (w.heap.size + 3) w'.heap.size q' w' ∧ Below w.heap.size w w' := by
  have HR := hid hr
  clear hr
  unfold wt at hs
  have HT := hid (Ti.first w q)
  obtain ⟨W0, hW0⟩ : ∃ W, W = ((w.alloc (.cells (arT q) 95)).alloc (.cells #[.string ⟨#[]⟩, .slice none 0 0, .int .i64 0, .int .i64 0] 101)).alloc (.cells #[.string ⟨#[]⟩, .slice none 0 0, .int .i64 0, .int .i64 0] 101) := ⟨_, rfl⟩
  rw [← hW0] at HT
  have HW := hid hW0
  clear hW0
  simp only [agT]
  go_enter Tryz.func61, Tryz.ntmps61
  go_upto_region 2 with fail
  rw [← HW.out]
  clear HW
  obtain ⟨y0, y1, y2, y3⟩ := cellsN HT.out.arg
  have HU := HT
  clear HT
  obtain ⟨x0, x1, x2, x3⟩ := cellsN HU.out.out
  obtain ⟨f0, f1, f2, f3⟩ := frozN HU.out.out
  have HT := hid (HU.out.s0 (.string q.s))
  obtain ⟨W1, hW⟩ : ∃ W, W = W0.setCell ⟨w.heap.size + 2, 0, none⟩ (.string q.s) := ⟨_, rfl⟩
  rw [← hW] at HT 
  have HW := hid hW
  clear hW HU
  go_upto_region 3 with fail
  rw [← HW.out]
  clear HW x0 x1 x2 x3 f0 f1 f2 f3 y0 y1 y2 y3
  obtain ⟨x0, x1, x2, x3⟩ := cellsN HT.out.arg
  go_wp2_with fail
  refine (Pat.f93 q.la q.ls.length q.lc q.ls _ rfl (by omega) (HR.out.l.below HT.out.bel)).mono ?_
  rintro e v1 ⟨rfl, ho, hb⟩
  have hlt : w.heap.size + 2 < W1.heap.size := lt_at HT.out.out
  have HQl : Hid (v1.ownsRow w.heap.size 141 3 (.slice (some ⟨W1.heap.size, 0, none⟩) q.ls.length q.ls.length) q.ls.length (Pat.flatM q.ls)) := own_base ho HT.out.bel.size
  have HGl := hid hlt
  have HU := hid (HT.out.mv hb)
  clear HT x0 x1 x2 x3 ho hb hlt
  obtain ⟨Sl, hS⟩ : ∃ S, S = W1.heap.size := ⟨_, rfl⟩
  rw [← hS] at HQl HGl ⊢
  clear hS
  obtain ⟨x0, x1, x2, x3⟩ := cellsN HU.out.out
  obtain ⟨f0, f1, f2, f3⟩ := frozN HU.out.out
  have HT := hid (HU.out.s1 (.slice (some ⟨Sl, 0, none⟩) q.ls.length q.ls.length))
  have HQl' := hid (own_set HQl.out (p := ⟨w.heap.size + 2, 1, none⟩) (by have := HGl.out; simp only; omega) (.slice (some ⟨Sl, 0, none⟩) q.ls.length q.ls.length))
  clear HQl
  obtain ⟨W2, hW⟩ : ∃ W, W = v1.setCell ⟨w.heap.size + 2, 1, none⟩ (.slice (some ⟨Sl, 0, none⟩) q.ls.length q.ls.length) := ⟨_, rfl⟩
  rw [← hW] at HT HQl'
  have HQl := HQl'
  clear HQl'
  have HW := hid hW
  clear hW HU
  go_upto_region 4 with fail
  rw [← HW.out]
  clear HW x0 x1 x2 x3 f0 f1 f2 f3
  obtain ⟨y0, y1, y2, y3⟩ := cellsN HT.out.arg
  have HU := HT
  clear HT
  obtain ⟨x0, x1, x2, x3⟩ := cellsN HU.out.out
  obtain ⟨f0, f1, f2, f3⟩ := frozN HU.out.out
  have HT := hid (HU.out.s2 (.int .i64 q.f))
  have HQl' := hid (own_set HQl.out (p := ⟨w.heap.size + 2, 2, none⟩) (by have := HGl.out; simp only; omega) (.int .i64 q.f))
  clear HQl
  obtain ⟨W3, hW⟩ : ∃ W, W = W2.setCell ⟨w.heap.size + 2, 2, none⟩ (.int .i64 q.f) := ⟨_, rfl⟩
  rw [← hW] at HT HQl'
  have HQl := HQl'
  clear HQl'
  have HW := hid hW
  clear hW HU
  go_upto_region 5 with fail
  rw [← HW.out]
  clear HW x0 x1 x2 x3 f0 f1 f2 f3 y0 y1 y2 y3
  obtain ⟨y0, y1, y2, y3⟩ := cellsN HT.out.arg
  have HU := HT
  clear HT
  obtain ⟨x0, x1, x2, x3⟩ := cellsN HU.out.out
  obtain ⟨f0, f1, f2, f3⟩ := frozN HU.out.out
  have HT := hid (HU.out.s3 (.int .i64 q.t))
  have HQl' := hid (own_set HQl.out (p := ⟨w.heap.size + 2, 3, none⟩) (by have := HGl.out; simp only; omega) (.int .i64 q.t))
  clear HQl
  obtain ⟨W4, hW⟩ : ∃ W, W = W3.setCell ⟨w.heap.size + 2, 3, none⟩ (.int .i64 q.t) := ⟨_, rfl⟩
  rw [← hW] at HT HQl'
  have HQl := HQl'
  clear HQl'
  have HW := hid hW
  clear hW HU
  go_upto_region 6 with fail
  rw [← HW.out]
  clear HW x0 x1 x2 x3 f0 f1 f2 f3 y0 y1 y2 y3
  obtain ⟨x0, x1, x2, x3⟩ := cellsN HT.out.out
  obtain ⟨y0, y1, y2, y3⟩ := cellsN HT.out.res
  obtain ⟨f0, f1, f2, f3⟩ := frozN HT.out.res
  have HE : Hid (∀ x, x = (((W4.setCell ⟨w.heap.size + 1, 0, none⟩ (.string q.s)).setCell ⟨w.heap.size + 1, 1, none⟩ (.slice (some ⟨Sl, 0, none⟩) q.ls.length q.ls.length)).setCell ⟨w.heap.size + 1, 2, none⟩ (.int .i64 q.f)).setCell ⟨w.heap.size + 1, 3, none⟩ (.int .i64 q.t) → x.heap[w.heap.size + 1]? = some (.cells #[.string q.s, .slice (some ⟨Sl, 0, none⟩) q.ls.length q.ls.length, .int .i64 q.f, .int .i64 q.t] 101) ∧ Below w.heap.size w x ∧ x.ownsRow w.heap.size 141 3 (.slice (some ⟨Sl, 0, none⟩) q.ls.length q.ls.length) q.ls.length (Pat.flatM q.ls)) := by
    rintro x rfl
    refine ⟨?_, Below.setCell (Below.setCell (Below.setCell (Below.setCell (HT.out.bel) (by simp) _) (by simp) _) (by simp) _) (by simp) _, own_set (own_set (own_set (own_set (HQl.out) (by have := HGl.out; simp only; omega) _) (by have := HGl.out; simp only; omega) _) (by have := HGl.out; simp only; omega) _) (by have := HGl.out; simp only; omega) _⟩
    have h0 : (W4.setCell ⟨w.heap.size + 1, 0, none⟩ (.string q.s)).heap[w.heap.size + 1]? = some (.cells #[.string q.s, .slice none 0 0, .int .i64 0, .int .i64 0] 101) := set_at HT.out.res
    have h1 : ((W4.setCell ⟨w.heap.size + 1, 0, none⟩ (.string q.s)).setCell ⟨w.heap.size + 1, 1, none⟩ (.slice (some ⟨Sl, 0, none⟩) q.ls.length q.ls.length)).heap[w.heap.size + 1]? = some (.cells #[.string q.s, .slice (some ⟨Sl, 0, none⟩) q.ls.length q.ls.length, .int .i64 0, .int .i64 0] 101) := set_at h0
    have h2 : (((W4.setCell ⟨w.heap.size + 1, 0, none⟩ (.string q.s)).setCell ⟨w.heap.size + 1, 1, none⟩ (.slice (some ⟨Sl, 0, none⟩) q.ls.length q.ls.length)).setCell ⟨w.heap.size + 1, 2, none⟩ (.int .i64 q.f)).heap[w.heap.size + 1]? = some (.cells #[.string q.s, .slice (some ⟨Sl, 0, none⟩) q.ls.length q.ls.length, .int .i64 q.f, .int .i64 0] 101) := set_at h1
    have h3 : ((((W4.setCell ⟨w.heap.size + 1, 0, none⟩ (.string q.s)).setCell ⟨w.heap.size + 1, 1, none⟩ (.slice (some ⟨Sl, 0, none⟩) q.ls.length q.ls.length)).setCell ⟨w.heap.size + 1, 2, none⟩ (.int .i64 q.f)).setCell ⟨w.heap.size + 1, 3, none⟩ (.int .i64 q.t)).heap[w.heap.size + 1]? = some (.cells #[.string q.s, .slice (some ⟨Sl, 0, none⟩) q.ls.length q.ls.length, .int .i64 q.f, .int .i64 q.t] 101) := set_at h2
    exact h3
  go_wp2
  revert HE
  generalize hwf : World.setCell _ _ _ = wf
  intro HE
  obtain ⟨k1, k2, kl⟩ := HE.out wf (by rw [← hwf])
  obtain ⟨r0, r1, r2, r3⟩ := cellsN k1
  refine bodyPost_ret (v := .agg #[.string q.s, .slice (some ⟨Sl, 0, none⟩) q.ls.length q.ls.length, .int .i64 q.f, .int .i64 q.t]) (by simp [results, Tryz.results61, go_sem, r0, r1, r2, r3]) rfl ⟨⟨q.s, q.ls, some ⟨Sl, 0, none⟩, q.ls.length, q.f, q.t⟩, rfl, rfl, ⟨⟨Sl, rfl, by have := HGl.out; omega, (kl.lt Sl rfl).2, kl⟩⟩, k2⟩

theorem infoT : (Tryz.prog.info? 101).map (fun i => (i.zero, i.size, i.bytes)) = some (some (.agg #[.string ⟨#[]⟩, .slice none 0 0, .int .i64 0, .int .i64 0]), 4, 56) := by kernel_rfl
theorem step_set (d : List T) (n k : Nat) (q : T) (hd : d.length = k) (hk : k < n) : (d ++ List.replicate (n - k) t0).set k q = (d ++ [q]) ++ List.replicate (n - (k + 1)) t0 := by
  rw [List.set_append_right _ _ (by omega), hd, Nat.sub_self, show n - k = (n - (k + 1)) + 1 from by omega, List.replicate_succ, List.set_cons_zero, List.append_assoc]
  rfl
theorem getD_snoc (d : List T) (q : T) (i : Nat) : (d ++ [q]).getD i t0 = if i = d.length then q else d.getD i t0 := by
  rw [List.getD_eq_getElem?_getD, List.getD_eq_getElem?_getD]
  by_cases h : i < d.length
  · rw [List.getElem?_append_left h, if_neg (by omega)]
  · rw [List.getElem?_append_right (by omega)]
    by_cases e : i = d.length
    · rw [if_pos e, e, Nat.sub_self]; rfl
    · rw [if_neg e, List.getElem?_eq_none (by simp; omega), List.getElem?_eq_none (by omega)]
/-- The first k of a list lie in memory of their own, one behind the other: the i-th from Z i on and below Z (i + 1). -/
structure Owns (X B k : Nat) (Z : Nat → Nat) (d : List T) (w : World) : Prop where
  len : d.length = k
  low : B < Z 0
  up : ∀ i, i < k → Z i ≤ Z (i + 1)
  own : ∀ i, i < k → Own1 X (Z i) (Z (i + 1)) (d.getD i t0) w
  top : Z k ≤ w.heap.size
theorem Owns.zle {X B k : Nat} {Z : Nat → Nat} {d : List T} {w : World} (h : Owns X B k Z d w) : ∀ j i, i ≤ j → j ≤ k → Z i ≤ Z j := by
  intro j
  induction j with
  | zero => intro i hi _; rw [show i = 0 by omega]; exact Nat.le_refl _
  | succ j ih =>
    intro i hi hj
    by_cases e : i = j + 1
    · rw [e]; exact Nat.le_refl _
    · exact Nat.le_trans (ih i (by omega) (by omega)) (h.up j (by omega))
theorem Owns.below {X B k : Nat} {Z : Nat → Nat} {d : List T} {w w' : World} (h : Owns X B k Z d w) (hb : Below w.heap.size w w') : Owns X B k Z d w' := ⟨h.len, h.low, h.up, fun i hi => (h.own i hi).below hb, Nat.le_trans h.top hb.size⟩
theorem Owns.set {X B k : Nat} {Z : Nat → Nat} {d : List T} {w : World} (h : Owns X B k Z d w) (o : Nat) (v : Value) : Owns X B k Z d (w.setCell ⟨B, o, none⟩ v) :=
  ⟨h.len, h.low, h.up, fun i hi => (h.own i hi).set (.inl (Nat.lt_of_lt_of_le h.low (h.zle i 0 (Nat.zero_le _) (by omega)))) v, by simpa using h.top⟩
theorem Owns.snoc {X B k U : Nat} {Z : Nat → Nat} {d : List T} {w : World} {q : T} (h : Owns X B k Z d w) (h1 : Own1 X (Z k) U q w) (hU : Z k ≤ U) (hW : U ≤ w.heap.size) : Owns X B (k + 1) (fun i => if i ≤ k then Z i else U) (d ++ [q]) w := by
  have hl := h.len
  refine ⟨by simp [hl], by simpa using h.low, fun i hi => ?_, fun i hi => ?_, ?_⟩
  · show (if i ≤ k then Z i else U) ≤ (if i + 1 ≤ k then Z (i + 1) else U)
    rw [if_pos (show i ≤ k by omega)]
    by_cases e : i = k
    · subst e; rw [if_neg (show ¬ i + 1 ≤ i by omega)]; exact hU
    · rw [if_pos (show i + 1 ≤ k by omega)]; exact h.up i (by omega)
  · show Own1 X (if i ≤ k then Z i else U) (if i + 1 ≤ k then Z (i + 1) else U) ((d ++ [q]).getD i t0) w
    rw [if_pos (show i ≤ k by omega), getD_snoc]
    by_cases e : i = k
    · subst e
      rw [if_neg (show ¬ i + 1 ≤ i by omega), if_pos hl.symm]
      exact h1
    · rw [if_pos (show i + 1 ≤ k by omega), if_neg (show ¬ i = d.length by omega)]
      exact h.own i (by omega)
  · show (if k + 1 ≤ k then Z (k + 1) else U) ≤ w.heap.size
    rw [if_neg (show ¬ k + 1 ≤ k by omega)]
    exact hW
/-- A list at block g, all of it in memory of its own from X on. -/
structure OwnT (X g n : Nat) (ts : List T) (w : World) : Prop where
  row : w.ownsRow X 101 4 (.slice (some ⟨g, 0, none⟩) n n) n (flat ts)
  kin : ∃ Z, Owns X g n Z ts w
theorem OwnT.below {X g n : Nat} {ts : List T} {w w' : World} (h : OwnT X g n ts w) (hb : Below w.heap.size w w') : OwnT X g n ts w' := by
  obtain ⟨Z, hZ⟩ := h.kin
  exact ⟨own_below h.row hb, Z, hZ.below hb⟩
theorem OwnT.len {X g n : Nat} {ts : List T} {w : World} (h : OwnT X g n ts w) : ts.length = n := by obtain ⟨Z, hZ⟩ := h.kin; exact hZ.len
theorem OwnT.has {X g n : Nat} {ts : List T} {w : World} (h : OwnT X g n ts w) : Has w (some ⟨g, 0, none⟩) ts := by
  obtain ⟨Z, hZ⟩ := h.kin
  have hl := h.row.1
  rw [flat_len] at hl
  refine .inr ⟨g, 0, rfl, (h.row.lt g rfl).2, fun i hi => ⟨fun j hj => ?_, (hZ.own i (by rw [← hZ.len]; exact hi)).lst⟩⟩
  rw [Nat.zero_add]
  exact (h.row.cellAt (i * 4 + j) (by omega)).trans (flat_get ts i j hi hj)
theorem Same.snoc {k : Nat} {ts d : List T} {q : T} (h : Same k ts d) (hd : d.length = k) (h1 : pl q = pl (ts.getD k t0)) : Same (k + 1) ts (d ++ [q]) := by
  intro i hi
  rw [getD_snoc]
  by_cases e : i = d.length
  · rw [if_pos e, e, hd]; exact h1
  · rw [if_neg e]; exact h i (by omega)

set_option maxHeartbeats 4000000 in
theorem f28 (a : Option Addr) (n c : Nat) (ts : List T) (w : World) (hn : ts.length = n) (hb : n ≤ 1048576) (hr : Has w a ts) (hz : Sml ts) :
    Calls Tryz.prog 28 #[.slice a n c] w fun e w' => ∃ ts' : List T, e = .returned (.slice (some ⟨w.heap.size, 0, none⟩) n n) ∧ Same n ts ts' ∧ OwnT w.heap.size w.heap.size n ts' w' ∧ Below w.heap.size w w' := by
  obtain ⟨i0, hi, hz0, hz1, hz2⟩ := info_parts infoT
  have HN := hid hn
  have HR := hid hr
  have HZ := hid hz
  clear hn hr hz
  go_enter Tryz.func28, Tryz.ntmps28
  go_wp2_with (at_make; refine wpList_make_full _ rfl _ _ 32 rfl w.heap.size 101 i0 (.agg #[.string ⟨#[]⟩, .slice none 0 0, .int .i64 0, .int .i64 0]) 4 Tryz.underlying32 hi hz0 hz1 _ _ _ _ n rfl rfl rfl rfl ?b2 ?b3 (Nat.le_refl _) ?_)
  case b2 => rw [hz2]; omega
  case b3 => unfold maxLen; omega
  intro w0 hown0 hgrow0
  have hown1 : Hid (w0.ownsRow w.heap.size 101 4 (.slice (some ⟨w.heap.size, 0, none⟩) n n) n (flat (List.replicate n t0))) := by
    rw [← made]; exact hown0
  have hb0 := hid ((Below.refl w.heap.size w).grown hgrow0 (Nat.le_refl _) (fun k h => by cases h))
  have HO0 : Hid (Owns w.heap.size w.heap.size 0 (fun _ => w0.heap.size) [] w0) := ⟨rfl, (hown1.out.lt w.heap.size rfl).2, fun i hi => by omega, fun i hi => by omega, Nat.le_refl _⟩
  clear hown0 hgrow0
  go_wp2
  go_loopw [4] (fun i wr => ∃ (k : Nat) (d : List T), k ≤ n ∧ i = .int .i64 k ∧ Hid (Same k ts d) ∧ Hid (∃ Z, Owns w.heap.size w.heap.size k Z d wr) ∧ Hid (wr.ownsRow w.heap.size 101 4 (.slice (some ⟨w.heap.size, 0, none⟩) n n) n (flat (d ++ List.replicate (n - k) t0))) ∧ Hid (Below w.heap.size w wr))
    (fun i _ => n - (intOf i).toNat)
  case atStart => exact ⟨0, [], Nat.zero_le _, rfl, fun i hi => by omega, ⟨_, HO0.out⟩, by unfold Hid; simpa using hown1.out, hb0.out⟩
  case round =>
    obtain ⟨k, d, hk, rfl, HSm, HZ1, HO, HX⟩ := hrel
    have HLN : Hid (d.length = k) := by obtain ⟨Z, hZ⟩ := HZ1.out; exact hZ.len
    by_cases hlt : k < n
    · obtain ⟨b, off, rfl, hbl, hc, hT1⟩ := (HR.out).at2 k (by rw [HN.out]; exact hlt)
      obtain ⟨d0, d1, d2, d3⟩ := (hc.below HX.out hbl).all
      have HT1 := hid (hT1.below HX.out)
      have HS := hid (HZ.out k (by rw [HN.out]; exact hlt))
      obtain ⟨q, hq⟩ : ∃ q, q = ts.getD k t0 := ⟨_, rfl⟩
      have HQ := hid hq
      rw [← hq] at d0 d1 d2 d3 HT1 HS
      clear hc hT1 hbl hq
      go_wp2_with fail
      refine (f61 q _ HT1.out HS.out).mono ?_
      rintro e w2 ⟨q', rfl, hp, ho2, hb2⟩
      have HO2 := hid (own_below HO.out hb2)
      have HX2 := hid (HX.out.trans (hb2.mono HX.out.size))
      have HZ2 : Hid (∃ Z, Owns w.heap.size w.heap.size (k + 1) Z (d ++ [q']) w2) := by
        obtain ⟨Z, hZ⟩ := HZ1.out
        have h1 := hZ.top
        have h2 := hb2.size
        exact ⟨_, (hZ.below hb2).snoc (ho2.wide HX.out.size (by omega) (Nat.le_refl _)) (by omega) (Nat.le_refl _)⟩
      have HL : Hid ((d ++ List.replicate (n - k) t0).length = n) := by unfold Hid; have := HLN.out; simp; omega
      have HSn := hid (HSm.out.snoc HLN.out (hp.trans (by rw [← HQ.out])))
      have gg := fun j hj => flat_get (d ++ List.replicate (n - k) t0) k j (by rw [HL.out]; exact hlt) hj
      have z0 := (HO2.out.cellAt (k * 4) (by omega)).trans (gg 0 (by omega))
      have f0 := HO2.out.frozenAt (k * 4)
      have z1 := (HO2.out.cellAt (k * 4 + 1) (by omega)).trans (gg 1 (by omega))
      have f1 := HO2.out.frozenAt (k * 4 + 1)
      have z2 := (HO2.out.cellAt (k * 4 + 2) (by omega)).trans (gg 2 (by omega))
      have f2 := HO2.out.frozenAt (k * 4 + 2)
      have z3 := (HO2.out.cellAt (k * 4 + 3) (by omega)).trans (gg 3 (by omega))
      have f3 := HO2.out.frozenAt (k * 4 + 3)
      simp only [cl, List.getElem?_cons_zero, List.getElem?_cons_succ] at z0 z1 z2 z3
      have HE : Hid (∀ wz, wz = (((w2.setCell ⟨w.heap.size, k * 4, none⟩ (.string q'.s)).setCell ⟨w.heap.size, k * 4 + 1, none⟩ (.slice q'.la q'.ls.length q'.lc)).setCell ⟨w.heap.size, k * 4 + 2, none⟩ (.int .i64 q'.f)).setCell ⟨w.heap.size, k * 4 + 3, none⟩ (.int .i64 q'.t) → (∃ Z, Owns w.heap.size w.heap.size (k + 1) Z (d ++ [q']) wz) ∧ wz.ownsRow w.heap.size 101 4 (.slice (some ⟨w.heap.size, 0, none⟩) n n) n (flat ((d ++ [q']) ++ List.replicate (n - (k + 1)) t0)) ∧ Below w.heap.size w wz) := by
        rintro wz rfl
        obtain ⟨Z, hZ⟩ := HZ2.out
        refine ⟨⟨Z, ((((hZ.set _ _).set _ _).set _ _).set _ _)⟩, ?_, ((((HX2.out.setCell (Nat.le_refl _) _).setCell (Nat.le_refl _) _).setCell (Nat.le_refl _) _).setCell (Nat.le_refl _) _)⟩
        rw [← step_set d n k _ HLN.out hlt, ← flat_set _ k _ (by rw [HL.out]; exact hlt)]
        exact ((((HO2.out.stored (k * 4) _).1.stored (k * 4 + 1) _).1.stored (k * 4 + 2) _).1.stored (k * 4 + 3) _).1
      clear hb2 ho2 hp HO HT1 HO2 HX2 HZ2 HX HZ1 HSm d0 d1 d2 d3 gg
      go_wp2
      go_roundw
      case rel =>
        obtain ⟨e1, e2, e3⟩ := HE.out _ rfl
        exact ⟨k + 1, _, by omega, by go_num, HSn.out, e1, e2, e3⟩
      case measure => simp [intOf]; omega
    · obtain rfl : k = n := by omega
      have HE : Hid (OwnT w.heap.size w.heap.size k d wr) := by
        have h := HO.out
        rw [Nat.sub_self, List.replicate_zero, List.append_nil] at h
        exact ⟨h, HZ1.out⟩
      go_wp2
      go_ret
      exact ⟨d, rfl, HSm.out, HE.out, HX.out⟩

set_option maxHeartbeats 4000000 in
theorem f74 (q q' : T) (w : World) (hp : pl q' = pl q) (hs : wt q ≤ 1048576) (hl : Lst w q) (hl' : Lst w q') :
    Calls Tryz.prog 74 #[agT q, agT q'] w fun e w' => e = .returned (.bool true) ∧ Below w.heap.size w w' := by
  obtain ⟨s, ls, la, lc, f, t⟩ := q
  obtain ⟨s', ls', la', lc', f', t'⟩ := q'
  simp only [pl, Pl.mk.injEq] at hp
  obtain ⟨rfl, rfl, rfl, rfl⟩ := hp
  unfold wt at hs
  simp only at hs
  have HB := hid (((Below.refl w.heap.size w).alloc (Nat.le_refl _) (.cells #[.string s', .slice la ls'.length lc, .int .i64 f', .int .i64 t'] 101)).alloc (by simp) (.cells #[.string s', .slice la' ls'.length lc', .int .i64 f', .int .i64 t'] 101))
  have HA : Hid (((w.alloc (.cells #[.string s', .slice la ls'.length lc, .int .i64 f', .int .i64 t'] 101)).alloc (.cells #[.string s', .slice la' ls'.length lc', .int .i64 f', .int .i64 t'] 101)).heap[w.heap.size]? = some (.cells #[.string s', .slice la ls'.length lc, .int .i64 f', .int .i64 t'] 101)) := kept (heap_alloc_new w _) ((Below.refl _ _).alloc (Nat.le_refl _) _)
  have HC : Hid (((w.alloc (.cells #[.string s', .slice la ls'.length lc, .int .i64 f', .int .i64 t'] 101)).alloc (.cells #[.string s', .slice la' ls'.length lc', .int .i64 f', .int .i64 t'] 101)).heap[w.heap.size + 1]? = some (.cells #[.string s', .slice la' ls'.length lc', .int .i64 f', .int .i64 t'] 101)) := by
    have := heap_alloc_new (w.alloc (.cells #[.string s', .slice la ls'.length lc, .int .i64 f', .int .i64 t'] 101)) (.cells #[.string s', .slice la' ls'.length lc', .int .i64 f', .int .i64 t'] 101)
    unfold Hid
    simpa using this
  have HR := hid hl
  have HR' := hid hl'
  clear hl hl'
  have ns : (s'.toList == s'.toList) = true := by simp
  have nf : (f' != f') = false := by simp
  have nt : (t' != t') = false := by simp
  obtain ⟨W0, hW⟩ : ∃ W, W = ((w.alloc (.cells #[.string s', .slice la ls'.length lc, .int .i64 f', .int .i64 t'] 101)).alloc (.cells #[.string s', .slice la' ls'.length lc', .int .i64 f', .int .i64 t'] 101)) := ⟨_, rfl⟩
  rw [← hW] at HA HC HB
  have HW := hid hW
  clear hW
  simp only [agT]
  go_enter Tryz.func74, Tryz.ntmps74
  go_upto_region 1 with fail
  rw [← HW.out]
  clear HW
  obtain ⟨x0, x1, x2, x3⟩ := cellsN HA.out
  obtain ⟨y0, y1, y2, y3⟩ := cellsN HC.out
  go_wp2_with fail
  refine (Pat.f109 la la' ls'.length lc lc' ls' _ rfl (by omega) (HR.out.l.below HB.out) (HR'.out.l.below HB.out)).mono ?_
  rintro e Wl ⟨rfl, hb⟩
  have HA' := hid (kept HA.out hb)
  have HC' := hid (kept HC.out hb)
  have HB' := hid (HB.out.trans (hb.mono HB.out.size))
  clear HA HC HB hb x0 x1 x2 x3 y0 y1 y2 y3
  have HA := HA'
  have HC := HC'
  have HB := HB'
  clear HA' HC' HB'
  obtain ⟨x0, x1, x2, x3⟩ := cellsN HA.out
  obtain ⟨y0, y1, y2, y3⟩ := cellsN HC.out
  go_wp2
  go_ret
  exact ⟨rfl, HB.out⟩
/-- Two entries' cells, and what they hold; all that was there is as it was. -/
abbrev EE (w : World) (q q' : T) (b o b' o' : Nat) (x : World) : Prop :=
  x.cell? ⟨b, o, none⟩ = some (.string q.s) ∧ x.cell? ⟨b, o + 1, none⟩ = some (.slice q.la q.ls.length q.lc) ∧ x.cell? ⟨b, o + 2, none⟩ = some (.int .i64 q.f) ∧ x.cell? ⟨b, o + 3, none⟩ = some (.int .i64 q.t) ∧ x.cell? ⟨b', o', none⟩ = some (.string q'.s) ∧ x.cell? ⟨b', o' + 1, none⟩ = some (.slice q'.la q'.ls.length q'.lc) ∧ x.cell? ⟨b', o' + 2, none⟩ = some (.int .i64 q'.f) ∧ x.cell? ⟨b', o' + 3, none⟩ = some (.int .i64 q'.t) ∧ Lst x q ∧ Lst x q' ∧ b < x.heap.size ∧ b' < x.heap.size ∧ Below w.heap.size w x
theorem EE.below {w : World} {q q' : T} {b o b' o' : Nat} {x y : World} (h : EE w q q' b o b' o' x) (hb : Below x.heap.size x y) : EE w q q' b o b' o' y := by
  obtain ⟨h0, h1, h2, h3, k0, k1, k2, k3, t1, t3, l1, l2, hw⟩ := h
  have e1 : ∀ j, y.cell? ⟨b, j, none⟩ = x.cell? ⟨b, j, none⟩ := fun j => hb.cell (by exact l1)
  have e2 : ∀ j, y.cell? ⟨b', j, none⟩ = x.cell? ⟨b', j, none⟩ := fun j => hb.cell (by exact l2)
  exact ⟨(e1 _).trans h0, (e1 _).trans h1, (e1 _).trans h2, (e1 _).trans h3, (e2 _).trans k0, (e2 _).trans k1, (e2 _).trans k2, (e2 _).trans k3, t1.below hb, t3.below hb, Nat.lt_of_lt_of_le l1 hb.size, Nat.lt_of_lt_of_le l2 hb.size, hw.trans (hb.mono hw.size)⟩
theorem EE.drew {w : World} {q q' : T} {b o b' o' : Nat} {x : World} (h : EE w q q' b o b' o' x) : EE w q q' b o b' o' x.drew := h.below (Below.refl _ x).drew
theorem EE.t1 {w : World} {q q' : T} {b o b' o' : Nat} {x : World} (h : EE w q q' b o b' o' x) : Lst x q := h.2.2.2.2.2.2.2.2.1
theorem EE.t3 {w : World} {q q' : T} {b o b' o' : Nat} {x : World} (h : EE w q q' b o b' o' x) : Lst x q' := h.2.2.2.2.2.2.2.2.2.1
theorem EE.bel {w : World} {q q' : T} {b o b' o' : Nat} {x : World} (h : EE w q q' b o b' o' x) : Below w.heap.size w x := h.2.2.2.2.2.2.2.2.2.2.2.2
set_option maxHeartbeats 4000000 in
theorem f37 (a a' : Option Addr) (n c c' : Nat) (ts ts' : List T) (w : World) (hn : ts.length = n) (hn' : ts'.length = n) (hb : n ≤ 1048576) (hr : Has w a ts) (hr' : Has w a' ts') (hs : Same n ts ts') (hz : Sml ts) :
    Calls Tryz.prog 37 #[.slice a n c, .slice a' n c'] w fun e w' => e = .returned (.bool true) ∧ Below w.heap.size w w' := by
  have HN := hid hn
  have HN' := hid hn'
  have HR := hid hr
  have HR' := hid hr'
  have HS := hid hs
  have HZ := hid hz
  clear hn hn' hr hr' hs hz
  go_enter Tryz.func37, Tryz.ntmps37
  go_wp2
  go_loopw [5] (fun i wr => ∃ k : Nat, k ≤ n ∧ i = .int .i64 k ∧ Hid (Below w.heap.size w wr)) (fun i _ => n - (intOf i).toNat)
  case atStart => exact ⟨0, Nat.zero_le _, rfl, Below.refl _ _⟩
  case round =>
    obtain ⟨k, hk, rfl, HX⟩ := hrel
    by_cases hlt : k < n
    · obtain ⟨b, off, rfl, hbl, hc, t1⟩ := (HR.out.below HX.out).at2 k (by rw [HN.out]; exact hlt)
      obtain ⟨b', off', rfl, hbl', hc', t1'⟩ := (HR'.out.below HX.out).at2 k (by rw [HN'.out]; exact hlt)
      have HP := hid (HS.out k hlt)
      have HL := hid (HZ.out k (by rw [HN.out]; exact hlt))
      generalize ts.getD k t0 = q at *
      generalize ts'.getD k t0 = q' at *
      obtain ⟨h0, h1, h2, h3⟩ := hc.all
      obtain ⟨k0, k1, k2, k3⟩ := hc'.all
      have HE : Hid (EE w q q' b (off + k * 4) b' (off' + k * 4) wr) := ⟨h0, h1, h2, h3, k0, k1, k2, k3, t1, t1', hbl, hbl', HX.out⟩
      clear hc hc' t1 t1' hbl hbl' h0 h1 h2 h3 k0 k1 k2 k3
      have i1 : (k : Int) < (n : Int) := by omega
      go_wp2_with fail
      go_region_held3 (fun x => EE w q q' b (off + k * 4) b' (off' + k * 4) x) (first | exact HE.out.drew | assumption) (first | (go_at_call 74; refine (f74 q q' _ HP.out HL.out (EE.t1 (by assumption)) (EE.t3 (by assumption))).mono ?_; rintro e w2 ⟨rfl, hb2⟩; have hs2 := EE.below (by assumption) hb2; clear hb2))
      have HX2 := hid hs2.bel
      clear hs2
      go_wp2
      go_roundw
      case rel => exact ⟨k + 1, by omega, by go_num, HX2.out⟩
      case measure => simp [intOf]; omega
    · go_wp2
      go_ret
      exact ⟨rfl, HX.out⟩
end Go.Proofs.YthcogkoleiejgaaGreatDoor.Sln
