/- Lists of intervals: how they lie in memory; measured, copied, compared. -/
import Derived.Test.YthcogkoleiejgaaGreatDoorRRwc
import Derived.Test.YthcogkoleiejgaaGreatDoorRRnw
import Derived.Test.YthcogkoleiejgaaGreatDoorRInw
namespace Go.Proofs.YthcogkoleiejgaaGreatDoor.Ivn
open Go.RowKit
open Go.Proofs.YthcogkoleiejgaaGreatDoor.Pat (Mt HasM)
open Go.Proofs.YthcogkoleiejgaaGreatDoor.Fil (HasT)
open Go.Proofs.YthcogkoleiejgaaGreatDoor.Rwc

structure T where
  z : Int
  ms : List Rng.Sm
  ma : Option Addr
  mc : Nat
  ks : List Rng.Sm
  ka : Option Addr
  kc : Nat
  ds : List Rng.Sm
  da : Option Addr
  dc : Nat
  os : List Rng.Sm
  oa : Option Addr
  oc : Nat
  ys : List Rng.Sm
  ya : Option Addr
  yc : Nat
  us : List Int
  ua : Option Addr
  uc : Nat
structure Pl where
  z : Int
  ms : List Rng.Sm
  ks : List Rng.Sm
  ds : List Rng.Sm
  os : List Rng.Sm
  ys : List Rng.Sm
  us : List Int
def pl (q : T) : Pl := ⟨q.z, q.ms, q.ks, q.ds, q.os, q.ys, q.us⟩
def t0 : T := ⟨0, [], none, 0, [], none, 0, [], none, 0, [], none, 0, [], none, 0, [], none, 0⟩
instance : Inhabited T := ⟨t0⟩
def cl (q : T) : List Value := [.int .i64 q.z, .slice q.ma q.ms.length q.mc, .slice q.ka q.ks.length q.kc, .slice q.da q.ds.length q.dc, .slice q.oa q.os.length q.oc, .slice q.ya q.ys.length q.yc, .slice q.ua q.us.length q.uc]
abbrev arT (q : T) : Array Value := #[.int .i64 q.z, .slice q.ma q.ms.length q.mc, .slice q.ka q.ks.length q.kc, .slice q.da q.ds.length q.dc, .slice q.oa q.os.length q.oc, .slice q.ya q.ys.length q.yc, .slice q.ua q.us.length q.uc]
abbrev agT (q : T) : Value := .agg #[.int .i64 q.z, .slice q.ma q.ms.length q.mc, .slice q.ka q.ks.length q.kc, .slice q.da q.ds.length q.dc, .slice q.oa q.os.length q.oc, .slice q.ya q.ys.length q.yc, .slice q.ua q.us.length q.uc]
def flat (L : List T) : List Value := L.flatMap cl
theorem cl_len (q : T) : (cl q).length = 7 := rfl
theorem flat_cons (q : T) (L : List T) : flat (q :: L) = cl q ++ flat L := rfl
theorem flat_append (L K : List T) : flat (L ++ K) = flat L ++ flat K := by simp [flat]
theorem flat_len (L : List T) : (flat L).length = L.length * 7 := by
  induction L with
  | nil => rfl
  | cons q L ih => rw [flat_cons, List.length_append, ih, cl_len, List.length_cons]; omega
theorem flat_get : ∀ (L : List T) (i j : Nat), i < L.length → j < 7 → (flat L)[i * 7 + j]? = (cl (L.getD i t0))[j]? := by
  intro L
  induction L with
  | nil => intro i j h; simp at h
  | cons p L ih =>
    intro i j h hj
    cases i with
    | zero => rw [flat_cons, Nat.zero_mul, Nat.zero_add, List.getElem?_append_left (by rw [cl_len]; exact hj)]; rfl
    | succ i =>
      have := ih i j (by simpa using h) hj
      rw [flat_cons, show (i + 1) * 7 + j = i * 7 + j + 7 by omega, List.getElem?_append_right (by rw [cl_len]; omega), cl_len, Nat.add_sub_cancel, this]
      rfl
theorem flat_set : ∀ (L : List T) (i : Nat) (q : T), i < L.length → (((((((flat L).set (i * 7) (.int .i64 q.z)).set (i * 7 + 1) (.slice q.ma q.ms.length q.mc)).set (i * 7 + 2) (.slice q.ka q.ks.length q.kc)).set (i * 7 + 3) (.slice q.da q.ds.length q.dc)).set (i * 7 + 4) (.slice q.oa q.os.length q.oc)).set (i * 7 + 5) (.slice q.ya q.ys.length q.yc)).set (i * 7 + 6) (.slice q.ua q.us.length q.uc) = flat (L.set i q) := by
  intro L
  induction L with
  | nil => intro i q h; simp at h
  | cons p L ih =>
    intro i q h
    cases i with
    | zero => rfl
    | succ i =>
      have := ih i q (by simpa using h)
      rw [flat_cons, List.set_cons_succ, flat_cons, ← this]
      rw [show (i + 1) * 7 = i * 7 + 7 by omega]
      simp only [cl, List.cons_append, List.nil_append, List.set_cons_succ, show i * 7 + 7 + 1 = i * 7 + 1 + 7 from by omega, show i * 7 + 7 + 2 = i * 7 + 2 + 7 from by omega, show i * 7 + 7 + 3 = i * 7 + 3 + 7 from by omega, show i * 7 + 7 + 4 = i * 7 + 4 + 7 from by omega, show i * 7 + 7 + 5 = i * 7 + 5 + 7 from by omega, show i * 7 + 7 + 6 = i * 7 + 6 + 7 from by omega]
theorem made (n : Nat) : (madeCells #[.int .i64 0, .slice none 0 0, .slice none 0 0, .slice none 0 0, .slice none 0 0, .slice none 0 0, .slice none 0 0] (n * 7)).toList = flat (List.replicate n t0) := by
  apply List.ext_getElem?
  intro j
  by_cases hj : j < n * 7
  · have hl : j / 7 < (List.replicate n t0).length := by simp; omega
    have h2 : (List.replicate n t0).getD (j / 7) t0 = t0 := by
      rw [List.getD_eq_getElem?_getD, List.getElem?_replicate]; split <;> rfl
    have g := flat_get _ (j / 7) (j % 7) hl (by omega)
    rw [h2, show j / 7 * 7 + j % 7 = j by omega] at g
    rw [g]
    unfold madeCells
    have hm : j % 7 < 7 := by omega
    simp [hj]
    generalize j % 7 = r at *
    rcases (show r = 0 ∨ r = 1 ∨ r = 2 ∨ r = 3 ∨ r = 4 ∨ r = 5 ∨ r = 6 by omega) with rfl | rfl | rfl | rfl | rfl | rfl | rfl <;> rfl
  · rw [List.getElem?_eq_none (by simp [size_madeCells]; omega), List.getElem?_eq_none (by rw [flat_len]; simp; omega)]
/-- The cells of one. -/
def Cells (w : World) (b o : Nat) (q : T) : Prop := ∀ j, j < 7 → w.cell? ⟨b, o + j, none⟩ = (cl q)[j]?
theorem Cells.below {w w' : World} {b o : Nat} {q : T} (h : Cells w b o q) (hb : Below w.heap.size w w') (hl : b < w.heap.size) : Cells w' b o q := fun j hj => (hb.cell (by exact hl)).trans (h j hj)
theorem Cells.all {w : World} {b o : Nat} {q : T} (h : Cells w b o q) : w.cell? ⟨b, o, none⟩ = some (.int .i64 q.z) ∧ w.cell? ⟨b, o + 1, none⟩ = some (.slice q.ma q.ms.length q.mc) ∧ w.cell? ⟨b, o + 2, none⟩ = some (.slice q.ka q.ks.length q.kc) ∧ w.cell? ⟨b, o + 3, none⟩ = some (.slice q.da q.ds.length q.dc) ∧ w.cell? ⟨b, o + 4, none⟩ = some (.slice q.oa q.os.length q.oc) ∧ w.cell? ⟨b, o + 5, none⟩ = some (.slice q.ya q.ys.length q.yc) ∧ w.cell? ⟨b, o + 6, none⟩ = some (.slice q.ua q.us.length q.uc) :=
  ⟨h 0 (by omega), h 1 (by omega), h 2 (by omega), h 3 (by omega), h 4 (by omega), h 5 (by omega), h 6 (by omega)⟩
theorem cellsN {x : World} {b : Nat} {v0 v1 v2 v3 v4 v5 v6 : Value} {t : TypeId} (h : x.heap[b]? = some (.cells #[v0, v1, v2, v3, v4, v5, v6] t)) : x.cell? ⟨b, 0, none⟩ = some v0 ∧ x.cell? ⟨b, 1, none⟩ = some v1 ∧ x.cell? ⟨b, 2, none⟩ = some v2 ∧ x.cell? ⟨b, 3, none⟩ = some v3 ∧ x.cell? ⟨b, 4, none⟩ = some v4 ∧ x.cell? ⟨b, 5, none⟩ = some v5 ∧ x.cell? ⟨b, 6, none⟩ = some v6 :=
  ⟨cell_at h 0, cell_at h 1, cell_at h 2, cell_at h 3, cell_at h 4, cell_at h 5, cell_at h 6⟩
theorem frozN {x : World} {b : Nat} {v0 v1 v2 v3 v4 v5 v6 : Value} {t : TypeId} (h : x.heap[b]? = some (.cells #[v0, v1, v2, v3, v4, v5, v6] t)) : x.frozen? ⟨b, 0, none⟩ = false ∧ x.frozen? ⟨b, 1, none⟩ = false ∧ x.frozen? ⟨b, 2, none⟩ = false ∧ x.frozen? ⟨b, 3, none⟩ = false ∧ x.frozen? ⟨b, 4, none⟩ = false ∧ x.frozen? ⟨b, 5, none⟩ = false ∧ x.frozen? ⟨b, 6, none⟩ = false :=
  ⟨froz_at h 0, froz_at h 1, froz_at h 2, froz_at h 3, froz_at h 4, froz_at h 5, froz_at h 6⟩
/-- What its lists hold. -/
structure Lst (w : World) (q : T) : Prop where
  m : Rng.HasS w q.ma q.ms
  k : Rng.HasS w q.ka q.ks
  d : Rng.HasS w q.da q.ds
  o : Rng.HasS w q.oa q.os
  y : Rng.HasS w q.ya q.ys
  u : Ino.Has w q.ua q.us
theorem Lst.below {w w' : World} {q : T} (h : Lst w q) (hb : Below w.heap.size w w') : Lst w' q := ⟨h.m.below hb, h.k.below hb, h.d.below hb, h.o.below hb, h.y.below hb, h.u.below hb⟩
def Has (w : World) (a : Option Addr) (ts : List T) : Prop :=
  ts = [] ∨ ∃ b off, a = some ⟨b, off, none⟩ ∧ b < w.heap.size ∧ ∀ i, i < ts.length → Cells w b (off + i * 7) (ts.getD i t0) ∧ Lst w (ts.getD i t0)
theorem Has.below {w w' : World} {a : Option Addr} {ts : List T} (h : Has w a ts) (hb : Below w.heap.size w w') : Has w' a ts := by
  rcases h with h | ⟨b, off, h1, h2, h3⟩
  · exact .inl h
  · exact .inr ⟨b, off, h1, Nat.lt_of_lt_of_le h2 hb.size, fun i hi => ⟨(h3 i hi).1.below hb h2, (h3 i hi).2.below hb⟩⟩
theorem Has.at2 {w : World} {a : Option Addr} {ts : List T} (h : Has w a ts) (i : Nat) (hi : i < ts.length) : ∃ b off, a = some ⟨b, off, none⟩ ∧ b < w.heap.size ∧ Cells w b (off + i * 7) (ts.getD i t0) ∧ Lst w (ts.getD i t0) := by
  rcases h with h | ⟨b, off, h1, h2, h3⟩
  · rw [h] at hi; simp at hi
  · exact ⟨b, off, h1, h2, h3 i hi⟩
/-- All texts and numbers are such as a machine can hold. -/
structure Ft (q : T) : Prop where
  z : In64 q.z
  m : Rng.Fit q.ms ∧ q.ms.length ≤ maxLen
  k : Rng.Fit q.ks ∧ q.ks.length ≤ maxLen
  d : Rng.Fit q.ds ∧ q.ds.length ≤ maxLen
  o : Rng.Fit q.os ∧ q.os.length ≤ maxLen
  y : Rng.Fit q.ys ∧ q.ys.length ≤ maxLen
  u : Inw.FitJ q.us ∧ q.us.length ≤ maxLen
def Fit (ts : List T) : Prop := ∀ i, Ft (ts.getD i t0)
/-- How many items its lists have. -/
def wt (q : T) : Nat := q.ms.length + q.ks.length + q.ds.length + q.os.length + q.ys.length + q.us.length
def tot (ts : List T) : Nat → Nat
  | 0 => 0
  | k + 1 => tot ts k + wt (ts.getD k t0)
def Sml (ts : List T) : Prop := ∀ i, i < ts.length → wt (ts.getD i t0) ≤ 1048576
theorem tot_mono (ts : List T) : ∀ (k j : Nat), j ≤ k → tot ts j ≤ tot ts k := by
  intro k
  induction k with
  | zero => intro j h; rw [show j = 0 by omega]; exact Nat.le_refl _
  | succ k ih =>
    intro j h
    by_cases e : j = k + 1
    · rw [e]; exact Nat.le_refl _
    · have := ih j (by omega)
      simp only [tot]; omega
theorem sml_tot {ts : List T} (h : tot ts ts.length ≤ 1048576) : Sml ts := by
  intro i hi
  have := tot_mono ts ts.length (i + 1) hi
  simp only [tot] at this
  omega
def Same (n : Nat) (ts ts' : List T) : Prop := ∀ i, i < n → pl (ts'.getD i t0) = pl (ts.getD i t0)

set_option maxHeartbeats 4000000 in
theorem f49 (q : T) (L : Int) (w : World) (hL0 : 0 ≤ L) (hL1 : L ≤ 1048576) (hr : Lst w q) (hf : Ft q) :
    Calls Tryz.prog 49 #[agT q, .int .i64 L] w fun e w' => ∃ y : Int, e = .returned (.int .i64 y) ∧ -1 ≤ y ∧ y ≤ L ∧ (0 ≤ y → wt q + y ≤ L) ∧ Below w.heap.size w w' := by
  have HB0 := hid ((Below.refl w.heap.size w).alloc (Nat.le_refl _) (.cells (arT q) 92))
  have HX0 := hid (heap_alloc_new w (.cells (arT q) 92))
  have HR := hid hr
  have HF := hid hf
  clear hr hf
  obtain ⟨W0, hW⟩ : ∃ W, W = w.alloc (.cells (arT q) 92) := ⟨_, rfl⟩
  rw [← hW] at HB0 HX0
  have HW := hid hW
  clear hW
  simp only [agT]
  go_enter Tryz.func49, Tryz.ntmps49
  go_upto_region 1 with fail
  rw [← HW.out]
  clear HW
  obtain ⟨y, hy⟩ : ∃ y : Int, y = L := ⟨_, rfl⟩
  have HY0 : Hid (0 + y ≤ L) := by unfold Hid; omega
  have hy0 : 0 ≤ y := by omega
  have hyL : y ≤ L := by omega
  rw [← hy]
  have HLY := hid hyL
  clear hy
  obtain ⟨c0, c1, c2, c3, c4, c5, c6⟩ := cellsN HX0.out
  go_wp2_with fail
  refine (Rnw.f85u q.ma q.ms.length q.mc y q.ms _ (by omega) (by omega) rfl (HR.out.m.below HB0.out) HF.out.m.1 HF.out.m.2).mono ?_
  rintro e w1 ⟨u1, rfl, u1l, u1h, hu, hb⟩
  have HB1 := hid (HB0.out.trans (hb.mono HB0.out.size))
  have HX1 := hid (kept HX0.out hb)
  have HU1 := hid hu
  clear hb hu c0 c1 c2 c3 c4 c5 c6
  by_cases g1 : u1 < 0
  · go_wp2
    go_ret
    exact ⟨-1, rfl, by omega, by omega, fun h => absurd h (by omega), HB1.out⟩
  have HV1 := hid (HU1.out (by omega))
  obtain ⟨c0, c1, c2, c3, c4, c5, c6⟩ := cellsN HX1.out
  go_wp2_with fail
  refine (Rnw.f85u q.ka q.ks.length q.kc u1 q.ks _ (by omega) (by omega) rfl (HR.out.k.below HB1.out) HF.out.k.1 HF.out.k.2).mono ?_
  rintro e w2 ⟨u2, rfl, u2l, u2h, hu, hb⟩
  have HB2 := hid (HB1.out.trans (hb.mono HB1.out.size))
  have HX2 := hid (kept HX1.out hb)
  have HU2 := hid hu
  clear hb hu c0 c1 c2 c3 c4 c5 c6
  by_cases g2 : u2 < 0
  · go_wp2
    go_ret
    exact ⟨-1, rfl, by omega, by omega, fun h => absurd h (by omega), HB2.out⟩
  have HV2 := hid (HU2.out (by omega))
  obtain ⟨c0, c1, c2, c3, c4, c5, c6⟩ := cellsN HX2.out
  go_wp2_with fail
  refine (Rnw.f85u q.da q.ds.length q.dc u2 q.ds _ (by omega) (by omega) rfl (HR.out.d.below HB2.out) HF.out.d.1 HF.out.d.2).mono ?_
  rintro e w3 ⟨u3, rfl, u3l, u3h, hu, hb⟩
  have HB3 := hid (HB2.out.trans (hb.mono HB2.out.size))
  have HX3 := hid (kept HX2.out hb)
  have HU3 := hid hu
  clear hb hu c0 c1 c2 c3 c4 c5 c6
  by_cases g3 : u3 < 0
  · go_wp2
    go_ret
    exact ⟨-1, rfl, by omega, by omega, fun h => absurd h (by omega), HB3.out⟩
  have HV3 := hid (HU3.out (by omega))
  obtain ⟨c0, c1, c2, c3, c4, c5, c6⟩ := cellsN HX3.out
  go_wp2_with fail
  refine (Rnw.f85u q.oa q.os.length q.oc u3 q.os _ (by omega) (by omega) rfl (HR.out.o.below HB3.out) HF.out.o.1 HF.out.o.2).mono ?_
  rintro e w4 ⟨u4, rfl, u4l, u4h, hu, hb⟩
  have HB4 := hid (HB3.out.trans (hb.mono HB3.out.size))
  have HX4 := hid (kept HX3.out hb)
  have HU4 := hid hu
  clear hb hu c0 c1 c2 c3 c4 c5 c6
  by_cases g4 : u4 < 0
  · go_wp2
    go_ret
    exact ⟨-1, rfl, by omega, by omega, fun h => absurd h (by omega), HB4.out⟩
  have HV4 := hid (HU4.out (by omega))
  obtain ⟨c0, c1, c2, c3, c4, c5, c6⟩ := cellsN HX4.out
  go_wp2_with fail
  refine (Rnw.f85u q.ya q.ys.length q.yc u4 q.ys _ (by omega) (by omega) rfl (HR.out.y.below HB4.out) HF.out.y.1 HF.out.y.2).mono ?_
  rintro e w5 ⟨u5, rfl, u5l, u5h, hu, hb⟩
  have HB5 := hid (HB4.out.trans (hb.mono HB4.out.size))
  have HX5 := hid (kept HX4.out hb)
  have HU5 := hid hu
  clear hb hu c0 c1 c2 c3 c4 c5 c6
  by_cases g5 : u5 < 0
  · go_wp2
    go_ret
    exact ⟨-1, rfl, by omega, by omega, fun h => absurd h (by omega), HB5.out⟩
  have HV5 := hid (HU5.out (by omega))
  obtain ⟨c0, c1, c2, c3, c4, c5, c6⟩ := cellsN HX5.out
  go_wp2_with fail
  refine (Inw.f84u q.ua q.us.length q.uc u5 q.us _ (by omega) (by omega) rfl (HR.out.u.below HB5.out) HF.out.u.1 HF.out.u.2).mono ?_
  rintro e w6 ⟨u6, rfl, u6l, u6h, hu, hb⟩
  have HB6 := hid (HB5.out.trans (hb.mono HB5.out.size))
  have HX6 := hid (kept HX5.out hb)
  have HU6 := hid hu
  clear hb hu c0 c1 c2 c3 c4 c5 c6
  by_cases g6 : u6 < 0
  · go_wp2
    go_ret
    exact ⟨-1, rfl, by omega, by omega, fun h => absurd h (by omega), HB6.out⟩
  have HV6 := hid (HU6.out (by omega))
  go_wp2
  go_ret
  exact ⟨u6, rfl, by omega, by omega, fun _ => by have := HV1.out; have := HV2.out; have := HV3.out; have := HV4.out; have := HV5.out; have := HV6.out; unfold wt; omega, HB6.out⟩

set_option maxHeartbeats 2000000 in
theorem f19 (a : Option Addr) (n c : Nat) (L : Int) (ts : List T) (w : World) (hL0 : 0 ≤ L) (hL1 : L ≤ 1048576) (hn : ts.length = n) (hr : Has w a ts) (hf : Fit ts) (hmax : n ≤ maxLen) :
    Calls Tryz.prog 19 #[.slice a n c, .int .i64 L] w fun e w' => ∃ y : Int, e = .returned (.int .i64 y) ∧ -1 ≤ y ∧ y ≤ L ∧ (0 ≤ y → n + tot ts n + y ≤ L) ∧ Below w.heap.size w w' := by
  unfold maxLen at hmax
  by_cases hbig : n ≤ L
  · have HN := hid hn
    have HR := hid hr
    have HF := hid hf
    clear hn hr hf
    go_enter Tryz.func19, Tryz.ntmps19
    go_wp2
    go_loopw [1, 5] (fun sx i wr => ∃ (k : Nat) (x : Int), k ≤ n ∧ i = .int .i64 k ∧ sx = .int .i64 x ∧ 0 ≤ x ∧ n + tot ts k + x ≤ L ∧ Hid (Below w.heap.size w wr)) (fun _ i _ => n - (intOf i).toNat)
    case atStart => exact ⟨0, _, Nat.zero_le _, rfl, rfl, by omega, by simp only [tot]; omega, Below.refl _ _⟩
    case round =>
      obtain ⟨k, x, hk, rfl, rfl, hx0, hx1, HB⟩ := hrel
      by_cases hlt : k < n
      · obtain ⟨b, off, rfl, hbl, hc, hl⟩ := (HR.out).at2 k (by rw [HN.out]; exact hlt)
        obtain ⟨d0, d1, d2, d3, d4, d5, d6⟩ := (hc.below HB.out hbl).all
        have HL := hid (hl.below HB.out)
        have G := hid (HF.out k)
        have HT : Hid (tot ts (k + 1) = tot ts k + wt (ts.getD k t0)) := rfl
        clear hc hl hbl
        generalize ts.getD k t0 = q at *
        go_wp2_with fail
        refine (f49 q x _ hx0 (by omega) HL.out G.out).mono ?_
        rintro e w2 ⟨y, rfl, y0, y1, hy, hb2⟩
        have HB2 := hid (HB.out.trans (hb2.mono HB.out.size))
        clear hb2 d0 d1 d2 d3 d4 d5 d6 HB
        by_cases hy0 : y < 0
        · go_wp2
          go_ret
          exact ⟨-1, rfl, by omega, by omega, fun h => absurd h (by omega), HB2.out⟩
        · have hy' := hid (hy (by omega))
          clear hy
          go_wp2
          go_roundw
          case rel => exact ⟨k + 1, y, by omega, by go_num, rfl, by omega, by rw [HT.out]; have := hy'.out; omega, HB2.out⟩
          case measure => simp [intOf]; omega
      · obtain rfl : k = n := by omega
        go_wp2
        go_ret
        exact ⟨x, rfl, by omega, by omega, fun _ => by omega, HB.out⟩
  · go_enter Tryz.func19, Tryz.ntmps19
    go_wp2
    go_ret
    exact ⟨-1, rfl, by omega, by omega, by omega, Below.refl _ _⟩

/-- One whose lists are in memory of their own, from B on and below U. -/
structure Own1 (X B U : Nat) (q : T) (w : World) : Prop where
  m : ∃ g, q.ma = some ⟨g, 0, none⟩ ∧ B ≤ g ∧ g < U ∧ w.ownsRow X 109 2 (.slice (some ⟨g, 0, none⟩) q.ms.length q.mc) q.ms.length (Rng.flat q.ms)
  k : ∃ g, q.ka = some ⟨g, 0, none⟩ ∧ B ≤ g ∧ g < U ∧ w.ownsRow X 109 2 (.slice (some ⟨g, 0, none⟩) q.ks.length q.kc) q.ks.length (Rng.flat q.ks)
  d : ∃ g, q.da = some ⟨g, 0, none⟩ ∧ B ≤ g ∧ g < U ∧ w.ownsRow X 109 2 (.slice (some ⟨g, 0, none⟩) q.ds.length q.dc) q.ds.length (Rng.flat q.ds)
  o : ∃ g, q.oa = some ⟨g, 0, none⟩ ∧ B ≤ g ∧ g < U ∧ w.ownsRow X 109 2 (.slice (some ⟨g, 0, none⟩) q.os.length q.oc) q.os.length (Rng.flat q.os)
  y : ∃ g, q.ya = some ⟨g, 0, none⟩ ∧ B ≤ g ∧ g < U ∧ w.ownsRow X 109 2 (.slice (some ⟨g, 0, none⟩) q.ys.length q.yc) q.ys.length (Rng.flat q.ys)
  u : ∃ g, q.ua = some ⟨g, 0, none⟩ ∧ B ≤ g ∧ g < U ∧ w.ownsRow X 3 1 (.slice (some ⟨g, 0, none⟩) q.us.length q.uc) q.us.length (List.map (Value.int .i64) q.us)
theorem Own1.below {X B U : Nat} {q : T} {w w' : World} (h : Own1 X B U q w) (hb : Below w.heap.size w w') : Own1 X B U q w' := by
  obtain ⟨gm, xm, ym, zm, om⟩ := h.m
  obtain ⟨gk, xk, yk, zk, ok⟩ := h.k
  obtain ⟨gd, xd, yd, zd, od⟩ := h.d
  obtain ⟨go, xo, yo, zo, oo⟩ := h.o
  obtain ⟨gy, xy, yy, zy, oy⟩ := h.y
  obtain ⟨gu, xu, yu, zu, ou⟩ := h.u
  exact ⟨⟨gm, xm, ym, zm, own_below om hb⟩, ⟨gk, xk, yk, zk, own_below ok hb⟩, ⟨gd, xd, yd, zd, own_below od hb⟩, ⟨go, xo, yo, zo, own_below oo hb⟩, ⟨gy, xy, yy, zy, own_below oy hb⟩, ⟨gu, xu, yu, zu, own_below ou hb⟩⟩
theorem Own1.set {X B U c o : Nat} {q : T} {w : World} (h : Own1 X B U q w) (hc : c < B ∨ U ≤ c) (v : Value) : Own1 X B U q (w.setCell ⟨c, o, none⟩ v) := by
  obtain ⟨gm, xm, ym, zm, om⟩ := h.m
  obtain ⟨gk, xk, yk, zk, ok⟩ := h.k
  obtain ⟨gd, xd, yd, zd, od⟩ := h.d
  obtain ⟨go, xo, yo, zo, oo⟩ := h.o
  obtain ⟨gy, xy, yy, zy, oy⟩ := h.y
  obtain ⟨gu, xu, yu, zu, ou⟩ := h.u
  exact ⟨⟨gm, xm, ym, zm, own_set om (by simp only; omega) v⟩, ⟨gk, xk, yk, zk, own_set ok (by simp only; omega) v⟩, ⟨gd, xd, yd, zd, own_set od (by simp only; omega) v⟩, ⟨go, xo, yo, zo, own_set oo (by simp only; omega) v⟩, ⟨gy, xy, yy, zy, own_set oy (by simp only; omega) v⟩, ⟨gu, xu, yu, zu, own_set ou (by simp only; omega) v⟩⟩
theorem Own1.wide {X Y B C U V : Nat} {q : T} {w : World} (h : Own1 X B U q w) (hX : Y ≤ X) (hB : C ≤ B) (hU : U ≤ V) : Own1 Y C V q w := by
  obtain ⟨gm, xm, ym, zm, om⟩ := h.m
  obtain ⟨gk, xk, yk, zk, ok⟩ := h.k
  obtain ⟨gd, xd, yd, zd, od⟩ := h.d
  obtain ⟨go, xo, yo, zo, oo⟩ := h.o
  obtain ⟨gy, xy, yy, zy, oy⟩ := h.y
  obtain ⟨gu, xu, yu, zu, ou⟩ := h.u
  exact ⟨⟨gm, xm, by omega, by omega, own_base om hX⟩, ⟨gk, xk, by omega, by omega, own_base ok hX⟩, ⟨gd, xd, by omega, by omega, own_base od hX⟩, ⟨go, xo, by omega, by omega, own_base oo hX⟩, ⟨gy, xy, by omega, by omega, own_base oy hX⟩, ⟨gu, xu, by omega, by omega, own_base ou hX⟩⟩
theorem Own1.lst {X B U : Nat} {q : T} {w : World} (h : Own1 X B U q w) : Lst w q := by
  obtain ⟨gm, xm, ym, zm, om⟩ := h.m
  obtain ⟨gk, xk, yk, zk, ok⟩ := h.k
  obtain ⟨gd, xd, yd, zd, od⟩ := h.d
  obtain ⟨go, xo, yo, zo, oo⟩ := h.o
  obtain ⟨gy, xy, yy, zy, oy⟩ := h.y
  obtain ⟨gu, xu, yu, zu, ou⟩ := h.u
  exact ⟨by rw [xm]; exact Rng.HasS.own om, by rw [xk]; exact Rng.HasS.own ok, by rw [xd]; exact Rng.HasS.own od, by rw [xo]; exact Rng.HasS.own oo, by rw [xy]; exact Rng.HasS.own oy, by rw [xu]; exact Ino.Has.own ou⟩
structure Ti (w : World) (q : T) (m0 m1 m2 m3 m4 m5 m6 : Value) (W : World) : Prop where
  arg : W.heap[w.heap.size]? = some (.cells (arT q) 92)
  res : W.heap[w.heap.size + 1]? = some (.cells #[.int .i64 0, .slice none 0 0, .slice none 0 0, .slice none 0 0, .slice none 0 0, .slice none 0 0, .slice none 0 0] 62)
  out : W.heap[w.heap.size + 2]? = some (.cells #[m0, m1, m2, m3, m4, m5, m6] 62)
  bel : Below w.heap.size w W
theorem Ti.mv {w W W' : World} {q : T} {m0 m1 m2 m3 m4 m5 m6 : Value} (h : Ti w q m0 m1 m2 m3 m4 m5 m6 W) (hb : Below W.heap.size W W') : Ti w q m0 m1 m2 m3 m4 m5 m6 W' :=
  ⟨kept h.arg hb, kept h.res hb, kept h.out hb, h.bel.trans (hb.mono h.bel.size)⟩
theorem Ti.s0 {w W : World} {q : T} {m0 m1 m2 m3 m4 m5 m6 : Value} (h : Ti w q m0 m1 m2 m3 m4 m5 m6 W) (x : Value) : Ti w q x m1 m2 m3 m4 m5 m6 (W.setCell ⟨w.heap.size + 2, 0, none⟩ x) := ⟨set_else h.arg (by simp only; omega), set_else h.res (by simp only; omega), set_at h.out, h.bel.setCell (by simp) _⟩
theorem Ti.s1 {w W : World} {q : T} {m0 m1 m2 m3 m4 m5 m6 : Value} (h : Ti w q m0 m1 m2 m3 m4 m5 m6 W) (x : Value) : Ti w q m0 x m2 m3 m4 m5 m6 (W.setCell ⟨w.heap.size + 2, 1, none⟩ x) := ⟨set_else h.arg (by simp only; omega), set_else h.res (by simp only; omega), set_at h.out, h.bel.setCell (by simp) _⟩
theorem Ti.s2 {w W : World} {q : T} {m0 m1 m2 m3 m4 m5 m6 : Value} (h : Ti w q m0 m1 m2 m3 m4 m5 m6 W) (x : Value) : Ti w q m0 m1 x m3 m4 m5 m6 (W.setCell ⟨w.heap.size + 2, 2, none⟩ x) := ⟨set_else h.arg (by simp only; omega), set_else h.res (by simp only; omega), set_at h.out, h.bel.setCell (by simp) _⟩
theorem Ti.s3 {w W : World} {q : T} {m0 m1 m2 m3 m4 m5 m6 : Value} (h : Ti w q m0 m1 m2 m3 m4 m5 m6 W) (x : Value) : Ti w q m0 m1 m2 x m4 m5 m6 (W.setCell ⟨w.heap.size + 2, 3, none⟩ x) := ⟨set_else h.arg (by simp only; omega), set_else h.res (by simp only; omega), set_at h.out, h.bel.setCell (by simp) _⟩
theorem Ti.s4 {w W : World} {q : T} {m0 m1 m2 m3 m4 m5 m6 : Value} (h : Ti w q m0 m1 m2 m3 m4 m5 m6 W) (x : Value) : Ti w q m0 m1 m2 m3 x m5 m6 (W.setCell ⟨w.heap.size + 2, 4, none⟩ x) := ⟨set_else h.arg (by simp only; omega), set_else h.res (by simp only; omega), set_at h.out, h.bel.setCell (by simp) _⟩
theorem Ti.s5 {w W : World} {q : T} {m0 m1 m2 m3 m4 m5 m6 : Value} (h : Ti w q m0 m1 m2 m3 m4 m5 m6 W) (x : Value) : Ti w q m0 m1 m2 m3 m4 x m6 (W.setCell ⟨w.heap.size + 2, 5, none⟩ x) := ⟨set_else h.arg (by simp only; omega), set_else h.res (by simp only; omega), set_at h.out, h.bel.setCell (by simp) _⟩
theorem Ti.s6 {w W : World} {q : T} {m0 m1 m2 m3 m4 m5 m6 : Value} (h : Ti w q m0 m1 m2 m3 m4 m5 m6 W) (x : Value) : Ti w q m0 m1 m2 m3 m4 m5 x (W.setCell ⟨w.heap.size + 2, 6, none⟩ x) := ⟨set_else h.arg (by simp only; omega), set_else h.res (by simp only; omega), set_at h.out, h.bel.setCell (by simp) _⟩
theorem Ti.first (w : World) (q : T) : Ti w q (.int .i64 0) (.slice none 0 0) (.slice none 0 0) (.slice none 0 0) (.slice none 0 0) (.slice none 0 0) (.slice none 0 0) (((w.alloc (.cells (arT q) 92)).alloc (.cells #[.int .i64 0, .slice none 0 0, .slice none 0 0, .slice none 0 0, .slice none 0 0, .slice none 0 0, .slice none 0 0] 62)).alloc (.cells #[.int .i64 0, .slice none 0 0, .slice none 0 0, .slice none 0 0, .slice none 0 0, .slice none 0 0, .slice none 0 0] 62)) := by
  have b1 := fun (W : World) o => (Below.refl W.heap.size W).alloc (Nat.le_refl _) o
  refine ⟨kept (kept (heap_alloc_new w _) (b1 _ _)) (b1 _ _), ?_, ?_, ((b1 w _).alloc (by simp) _).alloc (by simp; omega) _⟩
  · have := kept (heap_alloc_new (w.alloc (.cells (arT q) 92)) (.cells #[.int .i64 0, .slice none 0 0, .slice none 0 0, .slice none 0 0, .slice none 0 0, .slice none 0 0, .slice none 0 0] 62)) (b1 _ (.cells #[.int .i64 0, .slice none 0 0, .slice none 0 0, .slice none 0 0, .slice none 0 0, .slice none 0 0, .slice none 0 0] 62))
    simpa using this
  · have := heap_alloc_new ((w.alloc (.cells (arT q) 92)).alloc (.cells #[.int .i64 0, .slice none 0 0, .slice none 0 0, .slice none 0 0, .slice none 0 0, .slice none 0 0, .slice none 0 0] 62)) (.cells #[.int .i64 0, .slice none 0 0, .slice none 0 0, .slice none 0 0, .slice none 0 0, .slice none 0 0, .slice none 0 0] 62)
    simpa using this

set_option maxRecDepth 100000 in
set_option maxHeartbeats 8000000 in
theorem f60 (q : T) (w : World) (hr : Lst w q) (hs : wt q ≤ 1048576) :
    Calls Tryz.prog 60 #[agT q] w fun e w' => ∃ q' : T, e = .returned (agT q') ∧ pl q' = pl q ∧ Own1 w.heap.size (w.heap.size + 3) w'.heap.size q' w' ∧ Below w.heap.size w w' := by
  have HR := hid hr
  clear hr
  unfold wt at hs
  have HT := hid (Ti.first w q)
  obtain ⟨W0, hW0⟩ : ∃ W, W = ((w.alloc (.cells (arT q) 92)).alloc (.cells #[.int .i64 0, .slice none 0 0, .slice none 0 0, .slice none 0 0, .slice none 0 0, .slice none 0 0, .slice none 0 0] 62)).alloc (.cells #[.int .i64 0, .slice none 0 0, .slice none 0 0, .slice none 0 0, .slice none 0 0, .slice none 0 0, .slice none 0 0] 62) := ⟨_, rfl⟩
  rw [← hW0] at HT
  have HW := hid hW0
  clear hW0
  simp only [agT]
  go_enter Tryz.func60, Tryz.ntmps60
  go_upto_region 2 with fail
  rw [← HW.out]
  clear HW
  obtain ⟨y0, y1, y2, y3, y4, y5, y6⟩ := cellsN HT.out.arg
  have HU := HT
  clear HT
  obtain ⟨x0, x1, x2, x3, x4, x5, x6⟩ := cellsN HU.out.out
  obtain ⟨f0, f1, f2, f3, f4, f5, f6⟩ := frozN HU.out.out
  have HT := hid (HU.out.s0 (.int .i64 q.z))
  obtain ⟨W1, hW⟩ : ∃ W, W = W0.setCell ⟨w.heap.size + 2, 0, none⟩ (.int .i64 q.z) := ⟨_, rfl⟩
  rw [← hW] at HT 
  have HW := hid hW
  clear hW HU
  go_upto_region 3 with fail
  rw [← HW.out]
  clear HW x0 x1 x2 x3 x4 x5 x6 f0 f1 f2 f3 f4 f5 f6 y0 y1 y2 y3 y4 y5 y6
  obtain ⟨x0, x1, x2, x3, x4, x5, x6⟩ := cellsN HT.out.arg
  go_wp2_with fail
  refine (Rnw.f96 q.ma q.ms.length q.mc q.ms _ rfl (by omega) (HR.out.m.below HT.out.bel)).mono ?_
  rintro e v1 ⟨rfl, ho, hb⟩
  have hlt : w.heap.size + 2 < W1.heap.size := lt_at HT.out.out
  have HQm : Hid (v1.ownsRow w.heap.size 109 2 (.slice (some ⟨W1.heap.size, 0, none⟩) q.ms.length q.ms.length) q.ms.length (Rng.flat q.ms)) := own_base ho HT.out.bel.size
  have HGm := hid hlt
  have HU := hid (HT.out.mv hb)
  clear HT x0 x1 x2 x3 x4 x5 x6 ho hb hlt
  obtain ⟨Sm, hS⟩ : ∃ S, S = W1.heap.size := ⟨_, rfl⟩
  rw [← hS] at HQm HGm ⊢
  clear hS
  obtain ⟨x0, x1, x2, x3, x4, x5, x6⟩ := cellsN HU.out.out
  obtain ⟨f0, f1, f2, f3, f4, f5, f6⟩ := frozN HU.out.out
  have HT := hid (HU.out.s1 (.slice (some ⟨Sm, 0, none⟩) q.ms.length q.ms.length))
  have HQm' := hid (own_set HQm.out (p := ⟨w.heap.size + 2, 1, none⟩) (by have := HGm.out; simp only; omega) (.slice (some ⟨Sm, 0, none⟩) q.ms.length q.ms.length))
  clear HQm
  obtain ⟨W2, hW⟩ : ∃ W, W = v1.setCell ⟨w.heap.size + 2, 1, none⟩ (.slice (some ⟨Sm, 0, none⟩) q.ms.length q.ms.length) := ⟨_, rfl⟩
  rw [← hW] at HT HQm'
  have HQm := HQm'
  clear HQm'
  have HW := hid hW
  clear hW HU
  go_upto_region 4 with fail
  rw [← HW.out]
  clear HW x0 x1 x2 x3 x4 x5 x6 f0 f1 f2 f3 f4 f5 f6
  obtain ⟨x0, x1, x2, x3, x4, x5, x6⟩ := cellsN HT.out.arg
  go_wp2_with fail
  refine (Rnw.f96 q.ka q.ks.length q.kc q.ks _ rfl (by omega) (HR.out.k.below HT.out.bel)).mono ?_
  rintro e v2 ⟨rfl, ho, hb⟩
  have hlt : w.heap.size + 2 < W2.heap.size := lt_at HT.out.out
  have HQk : Hid (v2.ownsRow w.heap.size 109 2 (.slice (some ⟨W2.heap.size, 0, none⟩) q.ks.length q.ks.length) q.ks.length (Rng.flat q.ks)) := own_base ho HT.out.bel.size
  have HGk := hid hlt
  have HPm := hid (own_below HQm.out hb)
  clear HQm
  have HU := hid (HT.out.mv hb)
  clear HT x0 x1 x2 x3 x4 x5 x6 ho hb hlt
  obtain ⟨Sk, hS⟩ : ∃ S, S = W2.heap.size := ⟨_, rfl⟩
  rw [← hS] at HQk HGk ⊢
  clear hS
  have HQm := HPm
  clear HPm
  obtain ⟨x0, x1, x2, x3, x4, x5, x6⟩ := cellsN HU.out.out
  obtain ⟨f0, f1, f2, f3, f4, f5, f6⟩ := frozN HU.out.out
  have HT := hid (HU.out.s2 (.slice (some ⟨Sk, 0, none⟩) q.ks.length q.ks.length))
  have HQm' := hid (own_set HQm.out (p := ⟨w.heap.size + 2, 2, none⟩) (by have := HGm.out; simp only; omega) (.slice (some ⟨Sk, 0, none⟩) q.ks.length q.ks.length))
  clear HQm
  have HQk' := hid (own_set HQk.out (p := ⟨w.heap.size + 2, 2, none⟩) (by have := HGk.out; simp only; omega) (.slice (some ⟨Sk, 0, none⟩) q.ks.length q.ks.length))
  clear HQk
  obtain ⟨W3, hW⟩ : ∃ W, W = v2.setCell ⟨w.heap.size + 2, 2, none⟩ (.slice (some ⟨Sk, 0, none⟩) q.ks.length q.ks.length) := ⟨_, rfl⟩
  rw [← hW] at HT HQm' HQk'
  have HQm := HQm'
  clear HQm'
  have HQk := HQk'
  clear HQk'
  have HW := hid hW
  clear hW HU
  go_upto_region 5 with fail
  rw [← HW.out]
  clear HW x0 x1 x2 x3 x4 x5 x6 f0 f1 f2 f3 f4 f5 f6
  obtain ⟨x0, x1, x2, x3, x4, x5, x6⟩ := cellsN HT.out.arg
  go_wp2_with fail
  refine (Rnw.f96 q.da q.ds.length q.dc q.ds _ rfl (by omega) (HR.out.d.below HT.out.bel)).mono ?_
  rintro e v3 ⟨rfl, ho, hb⟩
  have hlt : w.heap.size + 2 < W3.heap.size := lt_at HT.out.out
  have HQd : Hid (v3.ownsRow w.heap.size 109 2 (.slice (some ⟨W3.heap.size, 0, none⟩) q.ds.length q.ds.length) q.ds.length (Rng.flat q.ds)) := own_base ho HT.out.bel.size
  have HGd := hid hlt
  have HPm := hid (own_below HQm.out hb)
  clear HQm
  have HPk := hid (own_below HQk.out hb)
  clear HQk
  have HU := hid (HT.out.mv hb)
  clear HT x0 x1 x2 x3 x4 x5 x6 ho hb hlt
  obtain ⟨Sd, hS⟩ : ∃ S, S = W3.heap.size := ⟨_, rfl⟩
  rw [← hS] at HQd HGd ⊢
  clear hS
  have HQm := HPm
  clear HPm
  have HQk := HPk
  clear HPk
  obtain ⟨x0, x1, x2, x3, x4, x5, x6⟩ := cellsN HU.out.out
  obtain ⟨f0, f1, f2, f3, f4, f5, f6⟩ := frozN HU.out.out
  have HT := hid (HU.out.s3 (.slice (some ⟨Sd, 0, none⟩) q.ds.length q.ds.length))
  have HQm' := hid (own_set HQm.out (p := ⟨w.heap.size + 2, 3, none⟩) (by have := HGm.out; simp only; omega) (.slice (some ⟨Sd, 0, none⟩) q.ds.length q.ds.length))
  clear HQm
  have HQk' := hid (own_set HQk.out (p := ⟨w.heap.size + 2, 3, none⟩) (by have := HGk.out; simp only; omega) (.slice (some ⟨Sd, 0, none⟩) q.ds.length q.ds.length))
  clear HQk
  have HQd' := hid (own_set HQd.out (p := ⟨w.heap.size + 2, 3, none⟩) (by have := HGd.out; simp only; omega) (.slice (some ⟨Sd, 0, none⟩) q.ds.length q.ds.length))
  clear HQd
  obtain ⟨W4, hW⟩ : ∃ W, W = v3.setCell ⟨w.heap.size + 2, 3, none⟩ (.slice (some ⟨Sd, 0, none⟩) q.ds.length q.ds.length) := ⟨_, rfl⟩
  rw [← hW] at HT HQm' HQk' HQd'
  have HQm := HQm'
  clear HQm'
  have HQk := HQk'
  clear HQk'
  have HQd := HQd'
  clear HQd'
  have HW := hid hW
  clear hW HU
  go_upto_region 6 with fail
  rw [← HW.out]
  clear HW x0 x1 x2 x3 x4 x5 x6 f0 f1 f2 f3 f4 f5 f6
  obtain ⟨x0, x1, x2, x3, x4, x5, x6⟩ := cellsN HT.out.arg
  go_wp2_with fail
  refine (Rnw.f96 q.oa q.os.length q.oc q.os _ rfl (by omega) (HR.out.o.below HT.out.bel)).mono ?_
  rintro e v4 ⟨rfl, ho, hb⟩
  have hlt : w.heap.size + 2 < W4.heap.size := lt_at HT.out.out
  have HQo : Hid (v4.ownsRow w.heap.size 109 2 (.slice (some ⟨W4.heap.size, 0, none⟩) q.os.length q.os.length) q.os.length (Rng.flat q.os)) := own_base ho HT.out.bel.size
  have HGo := hid hlt
  have HPm := hid (own_below HQm.out hb)
  clear HQm
  have HPk := hid (own_below HQk.out hb)
  clear HQk
  have HPd := hid (own_below HQd.out hb)
  clear HQd
  have HU := hid (HT.out.mv hb)
  clear HT x0 x1 x2 x3 x4 x5 x6 ho hb hlt
  obtain ⟨So, hS⟩ : ∃ S, S = W4.heap.size := ⟨_, rfl⟩
  rw [← hS] at HQo HGo ⊢
  clear hS
  have HQm := HPm
  clear HPm
  have HQk := HPk
  clear HPk
  have HQd := HPd
  clear HPd
  obtain ⟨x0, x1, x2, x3, x4, x5, x6⟩ := cellsN HU.out.out
  obtain ⟨f0, f1, f2, f3, f4, f5, f6⟩ := frozN HU.out.out
  have HT := hid (HU.out.s4 (.slice (some ⟨So, 0, none⟩) q.os.length q.os.length))
  have HQm' := hid (own_set HQm.out (p := ⟨w.heap.size + 2, 4, none⟩) (by have := HGm.out; simp only; omega) (.slice (some ⟨So, 0, none⟩) q.os.length q.os.length))
  clear HQm
  have HQk' := hid (own_set HQk.out (p := ⟨w.heap.size + 2, 4, none⟩) (by have := HGk.out; simp only; omega) (.slice (some ⟨So, 0, none⟩) q.os.length q.os.length))
  clear HQk
  have HQd' := hid (own_set HQd.out (p := ⟨w.heap.size + 2, 4, none⟩) (by have := HGd.out; simp only; omega) (.slice (some ⟨So, 0, none⟩) q.os.length q.os.length))
  clear HQd
  have HQo' := hid (own_set HQo.out (p := ⟨w.heap.size + 2, 4, none⟩) (by have := HGo.out; simp only; omega) (.slice (some ⟨So, 0, none⟩) q.os.length q.os.length))
  clear HQo
  obtain ⟨W5, hW⟩ : ∃ W, W = v4.setCell ⟨w.heap.size + 2, 4, none⟩ (.slice (some ⟨So, 0, none⟩) q.os.length q.os.length) := ⟨_, rfl⟩
  rw [← hW] at HT HQm' HQk' HQd' HQo'
  have HQm := HQm'
  clear HQm'
  have HQk := HQk'
  clear HQk'
  have HQd := HQd'
  clear HQd'
  have HQo := HQo'
  clear HQo'
  have HW := hid hW
  clear hW HU
  go_upto_region 7 with fail
  rw [← HW.out]
  clear HW x0 x1 x2 x3 x4 x5 x6 f0 f1 f2 f3 f4 f5 f6
  obtain ⟨x0, x1, x2, x3, x4, x5, x6⟩ := cellsN HT.out.arg
  go_wp2_with fail
  refine (Rnw.f96 q.ya q.ys.length q.yc q.ys _ rfl (by omega) (HR.out.y.below HT.out.bel)).mono ?_
  rintro e v5 ⟨rfl, ho, hb⟩
  have hlt : w.heap.size + 2 < W5.heap.size := lt_at HT.out.out
  have HQy : Hid (v5.ownsRow w.heap.size 109 2 (.slice (some ⟨W5.heap.size, 0, none⟩) q.ys.length q.ys.length) q.ys.length (Rng.flat q.ys)) := own_base ho HT.out.bel.size
  have HGy := hid hlt
  have HPm := hid (own_below HQm.out hb)
  clear HQm
  have HPk := hid (own_below HQk.out hb)
  clear HQk
  have HPd := hid (own_below HQd.out hb)
  clear HQd
  have HPo := hid (own_below HQo.out hb)
  clear HQo
  have HU := hid (HT.out.mv hb)
  clear HT x0 x1 x2 x3 x4 x5 x6 ho hb hlt
  obtain ⟨Sy, hS⟩ : ∃ S, S = W5.heap.size := ⟨_, rfl⟩
  rw [← hS] at HQy HGy ⊢
  clear hS
  have HQm := HPm
  clear HPm
  have HQk := HPk
  clear HPk
  have HQd := HPd
  clear HPd
  have HQo := HPo
  clear HPo
  obtain ⟨x0, x1, x2, x3, x4, x5, x6⟩ := cellsN HU.out.out
  obtain ⟨f0, f1, f2, f3, f4, f5, f6⟩ := frozN HU.out.out
  have HT := hid (HU.out.s5 (.slice (some ⟨Sy, 0, none⟩) q.ys.length q.ys.length))
  have HQm' := hid (own_set HQm.out (p := ⟨w.heap.size + 2, 5, none⟩) (by have := HGm.out; simp only; omega) (.slice (some ⟨Sy, 0, none⟩) q.ys.length q.ys.length))
  clear HQm
  have HQk' := hid (own_set HQk.out (p := ⟨w.heap.size + 2, 5, none⟩) (by have := HGk.out; simp only; omega) (.slice (some ⟨Sy, 0, none⟩) q.ys.length q.ys.length))
  clear HQk
  have HQd' := hid (own_set HQd.out (p := ⟨w.heap.size + 2, 5, none⟩) (by have := HGd.out; simp only; omega) (.slice (some ⟨Sy, 0, none⟩) q.ys.length q.ys.length))
  clear HQd
  have HQo' := hid (own_set HQo.out (p := ⟨w.heap.size + 2, 5, none⟩) (by have := HGo.out; simp only; omega) (.slice (some ⟨Sy, 0, none⟩) q.ys.length q.ys.length))
  clear HQo
  have HQy' := hid (own_set HQy.out (p := ⟨w.heap.size + 2, 5, none⟩) (by have := HGy.out; simp only; omega) (.slice (some ⟨Sy, 0, none⟩) q.ys.length q.ys.length))
  clear HQy
  obtain ⟨W6, hW⟩ : ∃ W, W = v5.setCell ⟨w.heap.size + 2, 5, none⟩ (.slice (some ⟨Sy, 0, none⟩) q.ys.length q.ys.length) := ⟨_, rfl⟩
  rw [← hW] at HT HQm' HQk' HQd' HQo' HQy'
  have HQm := HQm'
  clear HQm'
  have HQk := HQk'
  clear HQk'
  have HQd := HQd'
  clear HQd'
  have HQo := HQo'
  clear HQo'
  have HQy := HQy'
  clear HQy'
  have HW := hid hW
  clear hW HU
  go_upto_region 8 with fail
  rw [← HW.out]
  clear HW x0 x1 x2 x3 x4 x5 x6 f0 f1 f2 f3 f4 f5 f6
  obtain ⟨x0, x1, x2, x3, x4, x5, x6⟩ := cellsN HT.out.arg
  go_wp2_with fail
  refine (Inw.f95 q.ua q.us.length q.uc q.us _ rfl (by omega) (HR.out.u.below HT.out.bel)).mono ?_
  rintro e v6 ⟨rfl, ho, hb⟩
  have hlt : w.heap.size + 2 < W6.heap.size := lt_at HT.out.out
  have HQu : Hid (v6.ownsRow w.heap.size 3 1 (.slice (some ⟨W6.heap.size, 0, none⟩) q.us.length q.us.length) q.us.length (List.map (Value.int .i64) q.us)) := own_base ho HT.out.bel.size
  have HGu := hid hlt
  have HPm := hid (own_below HQm.out hb)
  clear HQm
  have HPk := hid (own_below HQk.out hb)
  clear HQk
  have HPd := hid (own_below HQd.out hb)
  clear HQd
  have HPo := hid (own_below HQo.out hb)
  clear HQo
  have HPy := hid (own_below HQy.out hb)
  clear HQy
  have HU := hid (HT.out.mv hb)
  clear HT x0 x1 x2 x3 x4 x5 x6 ho hb hlt
  obtain ⟨Su, hS⟩ : ∃ S, S = W6.heap.size := ⟨_, rfl⟩
  rw [← hS] at HQu HGu ⊢
  clear hS
  have HQm := HPm
  clear HPm
  have HQk := HPk
  clear HPk
  have HQd := HPd
  clear HPd
  have HQo := HPo
  clear HPo
  have HQy := HPy
  clear HPy
  obtain ⟨x0, x1, x2, x3, x4, x5, x6⟩ := cellsN HU.out.out
  obtain ⟨f0, f1, f2, f3, f4, f5, f6⟩ := frozN HU.out.out
  have HT := hid (HU.out.s6 (.slice (some ⟨Su, 0, none⟩) q.us.length q.us.length))
  have HQm' := hid (own_set HQm.out (p := ⟨w.heap.size + 2, 6, none⟩) (by have := HGm.out; simp only; omega) (.slice (some ⟨Su, 0, none⟩) q.us.length q.us.length))
  clear HQm
  have HQk' := hid (own_set HQk.out (p := ⟨w.heap.size + 2, 6, none⟩) (by have := HGk.out; simp only; omega) (.slice (some ⟨Su, 0, none⟩) q.us.length q.us.length))
  clear HQk
  have HQd' := hid (own_set HQd.out (p := ⟨w.heap.size + 2, 6, none⟩) (by have := HGd.out; simp only; omega) (.slice (some ⟨Su, 0, none⟩) q.us.length q.us.length))
  clear HQd
  have HQo' := hid (own_set HQo.out (p := ⟨w.heap.size + 2, 6, none⟩) (by have := HGo.out; simp only; omega) (.slice (some ⟨Su, 0, none⟩) q.us.length q.us.length))
  clear HQo
  have HQy' := hid (own_set HQy.out (p := ⟨w.heap.size + 2, 6, none⟩) (by have := HGy.out; simp only; omega) (.slice (some ⟨Su, 0, none⟩) q.us.length q.us.length))
  clear HQy
  have HQu' := hid (own_set HQu.out (p := ⟨w.heap.size + 2, 6, none⟩) (by have := HGu.out; simp only; omega) (.slice (some ⟨Su, 0, none⟩) q.us.length q.us.length))
  clear HQu
  obtain ⟨W7, hW⟩ : ∃ W, W = v6.setCell ⟨w.heap.size + 2, 6, none⟩ (.slice (some ⟨Su, 0, none⟩) q.us.length q.us.length) := ⟨_, rfl⟩
  rw [← hW] at HT HQm' HQk' HQd' HQo' HQy' HQu'
  have HQm := HQm'
  clear HQm'
  have HQk := HQk'
  clear HQk'
  have HQd := HQd'
  clear HQd'
  have HQo := HQo'
  clear HQo'
  have HQy := HQy'
  clear HQy'
  have HQu := HQu'
  clear HQu'
  have HW := hid hW
  clear hW HU
  go_upto_region 9 with fail
  rw [← HW.out]
  clear HW x0 x1 x2 x3 x4 x5 x6 f0 f1 f2 f3 f4 f5 f6
  obtain ⟨x0, x1, x2, x3, x4, x5, x6⟩ := cellsN HT.out.out
  obtain ⟨y0, y1, y2, y3, y4, y5, y6⟩ := cellsN HT.out.res
  obtain ⟨f0, f1, f2, f3, f4, f5, f6⟩ := frozN HT.out.res
  have HE : Hid (∀ x, x = ((((((W7.setCell ⟨w.heap.size + 1, 0, none⟩ (.int .i64 q.z)).setCell ⟨w.heap.size + 1, 1, none⟩ (.slice (some ⟨Sm, 0, none⟩) q.ms.length q.ms.length)).setCell ⟨w.heap.size + 1, 2, none⟩ (.slice (some ⟨Sk, 0, none⟩) q.ks.length q.ks.length)).setCell ⟨w.heap.size + 1, 3, none⟩ (.slice (some ⟨Sd, 0, none⟩) q.ds.length q.ds.length)).setCell ⟨w.heap.size + 1, 4, none⟩ (.slice (some ⟨So, 0, none⟩) q.os.length q.os.length)).setCell ⟨w.heap.size + 1, 5, none⟩ (.slice (some ⟨Sy, 0, none⟩) q.ys.length q.ys.length)).setCell ⟨w.heap.size + 1, 6, none⟩ (.slice (some ⟨Su, 0, none⟩) q.us.length q.us.length) → x.heap[w.heap.size + 1]? = some (.cells #[.int .i64 q.z, .slice (some ⟨Sm, 0, none⟩) q.ms.length q.ms.length, .slice (some ⟨Sk, 0, none⟩) q.ks.length q.ks.length, .slice (some ⟨Sd, 0, none⟩) q.ds.length q.ds.length, .slice (some ⟨So, 0, none⟩) q.os.length q.os.length, .slice (some ⟨Sy, 0, none⟩) q.ys.length q.ys.length, .slice (some ⟨Su, 0, none⟩) q.us.length q.us.length] 62) ∧ Below w.heap.size w x ∧ x.ownsRow w.heap.size 109 2 (.slice (some ⟨Sm, 0, none⟩) q.ms.length q.ms.length) q.ms.length (Rng.flat q.ms) ∧ x.ownsRow w.heap.size 109 2 (.slice (some ⟨Sk, 0, none⟩) q.ks.length q.ks.length) q.ks.length (Rng.flat q.ks) ∧ x.ownsRow w.heap.size 109 2 (.slice (some ⟨Sd, 0, none⟩) q.ds.length q.ds.length) q.ds.length (Rng.flat q.ds) ∧ x.ownsRow w.heap.size 109 2 (.slice (some ⟨So, 0, none⟩) q.os.length q.os.length) q.os.length (Rng.flat q.os) ∧ x.ownsRow w.heap.size 109 2 (.slice (some ⟨Sy, 0, none⟩) q.ys.length q.ys.length) q.ys.length (Rng.flat q.ys) ∧ x.ownsRow w.heap.size 3 1 (.slice (some ⟨Su, 0, none⟩) q.us.length q.us.length) q.us.length (List.map (Value.int .i64) q.us)) := by
    rintro x rfl
    refine ⟨?_, Below.setCell (Below.setCell (Below.setCell (Below.setCell (Below.setCell (Below.setCell (Below.setCell (HT.out.bel) (by simp) _) (by simp) _) (by simp) _) (by simp) _) (by simp) _) (by simp) _) (by simp) _, own_set (own_set (own_set (own_set (own_set (own_set (own_set (HQm.out) (by have := HGm.out; simp only; omega) _) (by have := HGm.out; simp only; omega) _) (by have := HGm.out; simp only; omega) _) (by have := HGm.out; simp only; omega) _) (by have := HGm.out; simp only; omega) _) (by have := HGm.out; simp only; omega) _) (by have := HGm.out; simp only; omega) _, own_set (own_set (own_set (own_set (own_set (own_set (own_set (HQk.out) (by have := HGk.out; simp only; omega) _) (by have := HGk.out; simp only; omega) _) (by have := HGk.out; simp only; omega) _) (by have := HGk.out; simp only; omega) _) (by have := HGk.out; simp only; omega) _) (by have := HGk.out; simp only; omega) _) (by have := HGk.out; simp only; omega) _, own_set (own_set (own_set (own_set (own_set (own_set (own_set (HQd.out) (by have := HGd.out; simp only; omega) _) (by have := HGd.out; simp only; omega) _) (by have := HGd.out; simp only; omega) _) (by have := HGd.out; simp only; omega) _) (by have := HGd.out; simp only; omega) _) (by have := HGd.out; simp only; omega) _) (by have := HGd.out; simp only; omega) _, own_set (own_set (own_set (own_set (own_set (own_set (own_set (HQo.out) (by have := HGo.out; simp only; omega) _) (by have := HGo.out; simp only; omega) _) (by have := HGo.out; simp only; omega) _) (by have := HGo.out; simp only; omega) _) (by have := HGo.out; simp only; omega) _) (by have := HGo.out; simp only; omega) _) (by have := HGo.out; simp only; omega) _, own_set (own_set (own_set (own_set (own_set (own_set (own_set (HQy.out) (by have := HGy.out; simp only; omega) _) (by have := HGy.out; simp only; omega) _) (by have := HGy.out; simp only; omega) _) (by have := HGy.out; simp only; omega) _) (by have := HGy.out; simp only; omega) _) (by have := HGy.out; simp only; omega) _) (by have := HGy.out; simp only; omega) _, own_set (own_set (own_set (own_set (own_set (own_set (own_set (HQu.out) (by have := HGu.out; simp only; omega) _) (by have := HGu.out; simp only; omega) _) (by have := HGu.out; simp only; omega) _) (by have := HGu.out; simp only; omega) _) (by have := HGu.out; simp only; omega) _) (by have := HGu.out; simp only; omega) _) (by have := HGu.out; simp only; omega) _⟩
    have h0 : (W7.setCell ⟨w.heap.size + 1, 0, none⟩ (.int .i64 q.z)).heap[w.heap.size + 1]? = some (.cells #[.int .i64 q.z, .slice none 0 0, .slice none 0 0, .slice none 0 0, .slice none 0 0, .slice none 0 0, .slice none 0 0] 62) := set_at HT.out.res
    have h1 : ((W7.setCell ⟨w.heap.size + 1, 0, none⟩ (.int .i64 q.z)).setCell ⟨w.heap.size + 1, 1, none⟩ (.slice (some ⟨Sm, 0, none⟩) q.ms.length q.ms.length)).heap[w.heap.size + 1]? = some (.cells #[.int .i64 q.z, .slice (some ⟨Sm, 0, none⟩) q.ms.length q.ms.length, .slice none 0 0, .slice none 0 0, .slice none 0 0, .slice none 0 0, .slice none 0 0] 62) := set_at h0
    have h2 : (((W7.setCell ⟨w.heap.size + 1, 0, none⟩ (.int .i64 q.z)).setCell ⟨w.heap.size + 1, 1, none⟩ (.slice (some ⟨Sm, 0, none⟩) q.ms.length q.ms.length)).setCell ⟨w.heap.size + 1, 2, none⟩ (.slice (some ⟨Sk, 0, none⟩) q.ks.length q.ks.length)).heap[w.heap.size + 1]? = some (.cells #[.int .i64 q.z, .slice (some ⟨Sm, 0, none⟩) q.ms.length q.ms.length, .slice (some ⟨Sk, 0, none⟩) q.ks.length q.ks.length, .slice none 0 0, .slice none 0 0, .slice none 0 0, .slice none 0 0] 62) := set_at h1
    have h3 : ((((W7.setCell ⟨w.heap.size + 1, 0, none⟩ (.int .i64 q.z)).setCell ⟨w.heap.size + 1, 1, none⟩ (.slice (some ⟨Sm, 0, none⟩) q.ms.length q.ms.length)).setCell ⟨w.heap.size + 1, 2, none⟩ (.slice (some ⟨Sk, 0, none⟩) q.ks.length q.ks.length)).setCell ⟨w.heap.size + 1, 3, none⟩ (.slice (some ⟨Sd, 0, none⟩) q.ds.length q.ds.length)).heap[w.heap.size + 1]? = some (.cells #[.int .i64 q.z, .slice (some ⟨Sm, 0, none⟩) q.ms.length q.ms.length, .slice (some ⟨Sk, 0, none⟩) q.ks.length q.ks.length, .slice (some ⟨Sd, 0, none⟩) q.ds.length q.ds.length, .slice none 0 0, .slice none 0 0, .slice none 0 0] 62) := set_at h2
    have h4 : (((((W7.setCell ⟨w.heap.size + 1, 0, none⟩ (.int .i64 q.z)).setCell ⟨w.heap.size + 1, 1, none⟩ (.slice (some ⟨Sm, 0, none⟩) q.ms.length q.ms.length)).setCell ⟨w.heap.size + 1, 2, none⟩ (.slice (some ⟨Sk, 0, none⟩) q.ks.length q.ks.length)).setCell ⟨w.heap.size + 1, 3, none⟩ (.slice (some ⟨Sd, 0, none⟩) q.ds.length q.ds.length)).setCell ⟨w.heap.size + 1, 4, none⟩ (.slice (some ⟨So, 0, none⟩) q.os.length q.os.length)).heap[w.heap.size + 1]? = some (.cells #[.int .i64 q.z, .slice (some ⟨Sm, 0, none⟩) q.ms.length q.ms.length, .slice (some ⟨Sk, 0, none⟩) q.ks.length q.ks.length, .slice (some ⟨Sd, 0, none⟩) q.ds.length q.ds.length, .slice (some ⟨So, 0, none⟩) q.os.length q.os.length, .slice none 0 0, .slice none 0 0] 62) := set_at h3
    have h5 : ((((((W7.setCell ⟨w.heap.size + 1, 0, none⟩ (.int .i64 q.z)).setCell ⟨w.heap.size + 1, 1, none⟩ (.slice (some ⟨Sm, 0, none⟩) q.ms.length q.ms.length)).setCell ⟨w.heap.size + 1, 2, none⟩ (.slice (some ⟨Sk, 0, none⟩) q.ks.length q.ks.length)).setCell ⟨w.heap.size + 1, 3, none⟩ (.slice (some ⟨Sd, 0, none⟩) q.ds.length q.ds.length)).setCell ⟨w.heap.size + 1, 4, none⟩ (.slice (some ⟨So, 0, none⟩) q.os.length q.os.length)).setCell ⟨w.heap.size + 1, 5, none⟩ (.slice (some ⟨Sy, 0, none⟩) q.ys.length q.ys.length)).heap[w.heap.size + 1]? = some (.cells #[.int .i64 q.z, .slice (some ⟨Sm, 0, none⟩) q.ms.length q.ms.length, .slice (some ⟨Sk, 0, none⟩) q.ks.length q.ks.length, .slice (some ⟨Sd, 0, none⟩) q.ds.length q.ds.length, .slice (some ⟨So, 0, none⟩) q.os.length q.os.length, .slice (some ⟨Sy, 0, none⟩) q.ys.length q.ys.length, .slice none 0 0] 62) := set_at h4
    have h6 : (((((((W7.setCell ⟨w.heap.size + 1, 0, none⟩ (.int .i64 q.z)).setCell ⟨w.heap.size + 1, 1, none⟩ (.slice (some ⟨Sm, 0, none⟩) q.ms.length q.ms.length)).setCell ⟨w.heap.size + 1, 2, none⟩ (.slice (some ⟨Sk, 0, none⟩) q.ks.length q.ks.length)).setCell ⟨w.heap.size + 1, 3, none⟩ (.slice (some ⟨Sd, 0, none⟩) q.ds.length q.ds.length)).setCell ⟨w.heap.size + 1, 4, none⟩ (.slice (some ⟨So, 0, none⟩) q.os.length q.os.length)).setCell ⟨w.heap.size + 1, 5, none⟩ (.slice (some ⟨Sy, 0, none⟩) q.ys.length q.ys.length)).setCell ⟨w.heap.size + 1, 6, none⟩ (.slice (some ⟨Su, 0, none⟩) q.us.length q.us.length)).heap[w.heap.size + 1]? = some (.cells #[.int .i64 q.z, .slice (some ⟨Sm, 0, none⟩) q.ms.length q.ms.length, .slice (some ⟨Sk, 0, none⟩) q.ks.length q.ks.length, .slice (some ⟨Sd, 0, none⟩) q.ds.length q.ds.length, .slice (some ⟨So, 0, none⟩) q.os.length q.os.length, .slice (some ⟨Sy, 0, none⟩) q.ys.length q.ys.length, .slice (some ⟨Su, 0, none⟩) q.us.length q.us.length] 62) := set_at h5
    exact h6
  go_wp2
  revert HE
  generalize hwf : World.setCell _ _ _ = wf
  intro HE
  obtain ⟨k1, k2, km, kk, kd, ko, ky, ku⟩ := HE.out wf (by rw [← hwf])
  obtain ⟨r0, r1, r2, r3, r4, r5, r6⟩ := cellsN k1
  refine bodyPost_ret (v := .agg #[.int .i64 q.z, .slice (some ⟨Sm, 0, none⟩) q.ms.length q.ms.length, .slice (some ⟨Sk, 0, none⟩) q.ks.length q.ks.length, .slice (some ⟨Sd, 0, none⟩) q.ds.length q.ds.length, .slice (some ⟨So, 0, none⟩) q.os.length q.os.length, .slice (some ⟨Sy, 0, none⟩) q.ys.length q.ys.length, .slice (some ⟨Su, 0, none⟩) q.us.length q.us.length]) (by simp [results, Tryz.results60, go_sem, r0, r1, r2, r3, r4, r5, r6]) rfl ⟨⟨q.z, q.ms, some ⟨Sm, 0, none⟩, q.ms.length, q.ks, some ⟨Sk, 0, none⟩, q.ks.length, q.ds, some ⟨Sd, 0, none⟩, q.ds.length, q.os, some ⟨So, 0, none⟩, q.os.length, q.ys, some ⟨Sy, 0, none⟩, q.ys.length, q.us, some ⟨Su, 0, none⟩, q.us.length⟩, rfl, rfl, ⟨⟨Sm, rfl, by have := HGm.out; omega, (km.lt Sm rfl).2, km⟩, ⟨Sk, rfl, by have := HGk.out; omega, (kk.lt Sk rfl).2, kk⟩, ⟨Sd, rfl, by have := HGd.out; omega, (kd.lt Sd rfl).2, kd⟩, ⟨So, rfl, by have := HGo.out; omega, (ko.lt So rfl).2, ko⟩, ⟨Sy, rfl, by have := HGy.out; omega, (ky.lt Sy rfl).2, ky⟩, ⟨Su, rfl, by have := HGu.out; omega, (ku.lt Su rfl).2, ku⟩⟩, k2⟩

theorem infoT : (Tryz.prog.info? 62).map (fun i => (i.zero, i.size, i.bytes)) = some (some (.agg #[.int .i64 0, .slice none 0 0, .slice none 0 0, .slice none 0 0, .slice none 0 0, .slice none 0 0, .slice none 0 0]), 7, 152) := by kernel_rfl
theorem step_set (d : List T) (n k : Nat) (q : T) (hd : d.length = k) (hk : k < n) : (d ++ List.replicate (n - k) t0).set k q = (d ++ [q]) ++ List.replicate (n - (k + 1)) t0 := by
  rw [List.set_append_right _ _ (by omega), hd, Nat.sub_self, show n - k = (n - (k + 1)) + 1 from by omega, List.replicate_succ, List.set_cons_zero, List.append_assoc]
  rfl
theorem getD_snoc (d : List T) (q : T) (i : Nat) : (d ++ [q]).getD i t0 = if i = d.length then q else d.getD i t0 := by
  rw [List.getD_eq_getElem?_getD, List.getD_eq_getElem?_getD]
  by_cases h : i < d.length
  · rw [List.getElem?_append_left h, if_neg (by omega)]
  · rw [List.getElem?_append_right (by omega)]
    by_cases e : i = d.length
    · rw [if_pos e, e, Nat.sub_self]; rfl
    · rw [if_neg e, List.getElem?_eq_none (by simp; omega), List.getElem?_eq_none (by omega)]
/-- The first k of a list lie in memory of their own, one behind the other: the i-th from Z i on and below Z (i + 1). -/
structure Owns (X B k : Nat) (Z : Nat → Nat) (d : List T) (w : World) : Prop where
  len : d.length = k
  low : B < Z 0
  up : ∀ i, i < k → Z i ≤ Z (i + 1)
  own : ∀ i, i < k → Own1 X (Z i) (Z (i + 1)) (d.getD i t0) w
  top : Z k ≤ w.heap.size
theorem Owns.zle {X B k : Nat} {Z : Nat → Nat} {d : List T} {w : World} (h : Owns X B k Z d w) : ∀ j i, i ≤ j → j ≤ k → Z i ≤ Z j := by
  intro j
  induction j with
  | zero => intro i hi _; rw [show i = 0 by omega]; exact Nat.le_refl _
  | succ j ih =>
    intro i hi hj
    by_cases e : i = j + 1
    · rw [e]; exact Nat.le_refl _
    · exact Nat.le_trans (ih i (by omega) (by omega)) (h.up j (by omega))
theorem Owns.below {X B k : Nat} {Z : Nat → Nat} {d : List T} {w w' : World} (h : Owns X B k Z d w) (hb : Below w.heap.size w w') : Owns X B k Z d w' := ⟨h.len, h.low, h.up, fun i hi => (h.own i hi).below hb, Nat.le_trans h.top hb.size⟩
theorem Owns.set {X B k : Nat} {Z : Nat → Nat} {d : List T} {w : World} (h : Owns X B k Z d w) (o : Nat) (v : Value) : Owns X B k Z d (w.setCell ⟨B, o, none⟩ v) :=
  ⟨h.len, h.low, h.up, fun i hi => (h.own i hi).set (.inl (Nat.lt_of_lt_of_le h.low (h.zle i 0 (Nat.zero_le _) (by omega)))) v, by simpa using h.top⟩
theorem Owns.snoc {X B k U : Nat} {Z : Nat → Nat} {d : List T} {w : World} {q : T} (h : Owns X B k Z d w) (h1 : Own1 X (Z k) U q w) (hU : Z k ≤ U) (hW : U ≤ w.heap.size) : Owns X B (k + 1) (fun i => if i ≤ k then Z i else U) (d ++ [q]) w := by
  have hl := h.len
  refine ⟨by simp [hl], by simpa using h.low, fun i hi => ?_, fun i hi => ?_, ?_⟩
  · show (if i ≤ k then Z i else U) ≤ (if i + 1 ≤ k then Z (i + 1) else U)
    rw [if_pos (show i ≤ k by omega)]
    by_cases e : i = k
    · subst e; rw [if_neg (show ¬ i + 1 ≤ i by omega)]; exact hU
    · rw [if_pos (show i + 1 ≤ k by omega)]; exact h.up i (by omega)
  · show Own1 X (if i ≤ k then Z i else U) (if i + 1 ≤ k then Z (i + 1) else U) ((d ++ [q]).getD i t0) w
    rw [if_pos (show i ≤ k by omega), getD_snoc]
    by_cases e : i = k
    · subst e
      rw [if_neg (show ¬ i + 1 ≤ i by omega), if_pos hl.symm]
      exact h1
    · rw [if_pos (show i + 1 ≤ k by omega), if_neg (show ¬ i = d.length by omega)]
      exact h.own i (by omega)
  · show (if k + 1 ≤ k then Z (k + 1) else U) ≤ w.heap.size
    rw [if_neg (show ¬ k + 1 ≤ k by omega)]
    exact hW
/-- A list at block g, all of it in memory of its own from X on. -/
structure OwnT (X g n : Nat) (ts : List T) (w : World) : Prop where
  row : w.ownsRow X 62 7 (.slice (some ⟨g, 0, none⟩) n n) n (flat ts)
  kin : ∃ Z, Owns X g n Z ts w
theorem OwnT.below {X g n : Nat} {ts : List T} {w w' : World} (h : OwnT X g n ts w) (hb : Below w.heap.size w w') : OwnT X g n ts w' := by
  obtain ⟨Z, hZ⟩ := h.kin
  exact ⟨own_below h.row hb, Z, hZ.below hb⟩
theorem OwnT.len {X g n : Nat} {ts : List T} {w : World} (h : OwnT X g n ts w) : ts.length = n := by obtain ⟨Z, hZ⟩ := h.kin; exact hZ.len
theorem OwnT.has {X g n : Nat} {ts : List T} {w : World} (h : OwnT X g n ts w) : Has w (some ⟨g, 0, none⟩) ts := by
  obtain ⟨Z, hZ⟩ := h.kin
  have hl := h.row.1
  rw [flat_len] at hl
  refine .inr ⟨g, 0, rfl, (h.row.lt g rfl).2, fun i hi => ⟨fun j hj => ?_, (hZ.own i (by rw [← hZ.len]; exact hi)).lst⟩⟩
  rw [Nat.zero_add]
  exact (h.row.cellAt (i * 7 + j) (by omega)).trans (flat_get ts i j hi hj)
theorem Same.snoc {k : Nat} {ts d : List T} {q : T} (h : Same k ts d) (hd : d.length = k) (h1 : pl q = pl (ts.getD k t0)) : Same (k + 1) ts (d ++ [q]) := by
  intro i hi
  rw [getD_snoc]
  by_cases e : i = d.length
  · rw [if_pos e, e, hd]; exact h1
  · rw [if_neg e]; exact h i (by omega)

set_option maxHeartbeats 4000000 in
theorem f27 (a : Option Addr) (n c : Nat) (ts : List T) (w : World) (hn : ts.length = n) (hb : n ≤ 1048576) (hr : Has w a ts) (hz : Sml ts) :
    Calls Tryz.prog 27 #[.slice a n c] w fun e w' => ∃ ts' : List T, e = .returned (.slice (some ⟨w.heap.size, 0, none⟩) n n) ∧ Same n ts ts' ∧ OwnT w.heap.size w.heap.size n ts' w' ∧ Below w.heap.size w w' := by
  obtain ⟨i0, hi, hz0, hz1, hz2⟩ := info_parts infoT
  have HN := hid hn
  have HR := hid hr
  have HZ := hid hz
  clear hn hr hz
  go_enter Tryz.func27, Tryz.ntmps27
  go_wp2_with (at_make; refine wpList_make_full _ rfl _ _ 31 rfl w.heap.size 62 i0 (.agg #[.int .i64 0, .slice none 0 0, .slice none 0 0, .slice none 0 0, .slice none 0 0, .slice none 0 0, .slice none 0 0]) 7 Tryz.underlying31 hi hz0 hz1 _ _ _ _ n rfl rfl rfl rfl ?b2 ?b3 (Nat.le_refl _) ?_)
  case b2 => rw [hz2]; omega
  case b3 => unfold maxLen; omega
  intro w0 hown0 hgrow0
  have hown1 : Hid (w0.ownsRow w.heap.size 62 7 (.slice (some ⟨w.heap.size, 0, none⟩) n n) n (flat (List.replicate n t0))) := by
    rw [← made]; exact hown0
  have hb0 := hid ((Below.refl w.heap.size w).grown hgrow0 (Nat.le_refl _) (fun k h => by cases h))
  have HO0 : Hid (Owns w.heap.size w.heap.size 0 (fun _ => w0.heap.size) [] w0) := ⟨rfl, (hown1.out.lt w.heap.size rfl).2, fun i hi => by omega, fun i hi => by omega, Nat.le_refl _⟩
  clear hown0 hgrow0
  go_wp2
  go_loopw [4] (fun i wr => ∃ (k : Nat) (d : List T), k ≤ n ∧ i = .int .i64 k ∧ Hid (Same k ts d) ∧ Hid (∃ Z, Owns w.heap.size w.heap.size k Z d wr) ∧ Hid (wr.ownsRow w.heap.size 62 7 (.slice (some ⟨w.heap.size, 0, none⟩) n n) n (flat (d ++ List.replicate (n - k) t0))) ∧ Hid (Below w.heap.size w wr))
    (fun i _ => n - (intOf i).toNat)
  case atStart => exact ⟨0, [], Nat.zero_le _, rfl, fun i hi => by omega, ⟨_, HO0.out⟩, by unfold Hid; simpa using hown1.out, hb0.out⟩
  case round =>
    obtain ⟨k, d, hk, rfl, HSm, HZ1, HO, HX⟩ := hrel
    have HLN : Hid (d.length = k) := by obtain ⟨Z, hZ⟩ := HZ1.out; exact hZ.len
    by_cases hlt : k < n
    · obtain ⟨b, off, rfl, hbl, hc, hT1⟩ := (HR.out).at2 k (by rw [HN.out]; exact hlt)
      obtain ⟨d0, d1, d2, d3, d4, d5, d6⟩ := (hc.below HX.out hbl).all
      have HT1 := hid (hT1.below HX.out)
      have HS := hid (HZ.out k (by rw [HN.out]; exact hlt))
      obtain ⟨q, hq⟩ : ∃ q, q = ts.getD k t0 := ⟨_, rfl⟩
      have HQ := hid hq
      rw [← hq] at d0 d1 d2 d3 d4 d5 d6 HT1 HS
      clear hc hT1 hbl hq
      go_wp2_with fail
      refine (f60 q _ HT1.out HS.out).mono ?_
      rintro e w2 ⟨q', rfl, hp, ho2, hb2⟩
      have HO2 := hid (own_below HO.out hb2)
      have HX2 := hid (HX.out.trans (hb2.mono HX.out.size))
      have HZ2 : Hid (∃ Z, Owns w.heap.size w.heap.size (k + 1) Z (d ++ [q']) w2) := by
        obtain ⟨Z, hZ⟩ := HZ1.out
        have h1 := hZ.top
        have h2 := hb2.size
        exact ⟨_, (hZ.below hb2).snoc (ho2.wide HX.out.size (by omega) (Nat.le_refl _)) (by omega) (Nat.le_refl _)⟩
      have HL : Hid ((d ++ List.replicate (n - k) t0).length = n) := by unfold Hid; have := HLN.out; simp; omega
      have HSn := hid (HSm.out.snoc HLN.out (hp.trans (by rw [← HQ.out])))
      have gg := fun j hj => flat_get (d ++ List.replicate (n - k) t0) k j (by rw [HL.out]; exact hlt) hj
      have z0 := (HO2.out.cellAt (k * 7) (by omega)).trans (gg 0 (by omega))
      have f0 := HO2.out.frozenAt (k * 7)
      have z1 := (HO2.out.cellAt (k * 7 + 1) (by omega)).trans (gg 1 (by omega))
      have f1 := HO2.out.frozenAt (k * 7 + 1)
      have z2 := (HO2.out.cellAt (k * 7 + 2) (by omega)).trans (gg 2 (by omega))
      have f2 := HO2.out.frozenAt (k * 7 + 2)
      have z3 := (HO2.out.cellAt (k * 7 + 3) (by omega)).trans (gg 3 (by omega))
      have f3 := HO2.out.frozenAt (k * 7 + 3)
      have z4 := (HO2.out.cellAt (k * 7 + 4) (by omega)).trans (gg 4 (by omega))
      have f4 := HO2.out.frozenAt (k * 7 + 4)
      have z5 := (HO2.out.cellAt (k * 7 + 5) (by omega)).trans (gg 5 (by omega))
      have f5 := HO2.out.frozenAt (k * 7 + 5)
      have z6 := (HO2.out.cellAt (k * 7 + 6) (by omega)).trans (gg 6 (by omega))
      have f6 := HO2.out.frozenAt (k * 7 + 6)
      simp only [cl, List.getElem?_cons_zero, List.getElem?_cons_succ] at z0 z1 z2 z3 z4 z5 z6
      have HE : Hid (∀ wz, wz = ((((((w2.setCell ⟨w.heap.size, k * 7, none⟩ (.int .i64 q'.z)).setCell ⟨w.heap.size, k * 7 + 1, none⟩ (.slice q'.ma q'.ms.length q'.mc)).setCell ⟨w.heap.size, k * 7 + 2, none⟩ (.slice q'.ka q'.ks.length q'.kc)).setCell ⟨w.heap.size, k * 7 + 3, none⟩ (.slice q'.da q'.ds.length q'.dc)).setCell ⟨w.heap.size, k * 7 + 4, none⟩ (.slice q'.oa q'.os.length q'.oc)).setCell ⟨w.heap.size, k * 7 + 5, none⟩ (.slice q'.ya q'.ys.length q'.yc)).setCell ⟨w.heap.size, k * 7 + 6, none⟩ (.slice q'.ua q'.us.length q'.uc) → (∃ Z, Owns w.heap.size w.heap.size (k + 1) Z (d ++ [q']) wz) ∧ wz.ownsRow w.heap.size 62 7 (.slice (some ⟨w.heap.size, 0, none⟩) n n) n (flat ((d ++ [q']) ++ List.replicate (n - (k + 1)) t0)) ∧ Below w.heap.size w wz) := by
        rintro wz rfl
        obtain ⟨Z, hZ⟩ := HZ2.out
        refine ⟨⟨Z, (((((((hZ.set _ _).set _ _).set _ _).set _ _).set _ _).set _ _).set _ _)⟩, ?_, (((((((HX2.out.setCell (Nat.le_refl _) _).setCell (Nat.le_refl _) _).setCell (Nat.le_refl _) _).setCell (Nat.le_refl _) _).setCell (Nat.le_refl _) _).setCell (Nat.le_refl _) _).setCell (Nat.le_refl _) _)⟩
        rw [← step_set d n k _ HLN.out hlt, ← flat_set _ k _ (by rw [HL.out]; exact hlt)]
        exact (((((((HO2.out.stored (k * 7) _).1.stored (k * 7 + 1) _).1.stored (k * 7 + 2) _).1.stored (k * 7 + 3) _).1.stored (k * 7 + 4) _).1.stored (k * 7 + 5) _).1.stored (k * 7 + 6) _).1
      clear hb2 ho2 hp HO HT1 HO2 HX2 HZ2 HX HZ1 HSm d0 d1 d2 d3 d4 d5 d6 gg
      go_wp2
      go_roundw
      case rel =>
        obtain ⟨e1, e2, e3⟩ := HE.out _ rfl
        exact ⟨k + 1, _, by omega, by go_num, HSn.out, e1, e2, e3⟩
      case measure => simp [intOf]; omega
    · obtain rfl : k = n := by omega
      have HE : Hid (OwnT w.heap.size w.heap.size k d wr) := by
        have h := HO.out
        rw [Nat.sub_self, List.replicate_zero, List.append_nil] at h
        exact ⟨h, HZ1.out⟩
      go_wp2
      go_ret
      exact ⟨d, rfl, HSm.out, HE.out, HX.out⟩

set_option maxHeartbeats 4000000 in
theorem f73 (q q' : T) (w : World) (hp : pl q' = pl q) (hs : wt q ≤ 1048576) (hl : Lst w q) (hl' : Lst w q') :
    Calls Tryz.prog 73 #[agT q, agT q'] w fun e w' => e = .returned (.bool true) ∧ Below w.heap.size w w' := by
  obtain ⟨z, ms, ma, mc, ks, ka, kc, ds, da, dc, os, oa, oc, ys, ya, yc, us, ua, uc⟩ := q
  obtain ⟨z', ms', ma', mc', ks', ka', kc', ds', da', dc', os', oa', oc', ys', ya', yc', us', ua', uc'⟩ := q'
  simp only [pl, Pl.mk.injEq] at hp
  obtain ⟨rfl, rfl, rfl, rfl, rfl, rfl, rfl⟩ := hp
  unfold wt at hs
  simp only at hs
  have HB := hid (((Below.refl w.heap.size w).alloc (Nat.le_refl _) (.cells #[.int .i64 z', .slice ma ms'.length mc, .slice ka ks'.length kc, .slice da ds'.length dc, .slice oa os'.length oc, .slice ya ys'.length yc, .slice ua us'.length uc] 62)).alloc (by simp) (.cells #[.int .i64 z', .slice ma' ms'.length mc', .slice ka' ks'.length kc', .slice da' ds'.length dc', .slice oa' os'.length oc', .slice ya' ys'.length yc', .slice ua' us'.length uc'] 62))
  have HA : Hid (((w.alloc (.cells #[.int .i64 z', .slice ma ms'.length mc, .slice ka ks'.length kc, .slice da ds'.length dc, .slice oa os'.length oc, .slice ya ys'.length yc, .slice ua us'.length uc] 62)).alloc (.cells #[.int .i64 z', .slice ma' ms'.length mc', .slice ka' ks'.length kc', .slice da' ds'.length dc', .slice oa' os'.length oc', .slice ya' ys'.length yc', .slice ua' us'.length uc'] 62)).heap[w.heap.size]? = some (.cells #[.int .i64 z', .slice ma ms'.length mc, .slice ka ks'.length kc, .slice da ds'.length dc, .slice oa os'.length oc, .slice ya ys'.length yc, .slice ua us'.length uc] 62)) := kept (heap_alloc_new w _) ((Below.refl _ _).alloc (Nat.le_refl _) _)
  have HC : Hid (((w.alloc (.cells #[.int .i64 z', .slice ma ms'.length mc, .slice ka ks'.length kc, .slice da ds'.length dc, .slice oa os'.length oc, .slice ya ys'.length yc, .slice ua us'.length uc] 62)).alloc (.cells #[.int .i64 z', .slice ma' ms'.length mc', .slice ka' ks'.length kc', .slice da' ds'.length dc', .slice oa' os'.length oc', .slice ya' ys'.length yc', .slice ua' us'.length uc'] 62)).heap[w.heap.size + 1]? = some (.cells #[.int .i64 z', .slice ma' ms'.length mc', .slice ka' ks'.length kc', .slice da' ds'.length dc', .slice oa' os'.length oc', .slice ya' ys'.length yc', .slice ua' us'.length uc'] 62)) := by
    have := heap_alloc_new (w.alloc (.cells #[.int .i64 z', .slice ma ms'.length mc, .slice ka ks'.length kc, .slice da ds'.length dc, .slice oa os'.length oc, .slice ya ys'.length yc, .slice ua us'.length uc] 62)) (.cells #[.int .i64 z', .slice ma' ms'.length mc', .slice ka' ks'.length kc', .slice da' ds'.length dc', .slice oa' os'.length oc', .slice ya' ys'.length yc', .slice ua' us'.length uc'] 62)
    unfold Hid
    simpa using this
  have HR := hid hl
  have HR' := hid hl'
  clear hl hl'
  have nz : (z' != z') = false := by simp
  obtain ⟨W0, hW⟩ : ∃ W, W = ((w.alloc (.cells #[.int .i64 z', .slice ma ms'.length mc, .slice ka ks'.length kc, .slice da ds'.length dc, .slice oa os'.length oc, .slice ya ys'.length yc, .slice ua us'.length uc] 62)).alloc (.cells #[.int .i64 z', .slice ma' ms'.length mc', .slice ka' ks'.length kc', .slice da' ds'.length dc', .slice oa' os'.length oc', .slice ya' ys'.length yc', .slice ua' us'.length uc'] 62)) := ⟨_, rfl⟩
  rw [← hW] at HA HC HB
  have HW := hid hW
  clear hW
  simp only [agT]
  go_enter Tryz.func73, Tryz.ntmps73
  go_upto_region 1 with fail
  rw [← HW.out]
  clear HW
  obtain ⟨x0, x1, x2, x3, x4, x5, x6⟩ := cellsN HA.out
  obtain ⟨y0, y1, y2, y3, y4, y5, y6⟩ := cellsN HC.out
  go_wp2_with fail
  refine (Rnw.f112 ma ma' ms'.length mc mc' ms' _ rfl (by omega) (HR.out.m.below HB.out) (HR'.out.m.below HB.out)).mono ?_
  rintro e Wm ⟨rfl, hb⟩
  have HA' := hid (kept HA.out hb)
  have HC' := hid (kept HC.out hb)
  have HB' := hid (HB.out.trans (hb.mono HB.out.size))
  clear HA HC HB hb x0 x1 x2 x3 x4 x5 x6 y0 y1 y2 y3 y4 y5 y6
  have HA := HA'
  have HC := HC'
  have HB := HB'
  clear HA' HC' HB'
  obtain ⟨x0, x1, x2, x3, x4, x5, x6⟩ := cellsN HA.out
  obtain ⟨y0, y1, y2, y3, y4, y5, y6⟩ := cellsN HC.out
  go_wp2_with fail
  refine (Rnw.f112 ka ka' ks'.length kc kc' ks' _ rfl (by omega) (HR.out.k.below HB.out) (HR'.out.k.below HB.out)).mono ?_
  rintro e Wk ⟨rfl, hb⟩
  have HA' := hid (kept HA.out hb)
  have HC' := hid (kept HC.out hb)
  have HB' := hid (HB.out.trans (hb.mono HB.out.size))
  clear HA HC HB hb x0 x1 x2 x3 x4 x5 x6 y0 y1 y2 y3 y4 y5 y6
  have HA := HA'
  have HC := HC'
  have HB := HB'
  clear HA' HC' HB'
  obtain ⟨x0, x1, x2, x3, x4, x5, x6⟩ := cellsN HA.out
  obtain ⟨y0, y1, y2, y3, y4, y5, y6⟩ := cellsN HC.out
  go_wp2_with fail
  refine (Rnw.f112 da da' ds'.length dc dc' ds' _ rfl (by omega) (HR.out.d.below HB.out) (HR'.out.d.below HB.out)).mono ?_
  rintro e Wd ⟨rfl, hb⟩
  have HA' := hid (kept HA.out hb)
  have HC' := hid (kept HC.out hb)
  have HB' := hid (HB.out.trans (hb.mono HB.out.size))
  clear HA HC HB hb x0 x1 x2 x3 x4 x5 x6 y0 y1 y2 y3 y4 y5 y6
  have HA := HA'
  have HC := HC'
  have HB := HB'
  clear HA' HC' HB'
  obtain ⟨x0, x1, x2, x3, x4, x5, x6⟩ := cellsN HA.out
  obtain ⟨y0, y1, y2, y3, y4, y5, y6⟩ := cellsN HC.out
  go_wp2_with fail
  refine (Rnw.f112 oa oa' os'.length oc oc' os' _ rfl (by omega) (HR.out.o.below HB.out) (HR'.out.o.below HB.out)).mono ?_
  rintro e Wo ⟨rfl, hb⟩
  have HA' := hid (kept HA.out hb)
  have HC' := hid (kept HC.out hb)
  have HB' := hid (HB.out.trans (hb.mono HB.out.size))
  clear HA HC HB hb x0 x1 x2 x3 x4 x5 x6 y0 y1 y2 y3 y4 y5 y6
  have HA := HA'
  have HC := HC'
  have HB := HB'
  clear HA' HC' HB'
  obtain ⟨x0, x1, x2, x3, x4, x5, x6⟩ := cellsN HA.out
  obtain ⟨y0, y1, y2, y3, y4, y5, y6⟩ := cellsN HC.out
  go_wp2_with fail
  refine (Rnw.f112 ya ya' ys'.length yc yc' ys' _ rfl (by omega) (HR.out.y.below HB.out) (HR'.out.y.below HB.out)).mono ?_
  rintro e Wy ⟨rfl, hb⟩
  have HA' := hid (kept HA.out hb)
  have HC' := hid (kept HC.out hb)
  have HB' := hid (HB.out.trans (hb.mono HB.out.size))
  clear HA HC HB hb x0 x1 x2 x3 x4 x5 x6 y0 y1 y2 y3 y4 y5 y6
  have HA := HA'
  have HC := HC'
  have HB := HB'
  clear HA' HC' HB'
  obtain ⟨x0, x1, x2, x3, x4, x5, x6⟩ := cellsN HA.out
  obtain ⟨y0, y1, y2, y3, y4, y5, y6⟩ := cellsN HC.out
  go_wp2_with fail
  refine (Inw.f111 ua ua' us'.length uc uc' us' _ rfl (by omega) (HR.out.u.below HB.out) (HR'.out.u.below HB.out)).mono ?_
  rintro e Wu ⟨rfl, hb⟩
  have HA' := hid (kept HA.out hb)
  have HC' := hid (kept HC.out hb)
  have HB' := hid (HB.out.trans (hb.mono HB.out.size))
  clear HA HC HB hb x0 x1 x2 x3 x4 x5 x6 y0 y1 y2 y3 y4 y5 y6
  have HA := HA'
  have HC := HC'
  have HB := HB'
  clear HA' HC' HB'
  obtain ⟨x0, x1, x2, x3, x4, x5, x6⟩ := cellsN HA.out
  obtain ⟨y0, y1, y2, y3, y4, y5, y6⟩ := cellsN HC.out
  go_wp2
  go_ret
  exact ⟨rfl, HB.out⟩
/-- Two entries' cells, and what they hold; all that was there is as it was. -/
abbrev EE (w : World) (q q' : T) (b o b' o' : Nat) (x : World) : Prop :=
  x.cell? ⟨b, o, none⟩ = some (.int .i64 q.z) ∧ x.cell? ⟨b, o + 1, none⟩ = some (.slice q.ma q.ms.length q.mc) ∧ x.cell? ⟨b, o + 2, none⟩ = some (.slice q.ka q.ks.length q.kc) ∧ x.cell? ⟨b, o + 3, none⟩ = some (.slice q.da q.ds.length q.dc) ∧ x.cell? ⟨b, o + 4, none⟩ = some (.slice q.oa q.os.length q.oc) ∧ x.cell? ⟨b, o + 5, none⟩ = some (.slice q.ya q.ys.length q.yc) ∧ x.cell? ⟨b, o + 6, none⟩ = some (.slice q.ua q.us.length q.uc) ∧ x.cell? ⟨b', o', none⟩ = some (.int .i64 q'.z) ∧ x.cell? ⟨b', o' + 1, none⟩ = some (.slice q'.ma q'.ms.length q'.mc) ∧ x.cell? ⟨b', o' + 2, none⟩ = some (.slice q'.ka q'.ks.length q'.kc) ∧ x.cell? ⟨b', o' + 3, none⟩ = some (.slice q'.da q'.ds.length q'.dc) ∧ x.cell? ⟨b', o' + 4, none⟩ = some (.slice q'.oa q'.os.length q'.oc) ∧ x.cell? ⟨b', o' + 5, none⟩ = some (.slice q'.ya q'.ys.length q'.yc) ∧ x.cell? ⟨b', o' + 6, none⟩ = some (.slice q'.ua q'.us.length q'.uc) ∧ Lst x q ∧ Lst x q' ∧ b < x.heap.size ∧ b' < x.heap.size ∧ Below w.heap.size w x
theorem EE.below {w : World} {q q' : T} {b o b' o' : Nat} {x y : World} (h : EE w q q' b o b' o' x) (hb : Below x.heap.size x y) : EE w q q' b o b' o' y := by
  obtain ⟨h0, h1, h2, h3, h4, h5, h6, k0, k1, k2, k3, k4, k5, k6, t1, t3, l1, l2, hw⟩ := h
  have e1 : ∀ j, y.cell? ⟨b, j, none⟩ = x.cell? ⟨b, j, none⟩ := fun j => hb.cell (by exact l1)
  have e2 : ∀ j, y.cell? ⟨b', j, none⟩ = x.cell? ⟨b', j, none⟩ := fun j => hb.cell (by exact l2)
  exact ⟨(e1 _).trans h0, (e1 _).trans h1, (e1 _).trans h2, (e1 _).trans h3, (e1 _).trans h4, (e1 _).trans h5, (e1 _).trans h6, (e2 _).trans k0, (e2 _).trans k1, (e2 _).trans k2, (e2 _).trans k3, (e2 _).trans k4, (e2 _).trans k5, (e2 _).trans k6, t1.below hb, t3.below hb, Nat.lt_of_lt_of_le l1 hb.size, Nat.lt_of_lt_of_le l2 hb.size, hw.trans (hb.mono hw.size)⟩
theorem EE.drew {w : World} {q q' : T} {b o b' o' : Nat} {x : World} (h : EE w q q' b o b' o' x) : EE w q q' b o b' o' x.drew := h.below (Below.refl _ x).drew
theorem EE.t1 {w : World} {q q' : T} {b o b' o' : Nat} {x : World} (h : EE w q q' b o b' o' x) : Lst x q := h.2.2.2.2.2.2.2.2.2.2.2.2.2.2.1
theorem EE.t3 {w : World} {q q' : T} {b o b' o' : Nat} {x : World} (h : EE w q q' b o b' o' x) : Lst x q' := h.2.2.2.2.2.2.2.2.2.2.2.2.2.2.2.1
theorem EE.bel {w : World} {q q' : T} {b o b' o' : Nat} {x : World} (h : EE w q q' b o b' o' x) : Below w.heap.size w x := h.2.2.2.2.2.2.2.2.2.2.2.2.2.2.2.2.2.2
set_option maxHeartbeats 4000000 in
theorem f36 (a a' : Option Addr) (n c c' : Nat) (ts ts' : List T) (w : World) (hn : ts.length = n) (hn' : ts'.length = n) (hb : n ≤ 1048576) (hr : Has w a ts) (hr' : Has w a' ts') (hs : Same n ts ts') (hz : Sml ts) :
    Calls Tryz.prog 36 #[.slice a n c, .slice a' n c'] w fun e w' => e = .returned (.bool true) ∧ Below w.heap.size w w' := by
  have HN := hid hn
  have HN' := hid hn'
  have HR := hid hr
  have HR' := hid hr'
  have HS := hid hs
  have HZ := hid hz
  clear hn hn' hr hr' hs hz
  go_enter Tryz.func36, Tryz.ntmps36
  go_wp2
  go_loopw [5] (fun i wr => ∃ k : Nat, k ≤ n ∧ i = .int .i64 k ∧ Hid (Below w.heap.size w wr)) (fun i _ => n - (intOf i).toNat)
  case atStart => exact ⟨0, Nat.zero_le _, rfl, Below.refl _ _⟩
  case round =>
    obtain ⟨k, hk, rfl, HX⟩ := hrel
    by_cases hlt : k < n
    · obtain ⟨b, off, rfl, hbl, hc, t1⟩ := (HR.out.below HX.out).at2 k (by rw [HN.out]; exact hlt)
      obtain ⟨b', off', rfl, hbl', hc', t1'⟩ := (HR'.out.below HX.out).at2 k (by rw [HN'.out]; exact hlt)
      have HP := hid (HS.out k hlt)
      have HL := hid (HZ.out k (by rw [HN.out]; exact hlt))
      generalize ts.getD k t0 = q at *
      generalize ts'.getD k t0 = q' at *
      obtain ⟨h0, h1, h2, h3, h4, h5, h6⟩ := hc.all
      obtain ⟨k0, k1, k2, k3, k4, k5, k6⟩ := hc'.all
      have HE : Hid (EE w q q' b (off + k * 7) b' (off' + k * 7) wr) := ⟨h0, h1, h2, h3, h4, h5, h6, k0, k1, k2, k3, k4, k5, k6, t1, t1', hbl, hbl', HX.out⟩
      clear hc hc' t1 t1' hbl hbl' h0 h1 h2 h3 h4 h5 h6 k0 k1 k2 k3 k4 k5 k6
      have i1 : (k : Int) < (n : Int) := by omega
      go_wp2_with fail
      go_region_held3 (fun x => EE w q q' b (off + k * 7) b' (off' + k * 7) x) (first | exact HE.out.drew | assumption) (first | (go_at_call 73; refine (f73 q q' _ HP.out HL.out (EE.t1 (by assumption)) (EE.t3 (by assumption))).mono ?_; rintro e w2 ⟨rfl, hb2⟩; have hs2 := EE.below (by assumption) hb2; clear hb2))
      have HX2 := hid hs2.bel
      clear hs2
      go_wp2
      go_roundw
      case rel => exact ⟨k + 1, by omega, by go_num, HX2.out⟩
      case measure => simp [intOf]; omega
    · go_wp2
      go_ret
      exact ⟨rfl, HX.out⟩
end Go.Proofs.YthcogkoleiejgaaGreatDoor.Ivn
