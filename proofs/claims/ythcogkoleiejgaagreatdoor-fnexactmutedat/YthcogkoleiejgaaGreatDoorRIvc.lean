/- Intervals: copied and compared. -/
import Derived.Test.YthcogkoleiejgaaGreatDoorRIvb
namespace Go.Proofs.YthcogkoleiejgaaGreatDoor.Rng
open Go.RowKit

theorem lt_block {w : World} {b : Nat} {o : Obj} (h : w.heap[b]? = some o) : b < w.heap.size := (Array.getElem?_eq_some_iff.1 h).1
theorem kept {w w' : World} {b : Nat} {o : Obj} (h : w.heap[b]? = some o) (hb : Below w.heap.size w w') : w'.heap[b]? = some o := (hb.block b (lt_block h)).trans h
theorem set_cell {w : World} {b o : Nat} {t : TypeId} {cs : Array Value} {q : Nat × Nat} {x : Value} (h : w.heap[b]? = some (.cells cs t q)) : (w.setCell ⟨b, o, none⟩ x).heap[b]? = some (.cells (cs.setIfInBounds o x) t q) := by
  have hlt : b < w.heap.size := (Array.getElem?_eq_some_iff.1 h).1
  have h' : w.heap[b] = .cells cs t q := by simpa [Array.getElem?_eq_getElem hlt] using h
  show (w.heap.modify b _)[b]? = _
  rw [Array.getElem?_eq_getElem (by simpa using hlt), Array.getElem_modify_self, h']
  rfl
theorem set_other {w : World} {b c o : Nat} {ob : Obj} {x : Value} (h : w.heap[b]? = some ob) (hc : c ≠ b) : (w.setCell ⟨c, o, none⟩ x).heap[b]? = some ob := by
  show (w.heap.modify c _)[b]? = _
  rw [Array.getElem?_modify, if_neg hc]
  exact h
theorem cell_at {w : World} {b : Nat} {t : TypeId} {cs : Array Value} {q : Nat × Nat} (h : w.heap[b]? = some (.cells cs t q)) (o : Nat) : w.cell? ⟨b, o, none⟩ = cs[o]? := by
  unfold World.cell?; simp only [h]; rfl
theorem froz_at {w : World} {b : Nat} {t : TypeId} {cs : Array Value} (h : w.heap[b]? = some (.cells cs t (0, 0))) (o : Nat) : w.frozen? ⟨b, o, none⟩ = false := by simp [World.frozen?, h]
theorem cells7 {w : World} {b : Nat} {t : TypeId} {v0 v1 v2 v3 v4 v5 v6 : Value} (h : w.heap[b]? = some (.cells #[v0, v1, v2, v3, v4, v5, v6] t)) : w.cell? ⟨b, 0, none⟩ = some v0 ∧ w.cell? ⟨b, 1, none⟩ = some v1 ∧ w.cell? ⟨b, 2, none⟩ = some v2 ∧ w.cell? ⟨b, 3, none⟩ = some v3 ∧ w.cell? ⟨b, 4, none⟩ = some v4 ∧ w.cell? ⟨b, 5, none⟩ = some v5 ∧ w.cell? ⟨b, 6, none⟩ = some v6 :=
  ⟨cell_at h 0, cell_at h 1, cell_at h 2, cell_at h 3, cell_at h 4, cell_at h 5, cell_at h 6⟩
theorem froz7 {w : World} {b : Nat} {t : TypeId} {v0 v1 v2 v3 v4 v5 v6 : Value} (h : w.heap[b]? = some (.cells #[v0, v1, v2, v3, v4, v5, v6] t)) : w.frozen? ⟨b, 0, none⟩ = false ∧ w.frozen? ⟨b, 1, none⟩ = false ∧ w.frozen? ⟨b, 2, none⟩ = false ∧ w.frozen? ⟨b, 3, none⟩ = false ∧ w.frozen? ⟨b, 4, none⟩ = false ∧ w.frozen? ⟨b, 5, none⟩ = false ∧ w.frozen? ⟨b, 6, none⟩ = false :=
  ⟨froz_at h 0, froz_at h 1, froz_at h 2, froz_at h 3, froz_at h 4, froz_at h 5, froz_at h 6⟩
theorem set7 {w : World} {b : Nat} {t : TypeId} {v0 v1 v2 v3 v4 v5 v6 x0 x1 x2 x3 x4 x5 x6 : Value} (h : w.heap[b]? = some (.cells #[v0, v1, v2, v3, v4, v5, v6] t)) : (((((((w.setCell ⟨b, 0, none⟩ x0).setCell ⟨b, 1, none⟩ x1).setCell ⟨b, 2, none⟩ x2).setCell ⟨b, 3, none⟩ x3).setCell ⟨b, 4, none⟩ x4).setCell ⟨b, 5, none⟩ x5).setCell ⟨b, 6, none⟩ x6).heap[b]? = some (.cells #[x0, x1, x2, x3, x4, x5, x6] t) := by
  have h0 : (w.setCell ⟨b, 0, none⟩ x0).heap[b]? = some (.cells #[x0, v1, v2, v3, v4, v5, v6] t) := set_cell h
  have h1 : ((w.setCell ⟨b, 0, none⟩ x0).setCell ⟨b, 1, none⟩ x1).heap[b]? = some (.cells #[x0, x1, v2, v3, v4, v5, v6] t) := set_cell h0
  have h2 : (((w.setCell ⟨b, 0, none⟩ x0).setCell ⟨b, 1, none⟩ x1).setCell ⟨b, 2, none⟩ x2).heap[b]? = some (.cells #[x0, x1, x2, v3, v4, v5, v6] t) := set_cell h1
  have h3 : ((((w.setCell ⟨b, 0, none⟩ x0).setCell ⟨b, 1, none⟩ x1).setCell ⟨b, 2, none⟩ x2).setCell ⟨b, 3, none⟩ x3).heap[b]? = some (.cells #[x0, x1, x2, x3, v4, v5, v6] t) := set_cell h2
  have h4 : (((((w.setCell ⟨b, 0, none⟩ x0).setCell ⟨b, 1, none⟩ x1).setCell ⟨b, 2, none⟩ x2).setCell ⟨b, 3, none⟩ x3).setCell ⟨b, 4, none⟩ x4).heap[b]? = some (.cells #[x0, x1, x2, x3, x4, v5, v6] t) := set_cell h3
  have h5 : ((((((w.setCell ⟨b, 0, none⟩ x0).setCell ⟨b, 1, none⟩ x1).setCell ⟨b, 2, none⟩ x2).setCell ⟨b, 3, none⟩ x3).setCell ⟨b, 4, none⟩ x4).setCell ⟨b, 5, none⟩ x5).heap[b]? = some (.cells #[x0, x1, x2, x3, x4, x5, v6] t) := set_cell h4
  exact set_cell h5
theorem below7 {w0 w : World} {b : Nat} {x0 x1 x2 x3 x4 x5 x6 : Value} (h : Below w0.heap.size w0 w) (hb : w0.heap.size ≤ b) : Below w0.heap.size w0 (((((((w.setCell ⟨b, 0, none⟩ x0).setCell ⟨b, 1, none⟩ x1).setCell ⟨b, 2, none⟩ x2).setCell ⟨b, 3, none⟩ x3).setCell ⟨b, 4, none⟩ x4).setCell ⟨b, 5, none⟩ x5).setCell ⟨b, 6, none⟩ x6) :=
  ((((((h.setCell hb _).setCell hb _).setCell hb _).setCell hb _).setCell hb _).setCell hb _).setCell hb _
/-- A list that was copied: it lies behind the boxes. -/
structure Rw (O : Nat) (W : World) (a : Option Addr) (l : List Sm) : Prop where
  has : HasS W a l
  far : ∃ g, a = some ⟨g, 0, none⟩ ∧ O < g
theorem Rw.mv {O : Nat} {W W' : World} {a : Option Addr} {l : List Sm} (h : Rw O W a l) (hb : Below W.heap.size W W') : Rw O W' a l := ⟨h.has.below hb, h.far⟩
theorem cell_set {W : World} {b c o k : Nat} {v : Value} (h : c ≠ b) : (W.setCell ⟨c, o, none⟩ v).cell? ⟨b, k, none⟩ = W.cell? ⟨b, k, none⟩ := by
  have e : (W.setCell ⟨c, o, none⟩ v).heap[b]? = W.heap[b]? := by
    show (W.heap.modify c _)[b]? = _
    rw [Array.getElem?_modify, if_neg h]
  unfold World.cell?
  simp only [e]
theorem Rw.set {O P o : Nat} {W : World} {a : Option Addr} {l : List Sm} {v : Value} (h : Rw O W a l) (hP : P ≤ O) : Rw O (W.setCell ⟨P, o, none⟩ v) a l := by
  refine ⟨?_, h.far⟩
  obtain ⟨g, rfl, hg⟩ := h.far
  rcases h.has with h0 | ⟨b, off, e, hlt, hc⟩
  · exact .inl h0
  · simp only [Option.some.injEq, Addr.mk.injEq] at e
    obtain ⟨rfl, rfl, _⟩ := e
    exact .inr ⟨g, 0, rfl, by simpa using hlt, fun i hi => ⟨(cell_set (by omega)).trans (hc i hi).1, (cell_set (by omega)).trans (hc i hi).2⟩⟩
theorem HasI.set {O P o : Nat} {W : World} {g : Nat} {l : List Int} {v : Value} (h : Ino.Has W (some ⟨g, 0, none⟩) l) (hg : O < g) (hP : P ≤ O) : Ino.Has (W.setCell ⟨P, o, none⟩ v) (some ⟨g, 0, none⟩) l := by
  rcases h with h0 | ⟨b, off, e, hlt, hc⟩
  · exact .inl h0
  · simp only [Option.some.injEq, Addr.mk.injEq] at e
    obtain ⟨rfl, rfl, _⟩ := e
    exact .inr ⟨g, 0, rfl, by simpa using hlt, fun i hi => (cell_set (by omega)).trans (hc i hi)⟩
/-- The three boxes of toInterval, the copy up to somewhere. -/
structure Ti (w : World) (i : Iv) (m1 m2 m3 m4 m5 m6 : Value) (W : World) : Prop where
  arg : W.heap[w.heap.size]? = some (.cells (clI i) 92)
  res : W.heap[w.heap.size + 1]? = some (.cells #[.int .i64 0, .slice none 0 0, .slice none 0 0, .slice none 0 0, .slice none 0 0, .slice none 0 0, .slice none 0 0] 62)
  out : W.heap[w.heap.size + 2]? = some (.cells #[.int .i64 i.z, m1, m2, m3, m4, m5, m6] 62)
  bel : Below w.heap.size w W
theorem Ti.mv {w W W' : World} {i : Iv} {m1 m2 m3 m4 m5 m6 : Value} (h : Ti w i m1 m2 m3 m4 m5 m6 W) (hb : Below W.heap.size W W') : Ti w i m1 m2 m3 m4 m5 m6 W' :=
  ⟨kept h.arg hb, kept h.res hb, kept h.out hb, h.bel.trans (hb.mono h.bel.size)⟩
theorem Ti.s1 {w W : World} {i : Iv} {m1 m2 m3 m4 m5 m6 : Value} (h : Ti w i m1 m2 m3 m4 m5 m6 W) (x : Value) : Ti w i x m2 m3 m4 m5 m6 (W.setCell ⟨w.heap.size + 2, 1, none⟩ x) := ⟨set_other h.arg (by omega), set_other h.res (by omega), set_cell h.out, h.bel.setCell (by simp) _⟩
theorem Ti.s2 {w W : World} {i : Iv} {m1 m2 m3 m4 m5 m6 : Value} (h : Ti w i m1 m2 m3 m4 m5 m6 W) (x : Value) : Ti w i m1 x m3 m4 m5 m6 (W.setCell ⟨w.heap.size + 2, 2, none⟩ x) := ⟨set_other h.arg (by omega), set_other h.res (by omega), set_cell h.out, h.bel.setCell (by simp) _⟩
theorem Ti.s3 {w W : World} {i : Iv} {m1 m2 m3 m4 m5 m6 : Value} (h : Ti w i m1 m2 m3 m4 m5 m6 W) (x : Value) : Ti w i m1 m2 x m4 m5 m6 (W.setCell ⟨w.heap.size + 2, 3, none⟩ x) := ⟨set_other h.arg (by omega), set_other h.res (by omega), set_cell h.out, h.bel.setCell (by simp) _⟩
theorem Ti.s4 {w W : World} {i : Iv} {m1 m2 m3 m4 m5 m6 : Value} (h : Ti w i m1 m2 m3 m4 m5 m6 W) (x : Value) : Ti w i m1 m2 m3 x m5 m6 (W.setCell ⟨w.heap.size + 2, 4, none⟩ x) := ⟨set_other h.arg (by omega), set_other h.res (by omega), set_cell h.out, h.bel.setCell (by simp) _⟩
theorem Ti.s5 {w W : World} {i : Iv} {m1 m2 m3 m4 m5 m6 : Value} (h : Ti w i m1 m2 m3 m4 m5 m6 W) (x : Value) : Ti w i m1 m2 m3 m4 x m6 (W.setCell ⟨w.heap.size + 2, 5, none⟩ x) := ⟨set_other h.arg (by omega), set_other h.res (by omega), set_cell h.out, h.bel.setCell (by simp) _⟩
theorem Ti.s6 {w W : World} {i : Iv} {m1 m2 m3 m4 m5 m6 : Value} (h : Ti w i m1 m2 m3 m4 m5 m6 W) (x : Value) : Ti w i m1 m2 m3 m4 m5 x (W.setCell ⟨w.heap.size + 2, 6, none⟩ x) := ⟨set_other h.arg (by omega), set_other h.res (by omega), set_cell h.out, h.bel.setCell (by simp) _⟩
theorem Ti.first (w : World) (i : Iv) : Ti w i (.slice none 0 0) (.slice none 0 0) (.slice none 0 0) (.slice none 0 0) (.slice none 0 0) (.slice none 0 0) (((w.alloc (.cells (clI i) 92)).alloc (.cells #[.int .i64 0, .slice none 0 0, .slice none 0 0, .slice none 0 0, .slice none 0 0, .slice none 0 0, .slice none 0 0] 62)).alloc (.cells #[.int .i64 i.z, .slice none 0 0, .slice none 0 0, .slice none 0 0, .slice none 0 0, .slice none 0 0, .slice none 0 0] 62)) := by
  have b1 := fun (W : World) o => (Below.refl W.heap.size W).alloc (Nat.le_refl _) o
  refine ⟨kept (kept (heap_alloc_new w _) (b1 _ _)) (b1 _ _), ?_, ?_, ((b1 w _).alloc (by simp) _).alloc (by simp; omega) _⟩
  · have := kept (heap_alloc_new (w.alloc (.cells (clI i) 92)) (.cells #[.int .i64 0, .slice none 0 0, .slice none 0 0, .slice none 0 0, .slice none 0 0, .slice none 0 0, .slice none 0 0] 62)) (b1 _ (.cells #[.int .i64 i.z, .slice none 0 0, .slice none 0 0, .slice none 0 0, .slice none 0 0, .slice none 0 0, .slice none 0 0] 62))
    simpa using this
  · have := heap_alloc_new ((w.alloc (.cells (clI i) 92)).alloc (.cells #[.int .i64 0, .slice none 0 0, .slice none 0 0, .slice none 0 0, .slice none 0 0, .slice none 0 0, .slice none 0 0] 62)) (.cells #[.int .i64 i.z, .slice none 0 0, .slice none 0 0, .slice none 0 0, .slice none 0 0, .slice none 0 0, .slice none 0 0] 62)
    simpa using this
theorem below_set {w W : World} {c o : Nat} {x : Value} (h : Below w.heap.size w W) (hc : w.heap.size ≤ c) : Below w.heap.size w (W.setCell ⟨c, o, none⟩ x) := h.setCell hc _

set_option maxRecDepth 100000 in
set_option maxHeartbeats 8000000 in
theorem f60 (i : Iv) (w : World) (hr : Has w i) (hs : Sml i) :
    Calls Tryz.prog 60 #[agI i] w fun e w' => ∃ j : Iv, e = .returned (agI j) ∧ Same i j ∧ Has w' j ∧ Below w.heap.size w w' := by
  have HR := hid hr
  have HS := hid hs
  clear hr hs
  have HT := hid (Ti.first w i)
  obtain ⟨z, l1, l2, l3, l4, l5, l6, a1, c1, a2, c2, a3, c3, a4, c4, a5, c5, a6, c6⟩ := i
  obtain ⟨W0, hW0⟩ : ∃ W, W = (((w.alloc (.cells (clI ⟨z, l1, l2, l3, l4, l5, l6, a1, c1, a2, c2, a3, c3, a4, c4, a5, c5, a6, c6⟩) 92)).alloc (.cells #[.int .i64 0, .slice none 0 0, .slice none 0 0, .slice none 0 0, .slice none 0 0, .slice none 0 0, .slice none 0 0] 62)).alloc (.cells #[.int .i64 z, .slice none 0 0, .slice none 0 0, .slice none 0 0, .slice none 0 0, .slice none 0 0, .slice none 0 0] 62)) := ⟨_, rfl⟩
  rw [← hW0] at HT
  have HW0 := hid hW0
  clear hW0
  go_enter Tryz.func60, Tryz.ntmps60
  go_upto_region 3 with fail
  rw [← HW0.out]
  clear HW0
  obtain ⟨x0, x1, x2, x3, x4, x5, x6⟩ := cells7 HT.out.arg
  go_wp2_with fail
  refine (f96 a1 c1 l1 _ HS.out.s1 (HR.out.h1.below HT.out.bel)).mono ?_
  rintro e w1 ⟨rfl, ho, hb⟩
  have hlt : w.heap.size + 2 < W0.heap.size := lt_block HT.out.out
  have HQ1 : Hid (Rw (w.heap.size + 2) w1 (some ⟨W0.heap.size, 0, none⟩) l1) := ⟨HasS.own ho, _, rfl, hlt⟩
  have HU := hid (HT.out.mv hb)
  clear HT x0 x1 x2 x3 x4 x5 x6 ho hb hlt
  obtain ⟨S1, hS⟩ : ∃ S, S = W0.heap.size := ⟨_, rfl⟩
  rw [← hS] at HQ1 ⊢
  clear hS
  obtain ⟨x0, x1, x2, x3, x4, x5, x6⟩ := cells7 HU.out.out
  obtain ⟨f0, f1, f2, f3, f4, f5, f6⟩ := froz7 HU.out.out
  have HT := hid (HU.out.s1 (.slice (some ⟨S1, 0, none⟩) l1.length l1.length))
  have HQ1' := hid (HQ1.out.set (P := w.heap.size + 2) (o := 1) (v := .slice (some ⟨S1, 0, none⟩) l1.length l1.length) (Nat.le_refl _))
  clear HQ1
  obtain ⟨W1, hW⟩ : ∃ W, W = w1.setCell ⟨w.heap.size + 2, 1, none⟩ (.slice (some ⟨S1, 0, none⟩) l1.length l1.length) := ⟨_, rfl⟩
  rw [← hW] at HT HQ1' 
  have HQ1 := HQ1'
  clear HQ1'
  have HW := hid hW
  clear hW HU
  go_upto_region 4 with fail
  rw [← HW.out]
  clear HW x0 x1 x2 x3 x4 x5 x6 f0 f1 f2 f3 f4 f5 f6
  obtain ⟨x0, x1, x2, x3, x4, x5, x6⟩ := cells7 HT.out.arg
  go_wp2_with fail
  refine (f96 a2 c2 l2 _ HS.out.s2 (HR.out.h2.below HT.out.bel)).mono ?_
  rintro e w2 ⟨rfl, ho, hb⟩
  have hlt : w.heap.size + 2 < W1.heap.size := lt_block HT.out.out
  have HQ2 : Hid (Rw (w.heap.size + 2) w2 (some ⟨W1.heap.size, 0, none⟩) l2) := ⟨HasS.own ho, _, rfl, hlt⟩
  have HP1 := hid (HQ1.out.mv hb)
  clear HQ1
  have HU := hid (HT.out.mv hb)
  clear HT x0 x1 x2 x3 x4 x5 x6 ho hb hlt
  obtain ⟨S2, hS⟩ : ∃ S, S = W1.heap.size := ⟨_, rfl⟩
  rw [← hS] at HQ2 ⊢
  clear hS
  obtain ⟨x0, x1, x2, x3, x4, x5, x6⟩ := cells7 HU.out.out
  obtain ⟨f0, f1, f2, f3, f4, f5, f6⟩ := froz7 HU.out.out
  have HT := hid (HU.out.s2 (.slice (some ⟨S2, 0, none⟩) l2.length l2.length))
  have HQ1 := hid (HP1.out.set (P := w.heap.size + 2) (o := 2) (v := .slice (some ⟨S2, 0, none⟩) l2.length l2.length) (Nat.le_refl _))
  clear HP1
  have HQ2' := hid (HQ2.out.set (P := w.heap.size + 2) (o := 2) (v := .slice (some ⟨S2, 0, none⟩) l2.length l2.length) (Nat.le_refl _))
  clear HQ2
  obtain ⟨W2, hW⟩ : ∃ W, W = w2.setCell ⟨w.heap.size + 2, 2, none⟩ (.slice (some ⟨S2, 0, none⟩) l2.length l2.length) := ⟨_, rfl⟩
  rw [← hW] at HT HQ2' HQ1
  have HQ2 := HQ2'
  clear HQ2'
  have HW := hid hW
  clear hW HU
  go_upto_region 5 with fail
  rw [← HW.out]
  clear HW x0 x1 x2 x3 x4 x5 x6 f0 f1 f2 f3 f4 f5 f6
  obtain ⟨x0, x1, x2, x3, x4, x5, x6⟩ := cells7 HT.out.arg
  go_wp2_with fail
  refine (f96 a3 c3 l3 _ HS.out.s3 (HR.out.h3.below HT.out.bel)).mono ?_
  rintro e w3 ⟨rfl, ho, hb⟩
  have hlt : w.heap.size + 2 < W2.heap.size := lt_block HT.out.out
  have HQ3 : Hid (Rw (w.heap.size + 2) w3 (some ⟨W2.heap.size, 0, none⟩) l3) := ⟨HasS.own ho, _, rfl, hlt⟩
  have HP1 := hid (HQ1.out.mv hb)
  clear HQ1
  have HP2 := hid (HQ2.out.mv hb)
  clear HQ2
  have HU := hid (HT.out.mv hb)
  clear HT x0 x1 x2 x3 x4 x5 x6 ho hb hlt
  obtain ⟨S3, hS⟩ : ∃ S, S = W2.heap.size := ⟨_, rfl⟩
  rw [← hS] at HQ3 ⊢
  clear hS
  obtain ⟨x0, x1, x2, x3, x4, x5, x6⟩ := cells7 HU.out.out
  obtain ⟨f0, f1, f2, f3, f4, f5, f6⟩ := froz7 HU.out.out
  have HT := hid (HU.out.s3 (.slice (some ⟨S3, 0, none⟩) l3.length l3.length))
  have HQ1 := hid (HP1.out.set (P := w.heap.size + 2) (o := 3) (v := .slice (some ⟨S3, 0, none⟩) l3.length l3.length) (Nat.le_refl _))
  clear HP1
  have HQ2 := hid (HP2.out.set (P := w.heap.size + 2) (o := 3) (v := .slice (some ⟨S3, 0, none⟩) l3.length l3.length) (Nat.le_refl _))
  clear HP2
  have HQ3' := hid (HQ3.out.set (P := w.heap.size + 2) (o := 3) (v := .slice (some ⟨S3, 0, none⟩) l3.length l3.length) (Nat.le_refl _))
  clear HQ3
  obtain ⟨W3, hW⟩ : ∃ W, W = w3.setCell ⟨w.heap.size + 2, 3, none⟩ (.slice (some ⟨S3, 0, none⟩) l3.length l3.length) := ⟨_, rfl⟩
  rw [← hW] at HT HQ3' HQ1 HQ2
  have HQ3 := HQ3'
  clear HQ3'
  have HW := hid hW
  clear hW HU
  go_upto_region 6 with fail
  rw [← HW.out]
  clear HW x0 x1 x2 x3 x4 x5 x6 f0 f1 f2 f3 f4 f5 f6
  obtain ⟨x0, x1, x2, x3, x4, x5, x6⟩ := cells7 HT.out.arg
  go_wp2_with fail
  refine (f96 a4 c4 l4 _ HS.out.s4 (HR.out.h4.below HT.out.bel)).mono ?_
  rintro e w4 ⟨rfl, ho, hb⟩
  have hlt : w.heap.size + 2 < W3.heap.size := lt_block HT.out.out
  have HQ4 : Hid (Rw (w.heap.size + 2) w4 (some ⟨W3.heap.size, 0, none⟩) l4) := ⟨HasS.own ho, _, rfl, hlt⟩
  have HP1 := hid (HQ1.out.mv hb)
  clear HQ1
  have HP2 := hid (HQ2.out.mv hb)
  clear HQ2
  have HP3 := hid (HQ3.out.mv hb)
  clear HQ3
  have HU := hid (HT.out.mv hb)
  clear HT x0 x1 x2 x3 x4 x5 x6 ho hb hlt
  obtain ⟨S4, hS⟩ : ∃ S, S = W3.heap.size := ⟨_, rfl⟩
  rw [← hS] at HQ4 ⊢
  clear hS
  obtain ⟨x0, x1, x2, x3, x4, x5, x6⟩ := cells7 HU.out.out
  obtain ⟨f0, f1, f2, f3, f4, f5, f6⟩ := froz7 HU.out.out
  have HT := hid (HU.out.s4 (.slice (some ⟨S4, 0, none⟩) l4.length l4.length))
  have HQ1 := hid (HP1.out.set (P := w.heap.size + 2) (o := 4) (v := .slice (some ⟨S4, 0, none⟩) l4.length l4.length) (Nat.le_refl _))
  clear HP1
  have HQ2 := hid (HP2.out.set (P := w.heap.size + 2) (o := 4) (v := .slice (some ⟨S4, 0, none⟩) l4.length l4.length) (Nat.le_refl _))
  clear HP2
  have HQ3 := hid (HP3.out.set (P := w.heap.size + 2) (o := 4) (v := .slice (some ⟨S4, 0, none⟩) l4.length l4.length) (Nat.le_refl _))
  clear HP3
  have HQ4' := hid (HQ4.out.set (P := w.heap.size + 2) (o := 4) (v := .slice (some ⟨S4, 0, none⟩) l4.length l4.length) (Nat.le_refl _))
  clear HQ4
  obtain ⟨W4, hW⟩ : ∃ W, W = w4.setCell ⟨w.heap.size + 2, 4, none⟩ (.slice (some ⟨S4, 0, none⟩) l4.length l4.length) := ⟨_, rfl⟩
  rw [← hW] at HT HQ4' HQ1 HQ2 HQ3
  have HQ4 := HQ4'
  clear HQ4'
  have HW := hid hW
  clear hW HU
  go_upto_region 7 with fail
  rw [← HW.out]
  clear HW x0 x1 x2 x3 x4 x5 x6 f0 f1 f2 f3 f4 f5 f6
  obtain ⟨x0, x1, x2, x3, x4, x5, x6⟩ := cells7 HT.out.arg
  go_wp2_with fail
  refine (f96 a5 c5 l5 _ HS.out.s5 (HR.out.h5.below HT.out.bel)).mono ?_
  rintro e w5 ⟨rfl, ho, hb⟩
  have hlt : w.heap.size + 2 < W4.heap.size := lt_block HT.out.out
  have HQ5 : Hid (Rw (w.heap.size + 2) w5 (some ⟨W4.heap.size, 0, none⟩) l5) := ⟨HasS.own ho, _, rfl, hlt⟩
  have HP1 := hid (HQ1.out.mv hb)
  clear HQ1
  have HP2 := hid (HQ2.out.mv hb)
  clear HQ2
  have HP3 := hid (HQ3.out.mv hb)
  clear HQ3
  have HP4 := hid (HQ4.out.mv hb)
  clear HQ4
  have HU := hid (HT.out.mv hb)
  clear HT x0 x1 x2 x3 x4 x5 x6 ho hb hlt
  obtain ⟨S5, hS⟩ : ∃ S, S = W4.heap.size := ⟨_, rfl⟩
  rw [← hS] at HQ5 ⊢
  clear hS
  obtain ⟨x0, x1, x2, x3, x4, x5, x6⟩ := cells7 HU.out.out
  obtain ⟨f0, f1, f2, f3, f4, f5, f6⟩ := froz7 HU.out.out
  have HT := hid (HU.out.s5 (.slice (some ⟨S5, 0, none⟩) l5.length l5.length))
  have HQ1 := hid (HP1.out.set (P := w.heap.size + 2) (o := 5) (v := .slice (some ⟨S5, 0, none⟩) l5.length l5.length) (Nat.le_refl _))
  clear HP1
  have HQ2 := hid (HP2.out.set (P := w.heap.size + 2) (o := 5) (v := .slice (some ⟨S5, 0, none⟩) l5.length l5.length) (Nat.le_refl _))
  clear HP2
  have HQ3 := hid (HP3.out.set (P := w.heap.size + 2) (o := 5) (v := .slice (some ⟨S5, 0, none⟩) l5.length l5.length) (Nat.le_refl _))
  clear HP3
  have HQ4 := hid (HP4.out.set (P := w.heap.size + 2) (o := 5) (v := .slice (some ⟨S5, 0, none⟩) l5.length l5.length) (Nat.le_refl _))
  clear HP4
  have HQ5' := hid (HQ5.out.set (P := w.heap.size + 2) (o := 5) (v := .slice (some ⟨S5, 0, none⟩) l5.length l5.length) (Nat.le_refl _))
  clear HQ5
  obtain ⟨W5, hW⟩ : ∃ W, W = w5.setCell ⟨w.heap.size + 2, 5, none⟩ (.slice (some ⟨S5, 0, none⟩) l5.length l5.length) := ⟨_, rfl⟩
  rw [← hW] at HT HQ5' HQ1 HQ2 HQ3 HQ4
  have HQ5 := HQ5'
  clear HQ5'
  have HW := hid hW
  clear hW HU
  go_upto_region 8 with fail
  rw [← HW.out]
  clear HW x0 x1 x2 x3 x4 x5 x6 f0 f1 f2 f3 f4 f5 f6
  obtain ⟨x0, x1, x2, x3, x4, x5, x6⟩ := cells7 HT.out.arg
  go_wp2_with fail
  refine (Ino.f95 a6 l6.length c6 l6 _ rfl HS.out.s6 (HR.out.h6.below HT.out.bel)).mono ?_
  rintro e w6 ⟨rfl, ho, hb⟩
  have hlt : w.heap.size + 2 < W5.heap.size := lt_block HT.out.out
  have HQ6 : Hid (Ino.Has w6 (some ⟨W5.heap.size, 0, none⟩) l6) := Ino.Has.own ho
  have HG6 := hid hlt
  have HP1 := hid (HQ1.out.mv hb)
  clear HQ1
  have HP2 := hid (HQ2.out.mv hb)
  clear HQ2
  have HP3 := hid (HQ3.out.mv hb)
  clear HQ3
  have HP4 := hid (HQ4.out.mv hb)
  clear HQ4
  have HP5 := hid (HQ5.out.mv hb)
  clear HQ5
  have HU := hid (HT.out.mv hb)
  clear HT x0 x1 x2 x3 x4 x5 x6 ho hb hlt
  obtain ⟨S6, hS⟩ : ∃ S, S = W5.heap.size := ⟨_, rfl⟩
  rw [← hS] at HQ6 ⊢
  rw [← hS] at HG6
  clear hS
  obtain ⟨x0, x1, x2, x3, x4, x5, x6⟩ := cells7 HU.out.out
  obtain ⟨f0, f1, f2, f3, f4, f5, f6⟩ := froz7 HU.out.out
  have HT := hid (HU.out.s6 (.slice (some ⟨S6, 0, none⟩) l6.length l6.length))
  have HQ1 := hid (HP1.out.set (P := w.heap.size + 2) (o := 6) (v := .slice (some ⟨S6, 0, none⟩) l6.length l6.length) (Nat.le_refl _))
  clear HP1
  have HQ2 := hid (HP2.out.set (P := w.heap.size + 2) (o := 6) (v := .slice (some ⟨S6, 0, none⟩) l6.length l6.length) (Nat.le_refl _))
  clear HP2
  have HQ3 := hid (HP3.out.set (P := w.heap.size + 2) (o := 6) (v := .slice (some ⟨S6, 0, none⟩) l6.length l6.length) (Nat.le_refl _))
  clear HP3
  have HQ4 := hid (HP4.out.set (P := w.heap.size + 2) (o := 6) (v := .slice (some ⟨S6, 0, none⟩) l6.length l6.length) (Nat.le_refl _))
  clear HP4
  have HQ5 := hid (HP5.out.set (P := w.heap.size + 2) (o := 6) (v := .slice (some ⟨S6, 0, none⟩) l6.length l6.length) (Nat.le_refl _))
  clear HP5
  have HQ6' := hid (HasI.set HQ6.out HG6.out (P := w.heap.size + 2) (o := 6) (v := .slice (some ⟨S6, 0, none⟩) l6.length l6.length) (Nat.le_refl _))
  clear HQ6
  obtain ⟨W6, hW⟩ : ∃ W, W = w6.setCell ⟨w.heap.size + 2, 6, none⟩ (.slice (some ⟨S6, 0, none⟩) l6.length l6.length) := ⟨_, rfl⟩
  rw [← hW] at HT HQ6' HQ1 HQ2 HQ3 HQ4 HQ5
  have HQ6 := HQ6'
  clear HQ6'
  have HW := hid hW
  clear hW HU
  go_upto_region 9 with fail
  rw [← HW.out]
  clear HW x0 x1 x2 x3 x4 x5 x6 f0 f1 f2 f3 f4 f5 f6
  obtain ⟨x0, x1, x2, x3, x4, x5, x6⟩ := cells7 HT.out.out
  obtain ⟨y0, y1, y2, y3, y4, y5, y6⟩ := cells7 HT.out.res
  obtain ⟨f0, f1, f2, f3, f4, f5, f6⟩ := froz7 HT.out.res
  go_wp2
  have HA := set7 (x0 := .int .i64 z) (x1 := .slice (some ⟨S1, 0, none⟩) l1.length l1.length) (x2 := .slice (some ⟨S2, 0, none⟩) l2.length l2.length) (x3 := .slice (some ⟨S3, 0, none⟩) l3.length l3.length) (x4 := .slice (some ⟨S4, 0, none⟩) l4.length l4.length) (x5 := .slice (some ⟨S5, 0, none⟩) l5.length l5.length) (x6 := .slice (some ⟨S6, 0, none⟩) l6.length l6.length) HT.out.res
  obtain ⟨q0, q1, q2, q3, q4, q5, q6⟩ := cells7 HA
  refine bodyPost_ret (v := agI ⟨z, l1, l2, l3, l4, l5, l6, some ⟨S1, 0, none⟩, l1.length, some ⟨S2, 0, none⟩, l2.length, some ⟨S3, 0, none⟩, l3.length, some ⟨S4, 0, none⟩, l4.length, some ⟨S5, 0, none⟩, l5.length, some ⟨S6, 0, none⟩, l6.length⟩) ?_ rfl ⟨_, rfl, ⟨rfl, rfl, rfl, rfl, rfl, rfl, rfl⟩, ⟨(((((((HQ1.out.set (P := w.heap.size + 1) (by omega)).set (P := w.heap.size + 1) (by omega)).set (P := w.heap.size + 1) (by omega)).set (P := w.heap.size + 1) (by omega)).set (P := w.heap.size + 1) (by omega)).set (P := w.heap.size + 1) (by omega)).set (P := w.heap.size + 1) (by omega)).has, (((((((HQ2.out.set (P := w.heap.size + 1) (by omega)).set (P := w.heap.size + 1) (by omega)).set (P := w.heap.size + 1) (by omega)).set (P := w.heap.size + 1) (by omega)).set (P := w.heap.size + 1) (by omega)).set (P := w.heap.size + 1) (by omega)).set (P := w.heap.size + 1) (by omega)).has, (((((((HQ3.out.set (P := w.heap.size + 1) (by omega)).set (P := w.heap.size + 1) (by omega)).set (P := w.heap.size + 1) (by omega)).set (P := w.heap.size + 1) (by omega)).set (P := w.heap.size + 1) (by omega)).set (P := w.heap.size + 1) (by omega)).set (P := w.heap.size + 1) (by omega)).has, (((((((HQ4.out.set (P := w.heap.size + 1) (by omega)).set (P := w.heap.size + 1) (by omega)).set (P := w.heap.size + 1) (by omega)).set (P := w.heap.size + 1) (by omega)).set (P := w.heap.size + 1) (by omega)).set (P := w.heap.size + 1) (by omega)).set (P := w.heap.size + 1) (by omega)).has, (((((((HQ5.out.set (P := w.heap.size + 1) (by omega)).set (P := w.heap.size + 1) (by omega)).set (P := w.heap.size + 1) (by omega)).set (P := w.heap.size + 1) (by omega)).set (P := w.heap.size + 1) (by omega)).set (P := w.heap.size + 1) (by omega)).set (P := w.heap.size + 1) (by omega)).has, (HasI.set (HasI.set (HasI.set (HasI.set (HasI.set (HasI.set (HasI.set HQ6.out HG6.out (P := w.heap.size + 1) (by omega)) HG6.out (P := w.heap.size + 1) (by omega)) HG6.out (P := w.heap.size + 1) (by omega)) HG6.out (P := w.heap.size + 1) (by omega)) HG6.out (P := w.heap.size + 1) (by omega)) HG6.out (P := w.heap.size + 1) (by omega)) HG6.out (P := w.heap.size + 1) (by omega))⟩, below7 HT.out.bel (by omega)⟩
  simp [results, Tryz.results60, go_sem, q0, q1, q2, q3, q4, q5, q6]

set_option maxHeartbeats 4000000 in
theorem f73 (i j : Iv) (w : World) (hr : Has w i) (hr' : Has w j) (hs : Sml i) (he : Same i j) :
    Calls Tryz.prog 73 #[agI i, agI j] w fun e w' => e = .returned (.bool true) ∧ Below w.heap.size w w' := by
  obtain ⟨z, l1, l2, l3, l4, l5, l6, a1, c1, a2, c2, a3, c3, a4, c4, a5, c5, a6, c6⟩ := i
  obtain ⟨z', l1', l2', l3', l4', l5', l6', a1', c1', a2', c2', a3', c3', a4', c4', a5', c5', a6', c6'⟩ := j
  obtain ⟨rfl, rfl, rfl, rfl, rfl, rfl, rfl⟩ := he
  have HB : Hid (Below w.heap.size w ((w.alloc (.cells (clI ⟨z', l1', l2', l3', l4', l5', l6', a1, c1, a2, c2, a3, c3, a4, c4, a5, c5, a6, c6⟩) 62)).alloc (.cells (clI ⟨z', l1', l2', l3', l4', l5', l6', a1', c1', a2', c2', a3', c3', a4', c4', a5', c5', a6', c6'⟩) 62))) := ((Below.refl _ _).alloc (Nat.le_refl _) _).alloc (by simp) _
  have HA : Hid (((w.alloc (.cells (clI ⟨z', l1', l2', l3', l4', l5', l6', a1, c1, a2, c2, a3, c3, a4, c4, a5, c5, a6, c6⟩) 62)).alloc (.cells (clI ⟨z', l1', l2', l3', l4', l5', l6', a1', c1', a2', c2', a3', c3', a4', c4', a5', c5', a6', c6'⟩) 62)).heap[w.heap.size]? = some (.cells (clI ⟨z', l1', l2', l3', l4', l5', l6', a1, c1, a2, c2, a3, c3, a4, c4, a5, c5, a6, c6⟩) 62)) := kept (heap_alloc_new w _) ((Below.refl _ _).alloc (Nat.le_refl _) _)
  have HC : Hid (((w.alloc (.cells (clI ⟨z', l1', l2', l3', l4', l5', l6', a1, c1, a2, c2, a3, c3, a4, c4, a5, c5, a6, c6⟩) 62)).alloc (.cells (clI ⟨z', l1', l2', l3', l4', l5', l6', a1', c1', a2', c2', a3', c3', a4', c4', a5', c5', a6', c6'⟩) 62)).heap[w.heap.size + 1]? = some (.cells (clI ⟨z', l1', l2', l3', l4', l5', l6', a1', c1', a2', c2', a3', c3', a4', c4', a5', c5', a6', c6'⟩) 62)) := by
    have := heap_alloc_new (w.alloc (.cells (clI ⟨z', l1', l2', l3', l4', l5', l6', a1, c1, a2, c2, a3, c3, a4, c4, a5, c5, a6, c6⟩) 62)) (.cells (clI ⟨z', l1', l2', l3', l4', l5', l6', a1', c1', a2', c2', a3', c3', a4', c4', a5', c5', a6', c6'⟩) 62)
    unfold Hid
    simpa using this
  have HR := hid hr
  have HR' := hid hr'
  have HS := hid hs
  clear hr hr' hs
  have g0 : (z' != z') = false := by simp
  obtain ⟨W0, hW⟩ : ∃ W, W = ((w.alloc (.cells (clI ⟨z', l1', l2', l3', l4', l5', l6', a1, c1, a2, c2, a3, c3, a4, c4, a5, c5, a6, c6⟩) 62)).alloc (.cells (clI ⟨z', l1', l2', l3', l4', l5', l6', a1', c1', a2', c2', a3', c3', a4', c4', a5', c5', a6', c6'⟩) 62)) := ⟨_, rfl⟩
  rw [← hW] at HA HC HB
  have HW := hid hW
  clear hW
  go_enter Tryz.func73, Tryz.ntmps73
  go_upto_region 1 with fail
  rw [← HW.out]
  clear HW
  obtain ⟨x0, x1, x2, x3, x4, x5, x6⟩ := cells7 HA.out
  obtain ⟨y0, y1, y2, y3, y4, y5, y6⟩ := cells7 HC.out
  go_wp2_with fail
  refine (f112 a1 a1' c1 c1' l1' _ HS.out.s1 (HR.out.h1.below HB.out) (HR'.out.h1.below HB.out)).mono ?_
  rintro e W1 ⟨rfl, hb⟩
  have HA' := hid (kept HA.out hb)
  have HC' := hid (kept HC.out hb)
  have HB' := hid (HB.out.trans (hb.mono HB.out.size))
  clear HA HC HB hb x0 x1 x2 x3 x4 x5 x6 y0 y1 y2 y3 y4 y5 y6
  have HA := HA'
  have HC := HC'
  have HB := HB'
  clear HA' HC' HB'
  obtain ⟨x0, x1, x2, x3, x4, x5, x6⟩ := cells7 HA.out
  obtain ⟨y0, y1, y2, y3, y4, y5, y6⟩ := cells7 HC.out
  go_wp2_with fail
  refine (f112 a2 a2' c2 c2' l2' _ HS.out.s2 (HR.out.h2.below HB.out) (HR'.out.h2.below HB.out)).mono ?_
  rintro e W2 ⟨rfl, hb⟩
  have HA' := hid (kept HA.out hb)
  have HC' := hid (kept HC.out hb)
  have HB' := hid (HB.out.trans (hb.mono HB.out.size))
  clear HA HC HB hb x0 x1 x2 x3 x4 x5 x6 y0 y1 y2 y3 y4 y5 y6
  have HA := HA'
  have HC := HC'
  have HB := HB'
  clear HA' HC' HB'
  obtain ⟨x0, x1, x2, x3, x4, x5, x6⟩ := cells7 HA.out
  obtain ⟨y0, y1, y2, y3, y4, y5, y6⟩ := cells7 HC.out
  go_wp2_with fail
  refine (f112 a3 a3' c3 c3' l3' _ HS.out.s3 (HR.out.h3.below HB.out) (HR'.out.h3.below HB.out)).mono ?_
  rintro e W3 ⟨rfl, hb⟩
  have HA' := hid (kept HA.out hb)
  have HC' := hid (kept HC.out hb)
  have HB' := hid (HB.out.trans (hb.mono HB.out.size))
  clear HA HC HB hb x0 x1 x2 x3 x4 x5 x6 y0 y1 y2 y3 y4 y5 y6
  have HA := HA'
  have HC := HC'
  have HB := HB'
  clear HA' HC' HB'
  obtain ⟨x0, x1, x2, x3, x4, x5, x6⟩ := cells7 HA.out
  obtain ⟨y0, y1, y2, y3, y4, y5, y6⟩ := cells7 HC.out
  go_wp2_with fail
  refine (f112 a4 a4' c4 c4' l4' _ HS.out.s4 (HR.out.h4.below HB.out) (HR'.out.h4.below HB.out)).mono ?_
  rintro e W4 ⟨rfl, hb⟩
  have HA' := hid (kept HA.out hb)
  have HC' := hid (kept HC.out hb)
  have HB' := hid (HB.out.trans (hb.mono HB.out.size))
  clear HA HC HB hb x0 x1 x2 x3 x4 x5 x6 y0 y1 y2 y3 y4 y5 y6
  have HA := HA'
  have HC := HC'
  have HB := HB'
  clear HA' HC' HB'
  obtain ⟨x0, x1, x2, x3, x4, x5, x6⟩ := cells7 HA.out
  obtain ⟨y0, y1, y2, y3, y4, y5, y6⟩ := cells7 HC.out
  go_wp2_with fail
  refine (f112 a5 a5' c5 c5' l5' _ HS.out.s5 (HR.out.h5.below HB.out) (HR'.out.h5.below HB.out)).mono ?_
  rintro e W5 ⟨rfl, hb⟩
  have HA' := hid (kept HA.out hb)
  have HC' := hid (kept HC.out hb)
  have HB' := hid (HB.out.trans (hb.mono HB.out.size))
  clear HA HC HB hb x0 x1 x2 x3 x4 x5 x6 y0 y1 y2 y3 y4 y5 y6
  have HA := HA'
  have HC := HC'
  have HB := HB'
  clear HA' HC' HB'
  obtain ⟨x0, x1, x2, x3, x4, x5, x6⟩ := cells7 HA.out
  obtain ⟨y0, y1, y2, y3, y4, y5, y6⟩ := cells7 HC.out
  go_wp2_with fail
  refine (Ino.f111 a6 a6' l6'.length l6'.length c6 c6' l6' _ rfl rfl HS.out.s6 (HR.out.h6.below HB.out) (HR'.out.h6.below HB.out)).mono ?_
  rintro e W6 ⟨rfl, q, hq⟩
  have hb : Below W5.heap.size W5 W6 := by rw [hq]; exact below_drewN (Below.refl _ _) _
  clear hq
  have HA' := hid (kept HA.out hb)
  have HC' := hid (kept HC.out hb)
  have HB' := hid (HB.out.trans (hb.mono HB.out.size))
  clear HA HC HB hb x0 x1 x2 x3 x4 x5 x6 y0 y1 y2 y3 y4 y5 y6
  have HA := HA'
  have HC := HC'
  have HB := HB'
  clear HA' HC' HB'
  go_wp2
  go_ret
  exact ⟨rfl, HB.out⟩
end Go.Proofs.YthcogkoleiejgaaGreatDoor.Rng
