/- Intervals that are drawn: interval. -/
import Derived.Test.YtcnilidckicccaaDoorIwc
import Derived.Deep.CutRange
namespace Go.Proofs.YtcnilidckicccaaDoor.Cur
open Go.RowKit
open Go.Proofs.YtcnilidckicccaaDoor.Cal (hid)
open Go.Proofs.YtcnilidckicccaaDoor.Rng (Sm e0 HasS Fit flat In64)

/-- The state of a drawing: the interval's box, the cursor, all else as it was. -/
structure IvS (B0 R n c lim : Nat) (a : Option Addr) (w : World) (X Y B : Nat) (x : World) : Prop where
  bx : ∃ z v1 v2 v3 v4 v5 v6, Bx 2 X B z v1 v2 v3 v4 v5 v6 x
  cu : Cu B0 R a n c lim x
  gr : w.grownBy x (some R)
  res : x.heap[Y]? = some (.cells #[.int .i64 0, .slice none 0 0, .slice none 0 0, .slice none 0 0, .slice none 0 0, .slice none 0 0, .slice none 0 0] 26)
  ord : R < Y ∧ Y < X ∧ X ≤ B
theorem IvS.of {B0 R n c lim lim' : Nat} {a : Option Addr} {w : World} {X Y B : Nat} {x y : World} (h : IvS B0 R n c lim a w X Y B x) (hg : x.grownBy y (some R)) (hc : Cu B0 R a n c lim' y) : IvS B0 R n c lim' a w X Y B y := by
  obtain ⟨z, v1, v2, v3, v4, v5, v6, hb⟩ := h.bx
  have ho := h.ord
  refine ⟨⟨z, v1, v2, v3, v4, v5, v6, hb.of hg (fun g e => by cases e; omega)⟩, hc, grownBy_trans h.gr hg, (hg.block Y (Cal.lt_block h.res) (fun e => by have := Option.some.inj e; omega)).trans h.res, ho⟩
theorem IvS.mono {B0 R n c lim lim' : Nat} {a : Option Addr} {w : World} {X Y B : Nat} {x : World} (h : IvS B0 R n c lim a w X Y B x) (hl : lim ≤ lim') : IvS B0 R n c lim' a w X Y B x := ⟨h.bx, h.cu.mono hl, h.gr, h.res, h.ord⟩
theorem IvS.box {B0 R n c lim : Nat} {a : Option Addr} {w : World} {X Y B : Nat} {x : World} (h : IvS B0 R n c lim a w X Y B x) {z : Int} {v1 v2 v3 v4 v5 v6 v : Value} {o : Nat} (hb : Bx 2 X B z v1 v2 v3 v4 v5 v6 (x.setCell ⟨B, o, none⟩ v)) (hw : w.heap.size ≤ B) : IvS B0 R n c lim a w X Y B (x.setCell ⟨B, o, none⟩ v) := by
  have ho := h.ord
  have hg := set_grown x B o v
  refine ⟨⟨z, v1, v2, v3, v4, v5, v6, hb⟩, cuKept h.cu hg (by intro g e; cases e; omega), ?_, (hg.block Y (Cal.lt_block h.res) (fun e => by have := Option.some.inj e; omega)).trans h.res, ho⟩
  exact ⟨hg.os.trans h.gr.os, hg.tape.trans h.gr.tape, hg.output.trans h.gr.output, Nat.le_trans h.gr.size hg.size, fun i hi hr => (hg.block i (Nat.lt_of_lt_of_le hi h.gr.size) (fun e => by have := Option.some.inj e; omega)).trans (h.gr.block i hi hr)⟩
theorem IvS.new {B0 R n c lim : Nat} {a : Option Addr} {w : World} {X Y B : Nat} {x : World} (h : IvS B0 R n c lim a w X Y B x) (o : Obj) : IvS B0 R n c lim a w X Y B (x.alloc o) := by
  obtain ⟨z, v1, v2, v3, v4, v5, v6, hb⟩ := h.bx
  exact ⟨⟨z, v1, v2, v3, v4, v5, v6, hb.new o⟩, cuKept h.cu (row := none) (grown_alloc (World.grownBy.refl _ _) _) (by intro g hg; cases hg), grown_alloc h.gr _, (Below.heap_alloc x o Y (Cal.lt_block h.res)).trans h.res, h.ord⟩
theorem IvS.put3 {B0 R n c lim : Nat} {a : Option Addr} {w : World} {X Y B : Nat} {x : World} (h : IvS B0 R n c lim a w X Y B x) (hw : w.heap.size ≤ B) (p q : Int) (hp : In64 p) (hq : In64 q) : ∀ y, y = (x.alloc (.cells #[.int .i64 p, .int .i64 q] 55)).setCell ⟨B, 3, none⟩ (.slice (some ⟨x.heap.size, 0, none⟩) 1 1) → IvS B0 R n c lim a w X Y B y := by
  rintro y rfl
  obtain ⟨z, v1, v2, v3, v4, v5, v6, hb⟩ := h.bx
  have hlt := Cal.lt_block hb.box
  have ho := h.ord
  obtain ⟨f1, f2⟩ := hb.far (v := .slice (some ⟨x.heap.size, 0, none⟩) 1 1) (Nat.le_refl _) (fun g e => by cases e; exact Nat.le_refl _) v3
  exact (h.new _).box ((hb.new _).s3 (RowR.one x p q hp hq X (by omega)) f1 f2) hw
theorem IvS.put5 {B0 R n c lim : Nat} {a : Option Addr} {w : World} {X Y B : Nat} {x : World} (h : IvS B0 R n c lim a w X Y B x) (hw : w.heap.size ≤ B) (p q : Int) (hp : In64 p) (hq : In64 q) : ∀ y, y = (x.alloc (.cells #[.int .i64 p, .int .i64 q] 55)).setCell ⟨B, 5, none⟩ (.slice (some ⟨x.heap.size, 0, none⟩) 1 1) → IvS B0 R n c lim a w X Y B y := by
  rintro y rfl
  obtain ⟨z, v1, v2, v3, v4, v5, v6, hb⟩ := h.bx
  have hlt := Cal.lt_block hb.box
  have ho := h.ord
  obtain ⟨f1, f2⟩ := hb.far (v := .slice (some ⟨x.heap.size, 0, none⟩) 1 1) (Nat.le_refl _) (fun g e => by cases e; exact Nat.le_refl _) v5
  exact (h.new _).box ((hb.new _).s5 (RowR.one x p q hp hq X (by omega)) f1 f2) hw
theorem IvS.put6 {B0 R n c lim : Nat} {a : Option Addr} {w : World} {X Y B : Nat} {x : World} (h : IvS B0 R n c lim a w X Y B x) (hw : w.heap.size ≤ B) (p q : Int) (hp : In64 p) (hq : In64 q) : ∀ y, y = (x.alloc (.cells #[.int .i64 p, .int .i64 q] 3)).setCell ⟨B, 6, none⟩ (.slice (some ⟨x.heap.size, 0, none⟩) 2 2) → IvS B0 R n c lim a w X Y B y := by
  rintro y rfl
  obtain ⟨z, v1, v2, v3, v4, v5, v6, hb⟩ := h.bx
  have hlt := Cal.lt_block hb.box
  have ho := h.ord
  obtain ⟨f1, f2⟩ := hb.far (v := .slice (some ⟨x.heap.size, 0, none⟩) 2 2) (Nat.le_refl _) (fun g e => by cases e; exact Nat.le_refl _) v6
  exact (h.new _).box ((hb.new _).s6 (RowI.two x p q hp hq X (by omega)) f1 f2) hw
/-- Seven cells written anew. -/
abbrev sev (x : World) (b : Nat) (a0 a1 a2 a3 a4 a5 a6 : Value) : World := ((((((x.setCell ⟨b, 0, none⟩ a0).setCell ⟨b, 1, none⟩ a1).setCell ⟨b, 2, none⟩ a2).setCell ⟨b, 3, none⟩ a3).setCell ⟨b, 4, none⟩ a4).setCell ⟨b, 5, none⟩ a5).setCell ⟨b, 6, none⟩ a6
theorem sev_box {x : World} {b : Nat} {c0 c1 c2 c3 c4 c5 c6 : Value} {t : TypeId} (h : x.heap[b]? = some (.cells #[c0, c1, c2, c3, c4, c5, c6] t)) (a0 a1 a2 a3 a4 a5 a6 : Value) : (sev x b a0 a1 a2 a3 a4 a5 a6).heap[b]? = some (.cells #[a0, a1, a2, a3, a4, a5, a6] t) := by
  have h0 : (x.setCell ⟨b, 0, none⟩ a0).heap[b]? = some (.cells #[a0, c1, c2, c3, c4, c5, c6] t) := set_box h
  have h1 : ((x.setCell ⟨b, 0, none⟩ a0).setCell ⟨b, 1, none⟩ a1).heap[b]? = some (.cells #[a0, a1, c2, c3, c4, c5, c6] t) := set_box h0
  have h2 : (((x.setCell ⟨b, 0, none⟩ a0).setCell ⟨b, 1, none⟩ a1).setCell ⟨b, 2, none⟩ a2).heap[b]? = some (.cells #[a0, a1, a2, c3, c4, c5, c6] t) := set_box h1
  have h3 : ((((x.setCell ⟨b, 0, none⟩ a0).setCell ⟨b, 1, none⟩ a1).setCell ⟨b, 2, none⟩ a2).setCell ⟨b, 3, none⟩ a3).heap[b]? = some (.cells #[a0, a1, a2, a3, c4, c5, c6] t) := set_box h2
  have h4 : (((((x.setCell ⟨b, 0, none⟩ a0).setCell ⟨b, 1, none⟩ a1).setCell ⟨b, 2, none⟩ a2).setCell ⟨b, 3, none⟩ a3).setCell ⟨b, 4, none⟩ a4).heap[b]? = some (.cells #[a0, a1, a2, a3, a4, c5, c6] t) := set_box h3
  have h5 : ((((((x.setCell ⟨b, 0, none⟩ a0).setCell ⟨b, 1, none⟩ a1).setCell ⟨b, 2, none⟩ a2).setCell ⟨b, 3, none⟩ a3).setCell ⟨b, 4, none⟩ a4).setCell ⟨b, 5, none⟩ a5).heap[b]? = some (.cells #[a0, a1, a2, a3, a4, a5, c6] t) := set_box h4
  have h6 : (((((((x.setCell ⟨b, 0, none⟩ a0).setCell ⟨b, 1, none⟩ a1).setCell ⟨b, 2, none⟩ a2).setCell ⟨b, 3, none⟩ a3).setCell ⟨b, 4, none⟩ a4).setCell ⟨b, 5, none⟩ a5).setCell ⟨b, 6, none⟩ a6).heap[b]? = some (.cells #[a0, a1, a2, a3, a4, a5, a6] t) := set_box h5
  exact h6
theorem sev_grown (x : World) (b : Nat) (a0 a1 a2 a3 a4 a5 a6 : Value) : x.grownBy (sev x b a0 a1 a2 a3 a4 a5 a6) (some b) :=
  grown_setRow (grown_setRow (grown_setRow (grown_setRow (grown_setRow (grown_setRow (grown_setRow (World.grownBy.refl _ _) a0) a1) a2) a3) a4) a5) a6
theorem grownBy_past {w x y : World} {row : Option Nat} {Y : Nat} (h : w.grownBy x row) (hg : x.grownBy y (some Y)) (hY : w.heap.size ≤ Y) : w.grownBy y row :=
  ⟨hg.os.trans h.os, hg.tape.trans h.tape, hg.output.trans h.output, Nat.le_trans h.size hg.size, fun i hi hr => (hg.block i (Nat.lt_of_lt_of_le hi h.size) (fun e => by have := Option.some.inj e; omega)).trans (h.block i hi hr)⟩
theorem RowI.base {K X Y : Nat} {w : World} {v : Value} (h : RowI K X w v) (hb : Y ≤ X) : RowI K Y w v := by
  obtain ⟨a, n, c, l, rfl, h1, h2, h3, h4⟩ := h; exact ⟨a, n, c, l, rfl, h1, h2, h3.mono hb, h4⟩
theorem IvS.whole {B0 R n c lim : Nat} {a : Option Addr} {w : World} {X Y B : Nat} {x : World} (h : IvS B0 R n c lim a w X Y B x) (hw : w.heap.size ≤ B) {z : Int} {v1 v2 v3 v4 v5 v6 : Value} (hb : Bx 2 X B z v1 v2 v3 v4 v5 v6 x) : ∀ y, y = sev x B (.int .i64 z) (.slice none 0 0) v2 v3 (.slice none 0 0) (.slice none 0 0) (.slice none 0 0) → IvS B0 R n c lim a w X Y B y := by
  rintro y rfl
  have nn : ∀ {P : Prop} (g : Nat), (Value.slice none 0 0).ownBlock = some g → P := fun g e => by cases e
  have nb : (Value.slice none 0 0).ownBlock ≠ some B := fun e => by cases e
  have b0 := hb.s0 hb.z
  have h0 := h.box b0 hw
  have b1 := b0.s1 (RowR.nil _ _ _) (fun g e => nn g e) nb
  have h1 := h0.box b1 hw
  have b2 := b1.s2 b1.r2 (fun g e => .inl e) (b1.nb _ (by simp))
  have h2 := h1.box b2 hw
  have b3 := b2.s3 b2.r3 (fun g e => .inl e) (b2.nb _ (by simp))
  have h3 := h2.box b3 hw
  have b4 := b3.s4 (RowR.nil _ _ _) (fun g e => nn g e) nb
  have h4 := h3.box b4 hw
  have b5 := b4.s5 (RowR.nil _ _ _) (fun g e => nn g e) nb
  have h5 := h4.box b5 hw
  exact h5.box (b5.s6 (RowI.nil _ _ _) (fun g e => nn g e) nb) hw
abbrev ZI : Obj := .cells #[.int .i64 0, .slice none 0 0, .slice none 0 0, .slice none 0 0, .slice none 0 0, .slice none 0 0, .slice none 0 0] 26
theorem rl_nil (v : Value) : Rl (.slice none 0 0) v := fun g e => by cases e
theorem rl_nil' (v : Value) : Rl v (.slice none 0 0) := fun g _ e => by cases e
theorem in64_small {x : Int} (h0 : -1000000000000 ≤ x) (h1 : x ≤ 1000000000000) : In64 x := ⟨by omega, by omega⟩
set_option maxHeartbeats 8000000 in
theorem f16 (B0 R n c lim : Nat) (a : Option Addr) (w : World) (h : Cu B0 R a n c lim w) (hl : lim ≤ 4503599627200000) (hn : n ≤ 1048576) :
    Calls Tryd.prog 16 #[.pointer (some ⟨R, 0, none⟩)] w fun e w' => ∃ z v1 v2 v3 v4 v5 v6, e = .returned (.agg #[.int .i64 z, v1, v2, v3, v4, v5, v6]) ∧ In64 z ∧ RowR 2 w.heap.size w' v1 ∧ RowR 2 w.heap.size w' v2 ∧ RowR 2 w.heap.size w' v3 ∧ RowR 2 w.heap.size w' v4 ∧ RowR 2 w.heap.size w' v5 ∧ RowI 2 w.heap.size w' v6 ∧ [v1, v2, v3, v4, v5, v6].Pairwise Rl ∧ Cu B0 R a n c (lim + 5000) w' ∧ w.grownBy w' (some R) := by
  have hR := cuLt h
  obtain ⟨W0, hW0⟩ : ∃ W, W = w.alloc ZI := ⟨_, rfl⟩
  have HC0 : Hid (Cu B0 R a n c lim W0) := by rw [hW0]; exact cuKept h (row := none) (grown_alloc (World.grownBy.refl _ _) _) (by intro g hg; cases hg)
  have HG0 : Hid (w.grownBy W0 (some R)) := by rw [hW0]; exact grown_alloc (World.grownBy.refl _ _) _
  have HY0 : Hid (W0.heap[w.heap.size]? = some ZI) := by rw [hW0]; exact heap_alloc_new w _
  have HS0 : Hid (W0.heap.size = w.heap.size + 1) := by rw [hW0]; unfold Hid; simp
  have HW0 := hid hW0
  clear h hW0
  go_enter Tryd.func16, Tryd.ntmps16
  go_upto_region 1 with fail
  rw [← HW0.out]
  clear HW0
  obtain ⟨Y, hY⟩ : ∃ Y, Y = w.heap.size := ⟨_, rfl⟩
  rw [← hY] at HY0 HS0 hR ⊢
  have HYY := hid hY
  clear hY
  have hs0 := HS0.out
  have hs0' : Y < W0.heap.size := by omega
  clear hs0
  go_wp2_with fail
  refine (f38 B0 R n c lim a 27 W0 HC0.out (by omega) hn (by omega) (by omega)).mono ?_
  rintro e w1 ⟨x, rfl, x0, x1, hc1, hg1⟩
  have HC1 := hid hc1
  have HG1 := hid (grownBy_trans HG0.out hg1)
  have HY1 : Hid (w1.heap[Y]? = some ZI) := (hg1.block Y (by omega) (fun e => by have := Option.some.inj e; omega)).trans HY0.out
  have hs1 : Y + 1 ≤ w1.heap.size := by have := hg1.size; omega
  have hx27 : x ≤ 26 := by omega
  clear hc1 hg1 HC0 HG0 HY0 HS0 x1 hs0'
  go_wp2_with fail
  refine (f39 B0 R n c _ a 0 1439 w1 HC1.out (by omega) hn (by omega) (by omega) (by omega)).mono ?_
  rintro e w2 ⟨v1, rfl, hr1, hc2, hg2⟩
  have HC2 := hid hc2
  have HG2 := hid (grownBy_trans HG1.out hg2)
  have HY2 : Hid (w2.heap[Y]? = some ZI) := (hg2.block Y (by omega) (fun e => by have := Option.some.inj e; omega)).trans HY1.out
  have H1 := hid hr1
  have hs2 := hg2.size
  clear hc2 hg2 hr1 HC1 HG1 HY1
  go_wp2_with fail
  refine (f39 B0 R n c _ a 0 6 w2 HC2.out (by omega) hn (by omega) (by omega) (by omega)).mono ?_
  rintro e w3 ⟨v2, rfl, hr2, hc3, hg3⟩
  have HC3 := hid hc3
  have HG3 := hid (grownBy_trans HG2.out hg3)
  have HY3 : Hid (w3.heap[Y]? = some ZI) := (hg3.block Y (by omega) (fun e => by have := Option.some.inj e; omega)).trans HY2.out
  have H2 := hid hr2
  have L1 : Hid (∀ g, v1.ownBlock = some g → w1.heap.size ≤ g ∧ g < w2.heap.size) := H1.out.lt
  replace H1 := hid (H1.out.of hg3 (fun g e he => by have := (H1.out.lt g e).1; have := Option.some.inj he; omega))
  have hs3 := hg3.size
  clear hc3 hg3 hr2 HC2 HG2 HY2
  go_wp2_with fail
  refine (f39 B0 R n c _ a 1 12 w3 HC3.out (by omega) hn (by omega) (by omega) (by omega)).mono ?_
  rintro e w4 ⟨v4, rfl, hr4, hc4, hg4⟩
  have HC4 := hid hc4
  have HG4 := hid (grownBy_trans HG3.out hg4)
  have HY4 : Hid (w4.heap[Y]? = some ZI) := (hg4.block Y (by omega) (fun e => by have := Option.some.inj e; omega)).trans HY3.out
  have H4 := hid hr4
  have L2 : Hid (∀ g, v2.ownBlock = some g → w2.heap.size ≤ g ∧ g < w3.heap.size) := H2.out.lt
  have L4 : Hid (∀ g, v4.ownBlock = some g → w3.heap.size ≤ g ∧ g < w4.heap.size) := H4.out.lt
  replace H1 := hid (H1.out.of hg4 (fun g e he => by have := (H1.out.lt g e).1; have := Option.some.inj he; omega))
  replace H2 := hid (H2.out.of hg4 (fun g e he => by have := (H2.out.lt g e).1; have := Option.some.inj he; omega))
  have hs4 := hg4.size
  obtain ⟨a1, n1, c1, rfl⟩ := H1.out.form
  obtain ⟨a2, n2, c2, rfl⟩ := H2.out.form
  obtain ⟨a4, n4, c4, rfl⟩ := H4.out.form
  clear hc4 hg4 hr4 HC3 HG3 HY3
  obtain ⟨W5, hW5⟩ : ∃ W, W = w4.alloc (.cells #[.int .i64 (60 * (x - 12)), .slice a1 n1 c1, .slice a2 n2 c2, .slice none 0 0, .slice a4 n4 c4, .slice none 0 0, .slice none 0 0] 26) := ⟨_, rfl⟩
  have HI5 : Hid (IvS B0 R n c (lim + 2 + 100 + 100 + 100) a w (Y + 1) Y w4.heap.size W5) := by
    have hgn : w4.grownBy W5 none := by rw [hW5]; exact grown_alloc (World.grownBy.refl _ _) _
    have hno : ∀ (v : Value) g, v.ownBlock = some g → (none : Option Nat) ≠ some g := fun v g _ e => by cases e
    refine ⟨⟨_, _, _, _, _, _, _, ⟨by rw [hW5]; exact heap_alloc_new w4 _, in64_small (by omega) (by omega), (H1.out.base (by omega)).of hgn (hno _), (H2.out.base (by omega)).of hgn (hno _), RowR.nil _ _ _, (H4.out.base (by omega)).of hgn (hno _), RowR.nil _ _ _, RowI.nil _ _ _, ?_, ?_⟩⟩, cuKept HC4.out hgn (by intro g hg; cases hg), ?_, ?_, by omega⟩
    · have r12 : Rl (.slice a1 n1 c1) (.slice a2 n2 c2) := fun g e he => by have := L1.out g e; have := L2.out g he; omega
      have r14 : Rl (.slice a1 n1 c1) (.slice a4 n4 c4) := fun g e he => by have := L1.out g e; have := L4.out g he; omega
      have r24 : Rl (.slice a2 n2 c2) (.slice a4 n4 c4) := fun g e he => by have := L2.out g e; have := L4.out g he; omega
      simp only [List.pairwise_cons, List.mem_cons, List.not_mem_nil, or_false, forall_eq_or_imp, forall_eq, List.Pairwise.nil, and_true]
      exact ⟨⟨r12, rl_nil' _, r14, rl_nil' _, rl_nil' _⟩, ⟨rl_nil' _, r24, rl_nil' _, rl_nil' _⟩, ⟨rl_nil _, rl_nil _, rl_nil _⟩, ⟨rl_nil' _, rl_nil' _⟩, rl_nil _, by simp⟩
    · intro v hv
      simp only [List.mem_cons, List.not_mem_nil, or_false] at hv
      rcases hv with rfl | rfl | rfl | rfl | rfl | rfl
      · intro e; have := (L1.out _ e).2; omega
      · intro e; have := (L2.out _ e).2; omega
      · intro e; cases e
      · intro e; have := (L4.out _ e).2; omega
      · intro e; cases e
      · intro e; cases e
    · rw [hW5]; exact grown_alloc HG4.out _
    · rw [hW5]; exact (Below.heap_alloc w4 _ _ (by omega)).trans HY4.out
  have HW5 := hid hW5
  clear hW5 HC4 HG4 HY4 H1 H2 H4 L1 L2 L4
  go_upto_region 2 with fail
  rw [← HW5.out]
  clear HW5
  obtain ⟨B, hB⟩ : ∃ B, B = w4.heap.size := ⟨_, rfl⟩
  rw [← hB] at HI5 ⊢
  clear hB
  go_wp2_with fail
  refine (f39 B0 R n c _ a 1 31 W5 HI5.out.cu (by omega) hn (by omega) (by omega) (by omega)).mono ?_
  rintro e w6 ⟨v3, rfl, hr3, hc6, hg6⟩
  have hord := HI5.out.ord
  obtain ⟨z, u1, u2, u3, u4, u5, u6, hb5⟩ := HI5.out.bx
  have hXs : Y + 1 ≤ W5.heap.size := by have := Cal.lt_block hb5.box; omega
  have hwB : w.heap.size ≤ B := by have := HYY.out; omega
  have HI6 := hid (HI5.out.of hg6 hc6)
  have hb6 := hb5.of hg6 (fun g e => by cases e; omega)
  obtain ⟨hf1, hf2⟩ := hb5.far (Nat.le_refl _) (fun g e => (hr3.lt g e).1) u3
  obtain ⟨a3, n3, c3, rfl⟩ := hr3.form
  have c3' := hb6.cells.2.2.2.1
  have f3' := hb6.frz 3
  obtain ⟨W7, hW7⟩ : ∃ W, W = w6.setCell ⟨B, 3, none⟩ (.slice a3 n3 c3) := ⟨_, rfl⟩
  have HI7 : Hid (IvS B0 R n c (lim + 2 + 100 + 100 + 100 + 100) a w (Y + 1) Y B W7) := by
    rw [hW7]; exact HI6.out.box (hb6.s3 (hr3.base hXs) hf1 hf2) hwB
  have HW7 := hid hW7
  clear hW7 hb5 hb6 hf1 hf2 hr3 hc6 hg6 HI5 HI6
  go_upto_region 3 with fail
  rw [← HW7.out]
  clear HW7 c3' f3'
  go_wp2_with fail
  refine (f18 B0 R n c _ a 2 W7 HI7.out.cu (by omega) hn (by omega) (by omega)).mono ?_
  rintro e w8 ⟨q, rfl, hc8, hg8⟩
  have HI8 := hid (HI7.out.of hg8 hc8)
  clear hc8 hg8 HI7
  go_upto_if 20 with fail
  go_cut [4] from 21 to 33 (fun s4 wx => s4 = s4 ∧ Hid (IvS B0 R n c (lim + 500) a w (Y + 1) Y B wx))
  case first =>
    cases q
    · go_wp2
      go_meet
      exact ⟨trivial, HI8.out.mono (by omega)⟩
    · go_wp2_with fail
      refine (f38 B0 R n c _ a 5 w8 HI8.out.cu (by omega) hn (by omega) (by omega)).mono ?_
      rintro e w9 ⟨y, rfl, y0, y1, hc9, hg9⟩
      have HI9 := hid (HI8.out.of hg9 hc9)
      have hy4 : y ≤ 4 := by omega
      clear hc9 hg9 HI8 y1
      go_wp2_with fail
      refine (f38 B0 R n c _ a _ w9 HI9.out.cu (by omega) hn (by omega) (by omega)).mono ?_
      rintro e wa ⟨t, rfl, t0, t1, hca, hga⟩
      have HIa := hid (HI9.out.of hga hca)
      have ht4 : t ≤ 5 := by omega
      obtain ⟨z', x1, x2, x3, x4, x5, x6, hba⟩ := HIa.out.bx
      have d3 := (hba.new (.cells #[.int .i64 (-1 - y), .int .i64 (-1 - y + t)] 55)).cells.2.2.2.1
      have e3 := (hba.new (.cells #[.int .i64 (-1 - y), .int .i64 (-1 - y + t)] 55)).frz 3
      have HNEW := hid (HIa.out.put3 hwB (-1 - y) (-1 - y + t) (in64_small (by omega) (by omega)) (in64_small (by omega) (by omega)))
      clear hba hca hga HI9
      go_wp2
      go_meet
      exact ⟨trivial, (HNEW.out _ rfl).mono (by omega)⟩
  case rest =>
  obtain ⟨_, HIb⟩ := hcut
  clear hwB
  have hwB : Hid (w.heap.size ≤ B) := by have := HYY.out; unfold Hid; have := HIb.out.ord; omega
  go_wp2_with fail
  refine (f18 B0 R n c _ a 4 wc HIb.out.cu (by omega) hn (by omega) (by omega)).mono ?_
  rintro e wd ⟨q2, rfl, hcd, hgd⟩
  have HId := hid (HIb.out.of hgd hcd)
  clear hcd hgd HIb
  go_upto_if 35 with fail
  go_cut [4] from 36 to 41 (fun s4 wx => s4 = s4 ∧ Hid (IvS B0 R n c (lim + 600) a w (Y + 1) Y B wx))
  case first =>
    cases q2
    · go_wp2
      go_meet
      exact ⟨trivial, HId.out.mono (by omega)⟩
    · go_wp2_with fail
      refine (f38 B0 R n c _ a 140 wd HId.out.cu (by omega) hn (by omega) (by omega)).mono ?_
      rintro e wa ⟨t, rfl, t0, t1, hca, hga⟩
      have HIa := hid (HId.out.of hga hca)
      have ht4 : t ≤ 140 := by omega
      obtain ⟨z', x1, x2, x3, x4, x5, x6, hba⟩ := HIa.out.bx
      have d3 := (hba.new (.cells #[.int .i64 1970, .int .i64 (1970 + t)] 55)).cells.2.2.2.2.2.1
      have e3 := (hba.new (.cells #[.int .i64 1970, .int .i64 (1970 + t)] 55)).frz 5
      have HNEW := hid (HIa.out.put5 hwB.out 1970 (1970 + t) (in64_small (by omega) (by omega)) (in64_small (by omega) (by omega)))
      clear hba hca hga HId
      go_wp2
      go_meet
      exact ⟨trivial, (HNEW.out _ rfl).mono (by omega)⟩
  case rest =>
  obtain ⟨_, HIb⟩ := hcut
  go_wp2_with fail
  refine (f18 B0 R n c _ a 4 wc HIb.out.cu (by omega) hn (by omega) (by omega)).mono ?_
  rintro e wf ⟨q3, rfl, hcd, hgd⟩
  have HId := hid (HIb.out.of hgd hcd)
  clear hcd hgd HIb
  go_upto_if 43 with fail
  go_cut [4] from 44 to 47 (fun s4 wx => s4 = s4 ∧ Hid (IvS B0 R n c (lim + 700) a w (Y + 1) Y B wx))
  case first =>
    cases q3
    · go_wp2
      go_meet
      exact ⟨trivial, HId.out.mono (by omega)⟩
    · go_wp2_with fail
      refine (f38 B0 R n c _ a 200 wf HId.out.cu (by omega) hn (by omega) (by omega)).mono ?_
      rintro e wa ⟨t, rfl, t0, t1, hca, hga⟩
      have HIa := hid (HId.out.of hga hca)
      have ht4 : t ≤ 200 := by omega
      obtain ⟨z', x1, x2, x3, x4, x5, x6, hba⟩ := HIa.out.bx
      have d3 := (hba.new (.cells #[.int .i64 t, .int .i64 20000000] 3)).cells.2.2.2.2.2.2
      have e3 := (hba.new (.cells #[.int .i64 t, .int .i64 20000000] 3)).frz 6
      have HNEW := hid (HIa.out.put6 hwB.out t 20000000 (in64_small (by omega) (by omega)) (in64_small (by omega) (by omega)))
      clear hba hca hga HId
      go_wp2
      go_meet
      exact ⟨trivial, (HNEW.out _ rfl).mono (by omega)⟩
  case rest =>
  obtain ⟨_, HIb⟩ := hcut
  go_wp2_with fail
  refine (f18 B0 R n c _ a 2 wc HIb.out.cu (by omega) hn (by omega) (by omega)).mono ?_
  rintro e wg ⟨q4, rfl, hcd, hgd⟩
  have HId := hid (HIb.out.of hgd hcd)
  clear hcd hgd HIb
  go_upto_if 49 with fail
  go_cut [] from 50 to 57 (fun wx => Hid (IvS B0 R n c (lim + 800) a w (Y + 1) Y B wx))
  case first =>
    cases q4
    · go_wp2
      go_meet
      exact HId.out.mono (by omega)
    · obtain ⟨z', x1, x2, x3, x4, x5, x6, hba⟩ := HId.out.bx
      obtain ⟨b1, m1, k1, rfl⟩ := hba.r1.form
      obtain ⟨b2, m2, k2, rfl⟩ := hba.r2.form
      obtain ⟨b3, m3, k3, rfl⟩ := hba.r3.form
      obtain ⟨b4, m4, k4, rfl⟩ := hba.r4.form
      obtain ⟨b5, m5, k5, rfl⟩ := hba.r5.form
      obtain ⟨b6, m6, k6, rfl⟩ := hba.r6.form
      obtain ⟨d0, d1, d2, d3, d4, d5, d6⟩ := hba.cells
      have e0 := hba.frz 0
      have e1 := hba.frz 1
      have e2 := hba.frz 2
      have e3 := hba.frz 3
      have e4 := hba.frz 4
      have e5 := hba.frz 5
      have e6 := hba.frz 6
      have HNEW := hid (HId.out.whole hwB.out hba)
      clear hba HId
      go_wp2
      go_meet
      exact (HNEW.out _ rfl).mono (by omega)
  case rest =>
  have HIb := hcut
  obtain ⟨z', x1, x2, x3, x4, x5, x6, hba⟩ := HIb.out.bx
  obtain ⟨b1, m1, k1, rfl⟩ := hba.r1.form
  obtain ⟨b2, m2, k2, rfl⟩ := hba.r2.form
  obtain ⟨b3, m3, k3, rfl⟩ := hba.r3.form
  obtain ⟨b4, m4, k4, rfl⟩ := hba.r4.form
  obtain ⟨b5, m5, k5, rfl⟩ := hba.r5.form
  obtain ⟨b6, m6, k6, rfl⟩ := hba.r6.form
  obtain ⟨d0, d1, d2, d3, d4, d5, d6⟩ := hba.cells
  have hres := HIb.out.res
  have f0 := (Cal.cell_at hres 0)
  have g0 : wc.frozen? ⟨Y, 0, none⟩ = false := by simp [World.frozen?, hres]
  have f1 := (Cal.cell_at hres 1)
  have g1 : wc.frozen? ⟨Y, 1, none⟩ = false := by simp [World.frozen?, hres]
  have f2 := (Cal.cell_at hres 2)
  have g2 : wc.frozen? ⟨Y, 2, none⟩ = false := by simp [World.frozen?, hres]
  have f3 := (Cal.cell_at hres 3)
  have g3 : wc.frozen? ⟨Y, 3, none⟩ = false := by simp [World.frozen?, hres]
  have f4 := (Cal.cell_at hres 4)
  have g4 : wc.frozen? ⟨Y, 4, none⟩ = false := by simp [World.frozen?, hres]
  have f5 := (Cal.cell_at hres 5)
  have g5 : wc.frozen? ⟨Y, 5, none⟩ = false := by simp [World.frozen?, hres]
  have f6 := (Cal.cell_at hres 6)
  have g6 : wc.frozen? ⟨Y, 6, none⟩ = false := by simp [World.frozen?, hres]
  clear hres
  go_wp2
  obtain ⟨V, hV⟩ : ∃ V, V = sev wc Y (.int .i64 z') (.slice b1 m1 k1) (.slice b2 m2 k2) (.slice b3 m3 k3) (.slice b4 m4 k4) (.slice b5 m5 k5) (.slice b6 m6 k6) := ⟨_, rfl⟩
  simp only [sev] at hV
  rw [← hV]
  have hbox : V.heap[Y]? = some (.cells #[.int .i64 z', .slice b1 m1 k1, .slice b2 m2 k2, .slice b3 m3 k3, .slice b4 m4 k4, .slice b5 m5 k5, .slice b6 m6 k6] 26) := by rw [hV]; exact sev_box HIb.out.res _ _ _ _ _ _ _
  have hg : wc.grownBy V (some Y) := by rw [hV]; exact sev_grown wc Y _ _ _ _ _ _ _
  clear hV f0 f1 f2 f3 f4 f5 f6 g0 g1 g2 g3 g4 g5 g6 d0 d1 d2 d3 d4 d5 d6
  refine bodyPost_ret (results_cell_row rfl _ V Y 26 _ (0, 0) _ rfl hbox rfl rfl (by kernel_rfl)) rfl ?_
  have hy := HYY.out
  have hbb := hba.of hg (fun g e => by cases e; omega)
  exact ⟨z', _, _, _, _, _, _, rfl, hbb.z, hbb.r1.base (by omega), hbb.r2.base (by omega), hbb.r3.base (by omega), hbb.r4.base (by omega), hbb.r5.base (by omega), hbb.r6.base (by omega), hbb.ap, (cuKept HIb.out.cu hg (by intro g e; cases e; omega)).mono (by omega), grownBy_past HIb.out.gr hg (by omega)⟩
end Go.Proofs.YtcnilidckicccaaDoor.Cur
