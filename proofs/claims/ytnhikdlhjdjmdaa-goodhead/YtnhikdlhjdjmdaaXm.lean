/- The walk of FnExactGoodHead. -/
import Derived.Test.YtnhikdlhjdjmdaaXl
import Derived.Test.YtnhikdlhjdjmdaaXh
namespace Go.Proofs.Ytnhikdlhjdjmdaa.Srs
open Go.RowKit
open Go.Proofs.Ytnhikdlhjdjmdaa.Lab (Lb HasL)
open Go.Proofs.Ytnhikdlhjdjmdaa.Smp (Sm HasS)

theorem GoodQ.same {n : Nat} {qs d : List Q} (h0 : qs.length = n) (h1 : d.length = n) (hs : Same n qs d) : GoodQ d ↔ GoodQ qs := by
  have := gdQ_congr h0 h1 hs
  rw [← gdQ_iff, ← gdQ_iff, this]
theorem gdH_same {W L N : Int} {qs d : List Q} {a a' : Option Addr} {c c' : Nat} (h1 : d.length = qs.length) (hs : Same qs.length qs d) : gdH ⟨W, L, N, d, a', c'⟩ = gdH ⟨W, L, N, qs, a, c⟩ := by
  unfold gdH
  rw [decide_eq_decide]
  unfold GoodH
  simp only
  rw [h1, GoodQ.same rfl h1 hs]
  refine ⟨fun g => ⟨g.1, g.2.1, g.2.2.1, g.2.2.2.1, fun i hi => ?_⟩, fun g => ⟨g.1, g.2.1, g.2.2.1, g.2.2.2.1, fun i hi => ?_⟩⟩
  · rw [← hs i hi]; exact g.2.2.2.2 i hi
  · rw [hs i hi]; exact g.2.2.2.2 i hi
/-- The argument in its box, the copy that was handed in in another one. -/
structure Wx (w : World) (h h' : Hd) (B : Nat) (x : World) : Prop where
  one : x.heap[w.heap.size]? = some (.cells (clH h) 48)
  two : x.heap[B]? = some (.cells (clH h') 42)
  arg : HasQ x h.a h.qs
  has : HasQ x h'.a h'.qs
  bel : Below w.heap.size w x
theorem Wx.below {w : World} {h h' : Hd} {B : Nat} {x y : World} (g : Wx w h h' B x) (hb : Below x.heap.size x y) : Wx w h h' B y := ⟨kept g.one hb, kept g.two hb, g.arg.below hb, g.has.below hb, g.bel.trans (hb.mono g.bel.size)⟩
/-- The same, cell by cell. -/
abbrev WS (w : World) (h h' : Hd) (B : Nat) (x : World) : Prop :=
  x.cell? ⟨w.heap.size, 0, none⟩ = some (.int .i64 h.W) ∧ x.cell? ⟨w.heap.size, 1, none⟩ = some (.int .i64 h.L) ∧ x.cell? ⟨w.heap.size, 2, none⟩ = some (.int .i64 h.N) ∧ x.cell? ⟨w.heap.size, 3, none⟩ = some (.slice h.a h.qs.length h.c) ∧
  x.cell? ⟨B, 0, none⟩ = some (.int .i64 h'.W) ∧ x.cell? ⟨B, 1, none⟩ = some (.int .i64 h'.L) ∧ x.cell? ⟨B, 2, none⟩ = some (.int .i64 h'.N) ∧ x.cell? ⟨B, 3, none⟩ = some (.slice h'.a h'.qs.length h'.c) ∧ Wx w h h' B x
theorem Wx.cells {w : World} {h h' : Hd} {B : Nat} {x : World} (g : Wx w h h' B x) : WS w h h' B x := by
  obtain ⟨b0, b1, b2, b3⟩ := four g.one
  obtain ⟨c0, c1, c2, c3⟩ := four g.two
  exact ⟨b0, b1, b2, b3, c0, c1, c2, c3, g⟩
theorem WS.wx {w : World} {h h' : Hd} {B : Nat} {x : World} (g : WS w h h' B x) : Wx w h h' B x := g.2.2.2.2.2.2.2.2
theorem WS.below {w : World} {h h' : Hd} {B : Nat} {x y : World} (g : WS w h h' B x) (hb : Below x.heap.size x y) : WS w h h' B y := (g.wx.below hb).cells
theorem below_drew (w : World) : Below w.heap.size w w.drew := (Below.refl _ _).drew
/-- The argument in its box. -/
structure Wo (w : World) (h : Hd) (x : World) : Prop where
  one : x.heap[w.heap.size]? = some (.cells (clH h) 48)
  arg : HasQ x h.a h.qs
  bel : Below w.heap.size w x
theorem Wo.below {w : World} {h : Hd} {x y : World} (g : Wo w h x) (hb : Below x.heap.size x y) : Wo w h y := ⟨kept g.one hb, g.arg.below hb, g.bel.trans (hb.mono g.bel.size)⟩
theorem Wo.new {w : World} {h : Hd} (g : HasQ w h.a h.qs) : Wo w h (w.alloc (.cells (clH h) 48)) := by
  have hb := (Below.refl w.heap.size w).alloc (Nat.le_refl _) (.cells (clH h) 48)
  exact ⟨heap_alloc_new w _, g.below hb, hb⟩
theorem OwnQ.base {X Y g n : Nat} {qs : List Q} {w : World} (h : OwnQ X g n qs w) (hy : Y ≤ X) : OwnQ Y g n qs w := ⟨own_base h.row hy, ⟨h.kin.len, fun i hi => (h.kin.own i hi).base hy, h.kin.off, h.kin.dis⟩⟩
theorem FitH.same {h : Hd} {d : List Q} {a : Option Addr} {c : Nat} (hf : FitH h) (h1 : d.length = h.qs.length) (hs : Same h.qs.length h.qs d) : FitH ⟨h.W, h.L, h.N, d, a, c⟩ :=
  ⟨hf.1, hf.2.1, hf.2.2.1, hf.2.2.2.1.same h1 hs, by simp only; rw [h1]; exact hf.2.2.2.2⟩
set_option maxHeartbeats 4000000 in
theorem walkHead (h : Hd) (w : World) (hr : HasQ w h.a h.qs) (hf : FitH h) :
    Calls Try.prog 6 #[agH h] w fun e w' => e = .returned (.bool true) ∧ Below w.heap.size w w' := by
  have H0 := hid (Wo.new hr)
  have HF := hid hf
  clear hr hf
  obtain ⟨W, L, N, qs, a, c⟩ := h
  go_enter Try.func6, Try.ntmps6
  go_wp2_with fail
  refine (f26 ⟨W, L, N, qs, a, c⟩ _ H0.out.arg HF.out).mono ?_
  rintro e w1 ⟨y, rfl, y0, hy, hb1⟩
  have H1 := hid (H0.out.below hb1)
  clear hb1 H0
  by_cases g0 : y < 0
  · go_wp2
    go_ret
    exact ⟨rfl, H1.out.bel⟩
  have hy' := hy (by omega)
  simp only at hy'
  have HZ : Hid (SmlQ qs) := sml_tot (by omega)
  have hn : qs.length ≤ 1048576 := by omega
  clear hy hy'
  obtain ⟨b0, b1, b2, b3⟩ := four H1.out.one
  go_wp2_with fail
  refine (f28 ⟨W, L, N, qs, a, c⟩ _ H1.out.arg hn HZ.out).mono ?_
  rintro e w2 ⟨d2, g2, rfl, l2, hg2, hs2, ho2, hb2⟩
  have H2 := hid (H1.out.below hb2)
  have HF2 := hid (HF.out.same (a := some ⟨g2, 0, none⟩) (c := qs.length) l2 hs2.same)
  have HZ2 := hid (HZ.out.same rfl l2 hs2.same)
  have HE2 := hid (gdH_same (W := W) (L := L) (N := N) (a := a) (c := c) (a' := some ⟨g2, 0, none⟩) (c' := qs.length) l2 hs2.same)
  have HO2 := hid ho2.has
  clear hb2 hs2 ho2 hg2 l2 H1 b0 b1 b2 b3
  go_wp2_with fail
  refine (f27 ⟨W, L, N, d2, some ⟨g2, 0, none⟩, qs.length⟩ _ HO2.out HF2.out HZ2.out).mono ?_
  rw [HE2.out]
  rintro e w3 ⟨rfl, hb3⟩
  have H3 := hid (H2.out.below hb3)
  clear hb3 H2 HF2 HZ2 HE2 HO2
  obtain ⟨b0, b1, b2, b3⟩ := four H3.out.one
  go_wp2_with fail
  refine (f28 ⟨W, L, N, qs, a, c⟩ _ H3.out.arg hn HZ.out).mono ?_
  rintro e w4 ⟨d4, g4, rfl, l4, hg4, hs4, ho4, hb4⟩
  have H5 : Hid (Wx w ⟨W, L, N, qs, a, c⟩ ⟨W, L, N, d4, some ⟨g4, 0, none⟩, qs.length⟩ w4.heap.size (w4.alloc (.cells (clH ⟨W, L, N, d4, some ⟨g4, 0, none⟩, qs.length⟩) 42))) := by
    have hb := (Below.refl w4.heap.size w4).alloc (Nat.le_refl _) (.cells (clH ⟨W, L, N, d4, some ⟨g4, 0, none⟩, qs.length⟩) 42)
    have h3 := H3.out.below hb4
    exact ⟨kept h3.one hb, heap_alloc_new w4 _, h3.arg.below hb, ho4.has.below hb, h3.bel.trans (hb.mono h3.bel.size)⟩
  have HF4 := hid (HF.out.same (a := some ⟨g4, 0, none⟩) (c := qs.length) l4 hs4.same)
  have HZ4 := hid (HZ.out.same rfl l4 hs4.same)
  have HE4 := hid (gdH_same (W := W) (L := L) (N := N) (a := a) (c := c) (a' := some ⟨g4, 0, none⟩) (c' := qs.length) l4 hs4.same)
  have HS4 := hid hs4
  have HL4 := hid l4
  clear hb4 hs4 ho4 hg4 l4 H3 b0 b1 b2 b3
  obtain ⟨c0, c1, c2, c3⟩ := four H5.out.two
  go_wp2_with fail
  generalize w4.heap.size = BB at *
  refine (f29 ⟨W, L, N, d4, some ⟨g4, 0, none⟩, qs.length⟩ _ H5.out.has HF4.out HZ4.out).mono ?_
  rw [HE4.out]
  rintro e w6 ⟨rfl, hb6⟩
  have H6 := hid (H5.out.below hb6)
  clear hb6 H5 HE4 HF4 c0 c1 c2 c3
  cases gdH ⟨W, L, N, qs, a, c⟩
  all_goals
    go_wp2_with fail
    go_region_held3 (fun x => WS w ⟨W, L, N, qs, a, c⟩ ⟨W, L, N, d4, some ⟨g4, 0, none⟩, qs.length⟩ BB x) (first | exact (H6.out.below (below_drew _)).cells | assumption) (first | (go_at_call 28; refine (f28 ⟨W, L, N, qs, a, c⟩ _ (Wx.arg (WS.wx (by assumption))) hn HZ.out).mono ?_; rintro e w7 ⟨d7, g7, rfl, l7, _, hs7, ho7, hb7⟩; have hh7 := ho7.has; clear ho7; have hq7 := WS.below (by assumption) hb7; clear hb7) | (go_at_call 23; refine (f23 ⟨W, L, N, d4, some ⟨g4, 0, none⟩, qs.length⟩ ⟨W, L, N, d7, some ⟨g7, 0, none⟩, qs.length⟩ _ rfl rfl rfl (l7.trans HL4.out.symm) (by rw [HL4.out]; exact hn) (Wx.has (WS.wx (by assumption))) hh7 (by rw [HL4.out]; exact Same.trans HS4.out hs7) HZ4.out).mono ?_; rintro e w8 ⟨rfl, hb8⟩; have hq8 := WS.below (by assumption) hb8; clear hb8))
    have HX8 := hid hq8.wx
    clear hq8
    go_wp2
    go_ret
    exact ⟨rfl, HX8.out.bel⟩
end Go.Proofs.Ytnhikdlhjdjmdaa.Srs
