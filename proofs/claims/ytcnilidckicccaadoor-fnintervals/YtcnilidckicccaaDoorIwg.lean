/- Intervals that are drawn: DrawInInterval. -/
import Derived.Test.YtcnilidckicccaaDoorIwf
import Derived.Test.YtcnilidckicccaaDoorClg
namespace Go.Proofs.YtcnilidckicccaaDoor.Cur
open Go.RowKit
open Go.Proofs.YtcnilidckicccaaDoor.Cal (hid dv dc Six DtR dn)
open Go.Proofs.YtcnilidckicccaaDoor.Rng (Sm e0 HasS Fit flat In64 Iv agI clI Sml)

theorem gr_of {x y : World} (h : Below x.heap.size x y) : x.grownBy y none := ⟨h.os, h.tape, h.output, h.size, fun i hi _ => h.block i hi⟩
/-- The result's box, the cursor, the interval's box; all else as it was. -/
structure Dw (K n c lim : Nat) (a : Option Addr) (w : World) (B : Nat) (x : World) : Prop where
  bx : ∃ z v1 v2 v3 v4 v5 v6, Bx K (w.heap.size + 2) B z v1 v2 v3 v4 v5 v6 x
  cu : Cu (w.heap.size + 1) (w.heap.size + 1) a n c lim x
  bel : Below w.heap.size w x
  res : x.heap[w.heap.size]? = some ZI
  ord : w.heap.size + 2 ≤ B
theorem Dw.size {K n c lim : Nat} {a : Option Addr} {w : World} {B : Nat} {x : World} (h : Dw K n c lim a w B x) : B < x.heap.size := by
  obtain ⟨z, v1, v2, v3, v4, v5, v6, hb⟩ := h.bx; exact Cal.lt_block hb.box
theorem Dw.mono {K n c lim lim' : Nat} {a : Option Addr} {w : World} {B : Nat} {x : World} (h : Dw K n c lim a w B x) (hl : lim ≤ lim') : Dw K n c lim' a w B x := ⟨h.bx, h.cu.mono hl, h.bel, h.res, h.ord⟩
theorem Dw.up {K K' n c lim : Nat} {a : Option Addr} {w : World} {B : Nat} {x : World} (h : Dw K n c lim a w B x) (hk : K ≤ K') : Dw K' n c lim a w B x := by
  obtain ⟨z, v1, v2, v3, v4, v5, v6, hb⟩ := h.bx
  exact ⟨⟨z, v1, v2, v3, v4, v5, v6, hb.up hk⟩, h.cu, h.bel, h.res, h.ord⟩
theorem Dw.call {K n c lim lim' : Nat} {a : Option Addr} {w : World} {B : Nat} {x y : World} (h : Dw K n c lim a w B x) (hg : x.grownBy y (some (w.heap.size + 1))) (hc : Cu (w.heap.size + 1) (w.heap.size + 1) a n c lim' y) : Dw K n c lim' a w B y := by
  obtain ⟨z, v1, v2, v3, v4, v5, v6, hb⟩ := h.bx
  have ho := h.ord
  exact ⟨⟨z, v1, v2, v3, v4, v5, v6, hb.of hg (fun g e => by cases e; omega)⟩, hc, h.bel.grown hg h.bel.size (fun k e => by cases e; omega), (hg.block _ (Cal.lt_block h.res) (fun e => by have := Option.some.inj e; omega)).trans h.res, ho⟩
theorem Dw.quiet {K n c lim : Nat} {a : Option Addr} {w : World} {B : Nat} {x y : World} (h : Dw K n c lim a w B x) (hg : x.grownBy y none) : Dw K n c lim a w B y := by
  obtain ⟨z, v1, v2, v3, v4, v5, v6, hb⟩ := h.bx
  exact ⟨⟨z, v1, v2, v3, v4, v5, v6, hb.of hg (fun g e => by cases e)⟩, cuKept h.cu hg (fun g e => by cases e), h.bel.grown hg h.bel.size (fun k e => by cases e), (hg.block _ (Cal.lt_block h.res) (fun e => by cases e)).trans h.res, h.ord⟩
theorem Dw.free {K n c lim : Nat} {a : Option Addr} {w : World} {B : Nat} {x : World} (h : Dw K n c lim a w B x) (p : Int) (hp : In64 p) (h2 : 2 ≤ K) : ∀ y, y = (x.alloc (.cells #[.int .i64 p] 3)).setCell ⟨B, 6, none⟩ (.slice (some ⟨x.heap.size, 0, none⟩) 1 1) → Dw K n c lim a w B y := by
  rintro y rfl
  obtain ⟨z, v1, v2, v3, v4, v5, v6, hb⟩ := h.bx
  have hlt := Cal.lt_block hb.box
  have ho := h.ord
  obtain ⟨f1, f2⟩ := hb.far (v := .slice (some ⟨x.heap.size, 0, none⟩) 1 1) (Nat.le_refl _) (fun g e => by cases e; exact Nat.le_refl _) v6
  have hq := h.quiet (grown_alloc (World.grownBy.refl _ _) (.cells #[.int .i64 p] 3))
  have hg := set_grown (x.alloc (.cells #[.int .i64 p] 3)) B 6 (.slice (some ⟨x.heap.size, 0, none⟩) 1 1)
  exact ⟨⟨z, v1, v2, v3, v4, v5, _, (hb.new _).s6 ((RowI.one x p hp _ (by omega)).up h2) f1 f2⟩, cuKept hq.cu hg (fun g e => by cases e; omega), hq.bel.grown hg hq.bel.size (fun k e => by cases e; omega), (hg.block _ (Cal.lt_block hq.res) (fun e => by have := Option.some.inj e; omega)).trans hq.res, ho⟩
/-- The box written anew with rows that lie elsewhere. -/
theorem Dw.anew {K K' n c lim lim' : Nat} {a : Option Addr} {w : World} {B : Nat} {x x' : World} {z : Int} {v1 v2 v3 v4 v5 v6 : Value} (h : Dw K n c lim a w B x) (hk : Kb (w.heap.size + 2) B (w.heap.size + 1) x x') (hc : Cu (w.heap.size + 1) (w.heap.size + 1) a n c lim' x')
    (hz : In64 z) (h1 : RowR K' (w.heap.size + 2) x' v1) (h2 : RowR K' (w.heap.size + 2) x' v2) (h3 : RowR K' (w.heap.size + 2) x' v3) (h4 : RowR K' (w.heap.size + 2) x' v4) (h5 : RowR K' (w.heap.size + 2) x' v5) (h6 : RowI K' (w.heap.size + 2) x' v6)
    (hap : [v1, v2, v3, v4, v5, v6].Pairwise Rl) (hnd : ∀ u ∈ [v1, v2, v3, v4, v5, v6], u.ownBlock ≠ some B) : ∀ y, y = sev x' B (.int .i64 z) v1 v2 v3 v4 v5 v6 → Dw K' n c lim' a w B y := by
  rintro y rfl
  obtain ⟨z0, u1, u2, u3, u4, u5, u6, hb⟩ := h.bx
  have ho := h.ord
  have hg := sev_grown x' B (.int .i64 z) v1 v2 v3 v4 v5 v6
  have hb1 : Below w.heap.size w x' := h.bel.trans ⟨hk.os, hk.tape, hk.output, hk.size, fun i hi => hk.block i (.inl (by omega)) (by omega)⟩
  have hr1 : x'.heap[w.heap.size]? = some ZI := (hk.block _ (.inl (by omega)) (by omega)).trans h.res
  have hx : ∀ u ∈ [v1, v2, v3, v4, v5, v6], ∀ g, u.ownBlock = some g → some B ≠ some g := fun u hu g e e2 => hnd u hu (e.trans e2.symm)
  exact ⟨⟨z, v1, v2, v3, v4, v5, v6, sev_box ((hk.block B (.inr rfl) (by omega)).trans hb.box) _ _ _ _ _ _ _, hz, h1.of hg (hx _ (by simp)), h2.of hg (hx _ (by simp)), h3.of hg (hx _ (by simp)), h4.of hg (hx _ (by simp)), h5.of hg (hx _ (by simp)), h6.of hg (hx _ (by simp)), hap, hnd⟩,
    cuKept hc hg (fun g e => by cases e; omega), hb1.grown hg hb1.size (fun k e => by cases e; omega), (hg.block _ (Cal.lt_block hr1) (fun e => by have := Option.some.inj e; omega)).trans hr1, ho⟩
theorem day_in64 {t z : Int} {b : Bool} {y m d l k q : Int} (h : DtR t z (dv y m d l k q) b) : In64 (dn y m d) := by
  rcases h with ⟨_, he, _⟩ | ⟨hh, _, y', m', d', he, hdt⟩
  · simp only [Value.agg.injEq, Array.mk.injEq, List.cons.injEq, Value.int.injEq, true_and, and_true] at he
    obtain ⟨rfl, rfl, rfl, _⟩ := he
    have : dn 0 0 0 = -1 := by simp [dn, Cal.Is]
    rw [this]; exact ⟨by omega, by omega⟩
  · simp only [Value.agg.injEq, Array.mk.injEq, List.cons.injEq, Value.int.injEq, true_and, and_true] at he
    obtain ⟨rfl, rfl, rfl, _⟩ := he
    obtain ⟨c0, c1, c2, c3, c4⟩ := hh
    have hlow := Cal.yr_low hdt.yr
    have hD : (t + z * 60) / 86400 ≤ 12000000 := by omega
    have hy4 : y ≤ 40000 := by omega
    rw [hdt.num hy4]
    exact ⟨by omega, by omega⟩
set_option maxRecDepth 100000 in
set_option maxHeartbeats 16000000 in
theorem f6 (n c : Nat) (a : Option Addr) (w : World) (hn : n ≤ 1048576) (hd : Bya w a n) :
    Calls Tryd.prog 6 #[.slice a n c] w fun e w' => ∃ (i : Iv) (t : Int), e = .returned (.tuple #[agI i, .int .i64 t]) ∧ Rng.Has w' i ∧ Sml i ∧ Below w.heap.size w w' := by
  obtain ⟨V, hV⟩ : ∃ v, v = (w.alloc ZI).alloc (.cells #[.slice a n c, .int .i64 0, .int .u64 0] 47) := ⟨_, rfl⟩
  have hs1 : (w.alloc ZI).heap.size = w.heap.size + 1 := by simp
  have HS : Hid (V.heap.size = w.heap.size + 2) := by rw [hV]; unfold Hid; simp
  have HB : Hid (Below w.heap.size w V) := by
    have h1 := (Below.refl w.heap.size w).alloc (Nat.le_refl _) ZI
    rw [hV]; exact h1.alloc h1.size _
  have HC : Hid (Cu (w.heap.size + 1) (w.heap.size + 1) a n c 0 V) := by
    have h1 := cuNew (c := c) (hd.below ((Below.refl w.heap.size w).alloc (Nat.le_refl _) ZI))
    rw [hs1] at h1
    rw [hV]; exact h1
  have HY : Hid (V.heap[w.heap.size]? = some ZI) := by rw [hV]; exact (Below.heap_alloc _ _ _ (by rw [hs1]; omega)).trans (heap_alloc_new w _)
  have HV := hid hV
  clear hV hd hs1
  go_enter Tryd.func6, Tryd.ntmps6
  go_upto_region 2 with fail
  rw [← HV.out]
  clear HV
  go_wp2_with fail
  refine (f16 _ _ n c 0 a V HC.out (by omega) hn).mono ?_
  rintro e w3 ⟨z, v1, v2, v3, v4, v5, v6, rfl, hz, h1, h2, h3, h4, h5, h6, hap, hc, hg⟩
  obtain ⟨b1, m1, k1, rfl⟩ := h1.form
  obtain ⟨b2, m2, k2, rfl⟩ := h2.form
  obtain ⟨b3, m3, k3, rfl⟩ := h3.form
  obtain ⟨b4, m4, k4, rfl⟩ := h4.form
  obtain ⟨b5, m5, k5, rfl⟩ := h5.form
  obtain ⟨b6, m6, k6, rfl⟩ := h6.form
  have hs := HS.out
  rw [hs] at h1 h2 h3 h4 h5 h6
  obtain ⟨W3, hW3⟩ : ∃ W, W = w3.alloc (.cells #[.int .i64 z, .slice b1 m1 k1, .slice b2 m2 k2, .slice b3 m3 k3, .slice b4 m4 k4, .slice b5 m5 k5, .slice b6 m6 k6] 26) := ⟨_, rfl⟩
  have HD : Hid (Dw 2 n c 5000 a w w3.heap.size W3) := by
    have hgn : w3.grownBy W3 none := by rw [hW3]; exact grown_alloc (World.grownBy.refl _ _) _
    have hno : ∀ (v : Value) g, v.ownBlock = some g → (none : Option Nat) ≠ some g := fun v g _ e => by cases e
    have hsz := hg.size
    have hb3 : Below w.heap.size w w3 := HB.out.grown hg (by omega) (fun k e => by cases e; omega)
    have hr3 : w3.heap[w.heap.size]? = some ZI := (hg.block _ (Cal.lt_block HY.out) (fun e => by have := Option.some.inj e; omega)).trans HY.out
    refine ⟨⟨_, _, _, _, _, _, _, ⟨by rw [hW3]; exact heap_alloc_new w3 _, hz, h1.of hgn (hno _), h2.of hgn (hno _), h3.of hgn (hno _), h4.of hgn (hno _), h5.of hgn (hno _), h6.of hgn (hno _), hap, ?_⟩⟩, cuKept (hc.mono (by omega)) hgn (fun g e => by cases e), hb3.grown hgn hb3.size (fun k e => by cases e), (hgn.block _ (Cal.lt_block hr3) (fun e => by cases e)).trans hr3, by omega⟩
    intro u hu e
    simp only [List.mem_cons, List.not_mem_nil, or_false] at hu
    rcases hu with rfl | rfl | rfl | rfl | rfl | rfl
    · have := (h1.lt _ e).2; omega
    · have := (h2.lt _ e).2; omega
    · have := (h3.lt _ e).2; omega
    · have := (h4.lt _ e).2; omega
    · have := (h5.lt _ e).2; omega
    · have := (h6.lt _ e).2; omega
  have HW3 := hid hW3
  clear hW3 h1 h2 h3 h4 h5 h6 hap hz hc hg HB HY HC HS hs
  go_upto_region 3 with fail
  rw [← HW3.out]
  clear HW3
  generalize w3.heap.size = B at *
  go_wp2_with fail
  refine (f17 _ _ n c _ a _ HD.out.cu (by omega) hn).mono ?_
  rintro e w4 ⟨t, rfl, hc, hg⟩
  have HD4 := hid (HD.out.call hg hc)
  clear hc hg HD
  go_wp2_with fail
  refine (f18 _ _ n c _ a 8 _ HD4.out.cu (by omega) hn (by omega) (by omega)).mono ?_
  rintro e w5 ⟨q, rfl, hc, hg⟩
  have HD5 := hid (HD4.out.call hg hc)
  clear hc hg HD4
  go_upto_if 16 with fail
  go_cut [] from 17 to 19 (fun wx => Hid (Dw 20 n c 20000 a w B wx))
  case first =>
    cases q
    · go_wp2
      go_meet
      exact (HD5.out.up (by omega)).mono (by omega)
    · obtain ⟨z', x1, x2, x3, x4, x5, x6, hba⟩ := HD5.out.bx
      obtain ⟨b1, m1, k1, rfl⟩ := hba.r1.form
      obtain ⟨b2, m2, k2, rfl⟩ := hba.r2.form
      obtain ⟨b3, m3, k3, rfl⟩ := hba.r3.form
      obtain ⟨b4, m4, k4, rfl⟩ := hba.r4.form
      obtain ⟨b5, m5, k5, rfl⟩ := hba.r5.form
      obtain ⟨b6, m6, k6, rfl⟩ := hba.r6.form
      obtain ⟨d0, d1, d2, d3, d4, d5, d6⟩ := hba.cells
      have HBA := hid hba
      clear hba
      go_wp2_with fail
      clear d0 d1 d2 d3 d4 d5 d6
      have hsz := HD5.out.size
      have hor := HD5.out.ord
      refine (f19 (w.heap.size + 1) (w.heap.size + 1) n c _ (w.heap.size + 2) B a z' _ _ _ _ _ _ w5 HD5.out.cu (by omega) hn (by omega) (by omega) HBA.out.z HBA.out.r1 HBA.out.r2 HBA.out.r3 HBA.out.r4 HBA.out.r5 HBA.out.r6 HBA.out.ap hsz HBA.out.nb).mono ?_
      rintro e w6 ⟨zz, u1, u2, u3, u4, u5, u6, rfl, hz, g1, g2, g3, g4, g5, g6, gap, gnd, hc, hkb⟩
      obtain ⟨e1, f1, j1, rfl⟩ := g1.form
      obtain ⟨e2, f2, j2, rfl⟩ := g2.form
      obtain ⟨e3, f3, j3, rfl⟩ := g3.form
      obtain ⟨e4, f4, j4, rfl⟩ := g4.form
      obtain ⟨e5, f5, j5, rfl⟩ := g5.form
      obtain ⟨e6, f6, j6, rfl⟩ := g6.form
      have hbx := (hkb.block B (.inr rfl) (by omega)).trans HBA.out.box
      have HNEW := hid ((HD5.out.anew hkb hc hz g1 g2 g3 g4 g5 g6 gap gnd))
      clear hkb hc hz g1 g2 g3 g4 g5 g6 gap gnd HD5 HBA hsz hor
      have c0 := Cal.cell_at hbx 0
      have r0 : w6.frozen? ⟨B, 0, none⟩ = false := by simp [World.frozen?, hbx]
      have c1 := Cal.cell_at hbx 1
      have r1 : w6.frozen? ⟨B, 1, none⟩ = false := by simp [World.frozen?, hbx]
      have c2 := Cal.cell_at hbx 2
      have r2 : w6.frozen? ⟨B, 2, none⟩ = false := by simp [World.frozen?, hbx]
      have c3 := Cal.cell_at hbx 3
      have r3 : w6.frozen? ⟨B, 3, none⟩ = false := by simp [World.frozen?, hbx]
      have c4 := Cal.cell_at hbx 4
      have r4 : w6.frozen? ⟨B, 4, none⟩ = false := by simp [World.frozen?, hbx]
      have c5 := Cal.cell_at hbx 5
      have r5 : w6.frozen? ⟨B, 5, none⟩ = false := by simp [World.frozen?, hbx]
      have c6 := Cal.cell_at hbx 6
      have r6 : w6.frozen? ⟨B, 6, none⟩ = false := by simp [World.frozen?, hbx]
      clear hbx
      go_wp2
      go_meet
      exact (HNEW.out _ rfl).mono (by omega)
  case rest =>
  have HD6 := hcut
  go_wp2_with fail
  refine (f18 _ _ n c _ a 6 _ HD6.out.cu (by omega) hn (by omega) (by omega)).mono ?_
  rintro e w7 ⟨q2, rfl, hc, hg⟩
  have HD7 := hid (HD6.out.call hg hc)
  clear hc hg HD6
  go_upto_if 21 with fail
  go_cut [] from 7 to 34 (fun wx => Hid (Dw 20 n c 30000 a w B wx))
  case first =>
    cases q2
    · go_wp2
      go_meet
      exact HD7.out.mono (by omega)
    · obtain ⟨z', x1, x2, x3, x4, x5, x6, hba⟩ := HD7.out.bx
      have d0 := hba.cells.1
      clear hba
      go_wp2_with fail
      refine (Cal.f10 t z' _).mono ?_
      rintro e w8 ⟨v, b, rfl, HV, HB⟩
      have HD8 := hid (HD7.out.quiet (gr_of HB.out))
      obtain ⟨y, m, d, l, k, qq, rfl⟩ := HV.out.six
      have HN := hid (Six.new w8 y m d l k qq)
      have HD9 := hid (HD8.out.quiet (grown_alloc (World.grownBy.refl _ _) (dc y m d l k qq)))
      have HI := hid (day_in64 HV.out)
      obtain ⟨W, hW⟩ : ∃ W, W = w8.alloc (dc y m d l k qq) := ⟨_, rfl⟩
      rw [← hW] at HN HD9
      have HW := hid hW
      clear hW HB HV HD8 HD7 d0
      go_upto_region 8 with fail
      rw [← HW.out]
      clear HW
      generalize w8.heap.size = E at *
      obtain ⟨s0, s1, s2, s3, s4, s5⟩ := HN.out.cells
      go_wp2_with fail
      refine (Cal.f11 y m d _).mono ?_
      rintro e wa ⟨rfl, hb⟩
      have HDa := hid (HD9.out.quiet (gr_of hb.out))
      clear hb HD9 HN s0 s1 s2 s3 s4 s5
      obtain ⟨z2, y1, y2, y3, y4, y5, y6, hbb⟩ := HDa.out.bx
      have d6 := (hbb.new (.cells #[.int .i64 (dn y m d)] 3)).cells.2.2.2.2.2.2
      have e6 := (hbb.new (.cells #[.int .i64 (dn y m d)] 3)).frz 6
      have HNEW := hid (HDa.out.free (dn y m d) HI.out (by omega))
      clear hbb HDa HI
      go_wp2
      go_meet
      exact (HNEW.out _ rfl).mono (by omega)
  case rest =>
  have HD8 := hcut
  obtain ⟨z', x1, x2, x3, x4, x5, x6, hba⟩ := HD8.out.bx
  obtain ⟨b1, m1, k1, l1, rfl, n1, rfl, o1, i1⟩ := hba.r1
  obtain ⟨b2, m2, k2, l2, rfl, n2, rfl, o2, i2⟩ := hba.r2
  obtain ⟨b3, m3, k3, l3, rfl, n3, rfl, o3, i3⟩ := hba.r3
  obtain ⟨b4, m4, k4, l4, rfl, n4, rfl, o4, i4⟩ := hba.r4
  obtain ⟨b5, m5, k5, l5, rfl, n5, rfl, o5, i5⟩ := hba.r5
  obtain ⟨b6, m6, k6, l6, rfl, n6, rfl, o6, i6⟩ := hba.r6
  obtain ⟨d0, d1, d2, d3, d4, d5, d6⟩ := hba.cells
  have hres := HD8.out.res
  have HBA := hid hba
  have HO1 := hid o1
  have HO2 := hid o2
  have HO3 := hid o3
  have HO4 := hid o4
  have HO5 := hid o5
  have HO6 := hid o6
  clear hba o1 o2 o3 o4 o5 o6 i1 i2 i3 i4 i5 i6
  have f0 := (Cal.cell_at hres 0)
  have g0 : wc.frozen? ⟨w.heap.size, 0, none⟩ = false := by simp [World.frozen?, hres]
  have f1 := (Cal.cell_at hres 1)
  have g1 : wc.frozen? ⟨w.heap.size, 1, none⟩ = false := by simp [World.frozen?, hres]
  have f2 := (Cal.cell_at hres 2)
  have g2 : wc.frozen? ⟨w.heap.size, 2, none⟩ = false := by simp [World.frozen?, hres]
  have f3 := (Cal.cell_at hres 3)
  have g3 : wc.frozen? ⟨w.heap.size, 3, none⟩ = false := by simp [World.frozen?, hres]
  have f4 := (Cal.cell_at hres 4)
  have g4 : wc.frozen? ⟨w.heap.size, 4, none⟩ = false := by simp [World.frozen?, hres]
  have f5 := (Cal.cell_at hres 5)
  have g5 : wc.frozen? ⟨w.heap.size, 5, none⟩ = false := by simp [World.frozen?, hres]
  have f6 := (Cal.cell_at hres 6)
  have g6 : wc.frozen? ⟨w.heap.size, 6, none⟩ = false := by simp [World.frozen?, hres]
  clear hres
  go_wp2
  obtain ⟨V, hV⟩ : ∃ V, V = sev wc w.heap.size (.int .i64 z') (.slice b1 l1.length k1) (.slice b2 l2.length k2) (.slice b3 l3.length k3) (.slice b4 l4.length k4) (.slice b5 l5.length k5) (.slice b6 l6.length k6) := ⟨_, rfl⟩
  simp only [sev] at hV
  rw [← hV]
  have hbox : V.heap[w.heap.size]? = some (.cells #[.int .i64 z', .slice b1 l1.length k1, .slice b2 l2.length k2, .slice b3 l3.length k3, .slice b4 l4.length k4, .slice b5 l5.length k5, .slice b6 l6.length k6] 26) := by rw [hV]; exact sev_box HD8.out.res _ _ _ _ _ _ _
  have hg : wc.grownBy V (some w.heap.size) := by rw [hV]; exact sev_grown wc w.heap.size _ _ _ _ _ _ _
  clear hV f0 f1 f2 f3 f4 f5 f6 g0 g1 g2 g3 g4 g5 g6 d0 d1 d2 d3 d4 d5 d6
  have y0 := Cal.cell_at hbox 0
  have y1 := Cal.cell_at hbox 1
  have y2 := Cal.cell_at hbox 2
  have y3 := Cal.cell_at hbox 3
  have y4 := Cal.cell_at hbox 4
  have y5 := Cal.cell_at hbox 5
  have y6 := Cal.cell_at hbox 6
  refine bodyPost_ret (v := .tuple #[agI ⟨z', l1, l2, l3, l4, l5, l6, b1, k1, b2, k2, b3, k3, b4, k4, b5, k5, b6, k6⟩, .int .i64 t]) (by rw [results_cell_tmp rfl]; simp [go_sem, y0, y1, y2, y3, y4, y5, y6]) rfl ?_
  have ho := HD8.out.ord
  have hb : Below w.heap.size w V := HD8.out.bel.grown hg HD8.out.bel.size (fun k e => by cases e; omega)
  have hkR : ∀ {e s m : Nat} {v : Value} {xs : List Value}, wc.ownsRow (w.heap.size + 2) e s v m xs → V.ownsRow (w.heap.size + 2) e s v m xs := fun h => own_kept h hg (by omega)
  refine ⟨_, t, rfl, ⟨HasS.own (hkR HO1.out), HasS.own (hkR HO2.out), HasS.own (hkR HO3.out), HasS.own (hkR HO4.out), HasS.own (hkR HO5.out), ?_⟩, ⟨by simp only; omega, by simp only; omega, by simp only; omega, by simp only; omega, by simp only; omega, by simp only; omega⟩, hb⟩
  rcases (hkR HO6.out).2 with ⟨h1, h2⟩ | ⟨g, cap, cur, h1, _⟩
  · exact .inl (List.eq_nil_of_length_eq_zero h2)
  · simp only [Value.slice.injEq] at h1
    obtain ⟨rfl, -, rfl⟩ := h1
    exact Ino.Has.own (hkR HO6.out)
end Go.Proofs.YtcnilidckicccaaDoor.Cur
