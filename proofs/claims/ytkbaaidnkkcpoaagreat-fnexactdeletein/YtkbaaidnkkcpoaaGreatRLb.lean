/- A block with a span deleted: both DeleteIns. -/
import Derived.Test.YtkbaaidnkkcpoaaGreatRKy
import Derived.Deep.CutRange
namespace Go.Proofs.YtkbaaidnkkcpoaaGreat.Blk
open Go.RowKit
open Go.Proofs.YtkbaaidnkkcpoaaGreat.Lab (Lb HasL cmpList)
open Go.Proofs.YtkbaaidnkkcpoaaGreat.Smp (In64 own_form)
open Go.Proofs.YtkbaaidnkkcpoaaGreat.Srs (hid lt_at kept own_base own_below set_at set_else Q q0 HasQ SmlQ two)
open Go.Proofs.YtkbaaidnkkcpoaaGreat.Stn (T t0 HasT SmlT agT three three_frz infoT pl)
open Go.Proofs.YtkbaaidnkkcpoaaGreat.Pat (Mt m0 HasM goodM allM FitM)

/-- There is an answer. -/
def Dc (ms : List Mt) (x y : Int) (h : Bk) : Prop := gdB h = true ∧ goodM ms = true ∧ OkD ms x y h
noncomputable instance (ms : List Mt) (x y : Int) (h : Bk) : Decidable (Dc ms x y h) := Classical.propDecidable _
/-- The block in its box, the answer's cell. -/
structure De (w : World) (h : Bk) (x : World) : Prop where
  box : x.heap[w.heap.size]? = some (.cells (clB h) 44)
  res : x.heap[w.heap.size + 1]? = some Z5
  has : HasB x h
  bel : Below w.heap.size w x
theorem De.below {w : World} {h : Bk} {x y : World} (g : De w h x) (hb : Below x.heap.size x y) : De w h y := ⟨kept g.box hb, kept g.res hb, g.has.below hb, g.bel.trans (hb.mono g.bel.size)⟩
theorem De.new {w : World} {h : Bk} (hr : HasB w h) : De w h ((w.alloc (.cells (clB h) 44)).alloc Z5) := by
  have h1 := (Below.refl w.heap.size w).alloc (Nat.le_refl _) (.cells (clB h) 44)
  have h2 := heap_alloc_new (w.alloc (.cells (clB h) 44)) Z5
  simp only [World.size_alloc] at h2
  have h3 : Below w.heap.size w ((w.alloc (.cells (clB h) 44)).alloc Z5) := h1.alloc (by simp) _
  exact ⟨(Below.heap_alloc _ _ w.heap.size (by simp)).trans (heap_alloc_new w _), h2, hr.below h3, h3⟩
theorem ownc_put5 {X Y B : Nat} {h : Bk} {w : World} {v0 v1 v2 v3 v4 : Value} (o : OwnC X Y h w) (hB : B < X) : OwnC X Y h (put5 w B v0 v1 v2 v3 v4) := by
  have one : ∀ (z : World) (p : Addr) (v : Value), p.block < X → OwnC X Y h z → OwnC X Y h (z.setCell p v) := fun z p v hp oz =>
    ownc_grown oz (r := some p.block) ⟨rfl, rfl, rfl, by simp, fun j hj hne => Below.heap_setCell z p v j (fun e => hne (by rw [e]))⟩ (fun g e => by cases e; exact .inl hp)
  exact one _ _ _ hB (one _ _ _ hB (one _ _ _ hB (one _ _ _ hB (one _ _ _ hB o))))
theorem hasB_put5 {B : Nat} {h : Bk} {w : World} {v0 v1 v2 v3 v4 : Value} {X Y : Nat} (o : InB X Y h w) (hB : B < X) : HasB (put5 w B v0 v1 v2 v3 v4) h :=
  o.lies _ ⟨by rw [put5_size]; exact Nat.le_refl _, fun k h1 h2 => put5_else (by omega)⟩
set_option maxRecDepth 10000 in
set_option maxHeartbeats 8000000 in
theorem f17 (h : Bk) (am : Option Addr) (cm : Nat) (ms : List Mt) (x y : Int) (w : World) (hr : HasB w h) (hf : FitB h) (hz : SmlB h) (hcap : ∀ i, i < h.qs.length → (h.qs.getD i q0).d = (h.qs.getD i q0).s.length) (hm : HasM w am ms) (hfm : FitM ms) (hmx : ms.length ≤ maxLen) :
    Calls Tryz.prog 17 #[agB h, .slice am ms.length cm, .int .i64 x, .int .i64 y] w fun e w' => ∃ h', e = .returned (agB h') ∧ Hid ((Dc ms x y h ∧ SameB (dlb ms x y h) h' ∧ HasB w' h') ∨ (¬ Dc ms x y h ∧ h' = k0)) ∧ Below w.heap.size w w' := by
  obtain ⟨F, TT, LL, qs, a, c, ts, b, d⟩ := h
  obtain ⟨W, hW⟩ : ∃ W, W = (w.alloc (.cells #[.int .i64 F, .int .i64 TT, .int .i64 LL, .slice a qs.length c, .slice b ts.length d] 44)).alloc Z5 := ⟨_, rfl⟩
  have H0 : Hid (De w ⟨F, TT, LL, qs, a, c, ts, b, d⟩ W) := by subst hW; exact De.new hr
  have HM := hid hm
  have HFM := hid hfm
  have HMX := hid hmx
  have HF := hid hf
  have HZ := hid hz
  have HCap := hid hcap
  clear hr hm hfm hmx hf hz hcap
  simp only [agB, clB]
  go_enter Tryz.func17, Tryz.ntmps17
  have hb0' := five H0.out.box
  dsimp only at hb0'
  obtain ⟨b0, b1, b2, b3, b4⟩ := hb0'
  go_upto_region 1 with fail
  rw [← hW]
  clear hW
  go_wp2_with fail
  refine (f40 ⟨F, TT, LL, qs, a, c, ts, b, d⟩ _ H0.out.has HF.out HZ.out).mono ?_
  rintro e w1 ⟨rfl, hb1⟩
  have H1 := hid (H0.out.below hb1)
  clear hb1 H0 b0 b1 b2 b3 b4
  cases hg : gdB ⟨F, TT, LL, qs, a, c, ts, b, d⟩
  · have HN : Hid (¬ Dc ms x y ⟨F, TT, LL, qs, a, c, ts, b, d⟩) := fun g => by have h1 := g.1; rw [hg] at h1; cases h1
    obtain ⟨e0, e1, e2, e3, e4⟩ := five H1.out.res
    have u0 := five_frz (o := 0) H1.out.res
    have u1 := five_frz (o := 1) H1.out.res
    have u2 := five_frz (o := 2) H1.out.res
    have u3 := five_frz (o := 3) H1.out.res
    have u4 := five_frz (o := 4) H1.out.res
    have HP : Hid ((put5 w1 (w.heap.size + 1) (.int .i64 0) (.int .i64 0) (.int .i64 0) (.slice none 0 0) (.slice none 0 0)).heap[w.heap.size + 1]? = some Z5 ∧ Below w.heap.size w (put5 w1 (w.heap.size + 1) (.int .i64 0) (.int .i64 0) (.int .i64 0) (.slice none 0 0) (.slice none 0 0))) := ⟨put5_at H1.out.res, put5_below H1.out.bel (Nat.le_succ _)⟩
    rw [put5] at HP
    go_wp2
    generalize hwf : World.setCell _ _ _ = wf
    rw [hwf] at HP
    clear hwf
    refine bodyPost_ret (v := .agg #[.int .i64 0, .int .i64 0, .int .i64 0, .slice none 0 0, .slice none 0 0]) ?_ rfl ⟨k0, rfl, .inr ⟨HN.out, rfl⟩, HP.out.2⟩
    obtain ⟨y0, y1, y2, y3, y4⟩ := five HP.out.1
    simp [results, Tryz.results17, go_sem, y0, y1, y2, y3, y4]
  go_wp2_with fail
  refine (Pat.f25 am ms.length cm ms _ rfl HMX.out (HM.out.below H1.out.bel) HFM.out).mono ?_
  rintro e w2 ⟨rfl, hb2⟩
  have H2 := hid (H1.out.below hb2)
  clear hb2 H1
  cases hgm : goodM ms
  · have HN : Hid (¬ Dc ms x y ⟨F, TT, LL, qs, a, c, ts, b, d⟩) := fun g => by have h1 := g.2.1; rw [hgm] at h1; cases h1
    obtain ⟨e0, e1, e2, e3, e4⟩ := five H2.out.res
    have u0 := five_frz (o := 0) H2.out.res
    have u1 := five_frz (o := 1) H2.out.res
    have u2 := five_frz (o := 2) H2.out.res
    have u3 := five_frz (o := 3) H2.out.res
    have u4 := five_frz (o := 4) H2.out.res
    have HP : Hid ((put5 w2 (w.heap.size + 1) (.int .i64 0) (.int .i64 0) (.int .i64 0) (.slice none 0 0) (.slice none 0 0)).heap[w.heap.size + 1]? = some Z5 ∧ Below w.heap.size w (put5 w2 (w.heap.size + 1) (.int .i64 0) (.int .i64 0) (.int .i64 0) (.slice none 0 0) (.slice none 0 0))) := ⟨put5_at H2.out.res, put5_below H2.out.bel (Nat.le_succ _)⟩
    rw [put5] at HP
    go_wp2
    generalize hwf : World.setCell _ _ _ = wf
    rw [hwf] at HP
    clear hwf
    refine bodyPost_ret (v := .agg #[.int .i64 0, .int .i64 0, .int .i64 0, .slice none 0 0, .slice none 0 0]) ?_ rfl ⟨k0, rfl, .inr ⟨HN.out, rfl⟩, HP.out.2⟩
    obtain ⟨y0, y1, y2, y3, y4⟩ := five HP.out.1
    simp [results, Tryz.results17, go_sem, y0, y1, y2, y3, y4]
  have HGB := hid (gdB_iff.1 hg)
  have HCb := hid (good_cpb HGB.out HZ.out HCap.out)
  have HDc : Hid (OkD ms x y ⟨F, TT, LL, qs, a, c, ts, b, d⟩ → Dc ms x y ⟨F, TT, LL, qs, a, c, ts, b, d⟩) := fun h => ⟨hg, hgm, h⟩
  have HDn : Hid (¬ OkD ms x y ⟨F, TT, LL, qs, a, c, ts, b, d⟩ → ¬ Dc ms x y ⟨F, TT, LL, qs, a, c, ts, b, d⟩) := fun h g => h g.2.2
  have hb0' := five H2.out.box
  dsimp only at hb0'
  obtain ⟨b0, b1, b2, b3, b4⟩ := hb0'
  have HCall := hid (f41 ⟨F, TT, LL, qs, a, c, ts, b, d⟩ am cm ms x y _ H2.out.has HCb.out HF.out HGB.out (HM.out.below H2.out.bel) hgm)
  simp only [agB, clB] at HCall
  clear hg hgm
  go_wp2_with fail
  refine HCall.out.mono ?_
  rintro e w3 ⟨h3, rfl, hs3, hi3, hb3⟩
  have H3 := hid (H2.out.below hb3)
  have HS3 : Hid (SameB (dlb ms x y ⟨F, TT, LL, qs, a, c, ts, b, d⟩) h3) := hs3.out
  have HI3 := hid hi3.out
  have hl3 : h3.ts.length = (delB ms ⟨F, TT, LL, qs, a, c, ts, b, d⟩ x y).length := hs3.out.lt
  have hX : w.heap.size + 1 < w2.heap.size := lt_at H2.out.res
  clear hs3 hi3 hb3 HCall b0 b1 b2 b3 b4
  have hbx := (Below.refl w3.heap.size w3).alloc (Nat.le_refl _) (.cells (clB h3) 44)
  have HBx := hid (heap_alloc_new w3 (.cells (clB h3) 44))
  have H4 := hid (H3.out.below hbx)
  have HI4 := hid (HI3.out.below hbx)
  simp only [clB] at HBx H4 HI4
  clear hbx H3 HI3
  obtain ⟨d0, d1, d2, d3, d4⟩ := five HBx.out
  obtain ⟨w4, hw4⟩ : ∃ w4, w4 = w3.alloc (.cells #[.int .i64 h3.F, .int .i64 h3.T, .int .i64 h3.L, .slice h3.a h3.qs.length h3.c, .slice h3.b h3.ts.length h3.d] 44) := ⟨_, rfl⟩
  by_cases h5 : OkD ms x y ⟨F, TT, LL, qs, a, c, ts, b, d⟩
  rotate_left
  · have HN := hid (HDn.out h5)
    have h6 : (100 : Int) < (h3.ts.length : Int) := by unfold OkD at h5; omega
    clear h5 hl3
    go_upto_if 27 with fail
    rw [← hw4] at H4 HBx HI4 d0 d1 d2 d3 d4 ⊢
    clear hw4
    obtain ⟨e0, e1, e2, e3, e4⟩ := five H4.out.res
    have u0 := five_frz (o := 0) H4.out.res
    have u1 := five_frz (o := 1) H4.out.res
    have u2 := five_frz (o := 2) H4.out.res
    have u3 := five_frz (o := 3) H4.out.res
    have u4 := five_frz (o := 4) H4.out.res
    have HP : Hid ((put5 w4 (w.heap.size + 1) (.int .i64 0) (.int .i64 0) (.int .i64 0) (.slice none 0 0) (.slice none 0 0)).heap[w.heap.size + 1]? = some Z5 ∧ Below w.heap.size w (put5 w4 (w.heap.size + 1) (.int .i64 0) (.int .i64 0) (.int .i64 0) (.slice none 0 0) (.slice none 0 0))) := ⟨put5_at H4.out.res, put5_below H4.out.bel (Nat.le_succ _)⟩
    rw [put5] at HP
    go_wp2
    generalize hwf : World.setCell _ _ _ = wf
    rw [hwf] at HP
    clear hwf
    refine bodyPost_ret (v := .agg #[.int .i64 0, .int .i64 0, .int .i64 0, .slice none 0 0, .slice none 0 0]) ?_ rfl ⟨k0, rfl, .inr ⟨HN.out, rfl⟩, HP.out.2⟩
    obtain ⟨y0, y1, y2, y3, y4⟩ := five HP.out.1
    simp [results, Tryz.results17, go_sem, y0, y1, y2, y3, y4]
  have h6 : ¬ (100 : Int) < (h3.ts.length : Int) := by unfold OkD at h5; omega
  have HY := hid (HDc.out h5)
  clear h5 hl3
  go_upto_if 27 with fail
  rw [← hw4] at H4 HBx HI4 d0 d1 d2 d3 d4 ⊢
  clear hw4
  obtain ⟨e0, e1, e2, e3, e4⟩ := five H4.out.res
  have u0 := five_frz (o := 0) H4.out.res
  have u1 := five_frz (o := 1) H4.out.res
  have u2 := five_frz (o := 2) H4.out.res
  have u3 := five_frz (o := 3) H4.out.res
  have u4 := five_frz (o := 4) H4.out.res
  have HP : Hid ((put5 w4 (w.heap.size + 1) (.int .i64 h3.F) (.int .i64 h3.T) (.int .i64 h3.L) (.slice h3.a h3.qs.length h3.c) (.slice h3.b h3.ts.length h3.d)).heap[w.heap.size + 1]? = some (.cells #[.int .i64 h3.F, .int .i64 h3.T, .int .i64 h3.L, .slice h3.a h3.qs.length h3.c, .slice h3.b h3.ts.length h3.d] 44) ∧ Below w.heap.size w (put5 w4 (w.heap.size + 1) (.int .i64 h3.F) (.int .i64 h3.T) (.int .i64 h3.L) (.slice h3.a h3.qs.length h3.c) (.slice h3.b h3.ts.length h3.d)) ∧ HasB (put5 w4 (w.heap.size + 1) (.int .i64 h3.F) (.int .i64 h3.T) (.int .i64 h3.L) (.slice h3.a h3.qs.length h3.c) (.slice h3.b h3.ts.length h3.d)) h3) := ⟨put5_at H4.out.res, put5_below H4.out.bel (Nat.le_succ _), hasB_put5 HI4.out hX⟩
  rw [put5] at HP
  go_wp2
  generalize hwf : World.setCell _ _ _ = wf
  rw [hwf] at HP
  clear hwf
  refine bodyPost_ret (v := .agg #[.int .i64 h3.F, .int .i64 h3.T, .int .i64 h3.L, .slice h3.a h3.qs.length h3.c, .slice h3.b h3.ts.length h3.d]) ?_ rfl ⟨h3, rfl, .inl ⟨HY.out, HS3.out, HP.out.2.2⟩, HP.out.2.1⟩
  obtain ⟨y0, y1, y2, y3, y4⟩ := five HP.out.1
  simp [results, Tryz.results17, go_sem, y0, y1, y2, y3, y4]
set_option maxRecDepth 10000 in
set_option maxHeartbeats 8000000 in
theorem f19 (h : Bk) (am : Option Addr) (cm : Nat) (ms : List Mt) (x y : Int) (w : World) (hr : HasB w h) (hf : FitB h) (hz : SmlB h) (hcap : ∀ i, i < h.qs.length → (h.qs.getD i q0).d = (h.qs.getD i q0).s.length) (hd : h.ts.length ≤ h.d) (hm : HasM w am ms) (hfm : FitM ms) (hmx : ms.length ≤ maxLen) :
    Calls Tryz.prog 19 #[agB h, .slice am ms.length cm, .int .i64 x, .int .i64 y] w fun e w' => ∃ h', e = .returned (agB h') ∧ Hid ((Dc ms x y h ∧ SameB (dlb ms x y h) h' ∧ ∃ X, w.heap.size ≤ X ∧ OwnC X w'.heap.size h' w') ∨ (¬ Dc ms x y h ∧ h' = k0)) ∧ Below w.heap.size w w' := by
  obtain ⟨F, TT, LL, qs, a, c, ts, b, d⟩ := h
  obtain ⟨W, hW⟩ : ∃ W, W = (w.alloc (.cells #[.int .i64 F, .int .i64 TT, .int .i64 LL, .slice a qs.length c, .slice b ts.length d] 44)).alloc Z5 := ⟨_, rfl⟩
  have H0 : Hid (De w ⟨F, TT, LL, qs, a, c, ts, b, d⟩ W) := by subst hW; exact De.new hr
  have HM := hid hm
  have HFM := hid hfm
  have HMX := hid hmx
  have HF := hid hf
  have HZ := hid hz
  have HCap := hid hcap
  clear hr hm hfm hmx hf hz hcap
  simp only [agB, clB]
  go_enter Tryz.func19, Tryz.ntmps19
  have hb0' := five H0.out.box
  dsimp only at hb0'
  obtain ⟨b0, b1, b2, b3, b4⟩ := hb0'
  go_upto_region 1 with fail
  rw [← hW]
  clear hW
  go_wp2_with fail
  refine (f44 ⟨F, TT, LL, qs, a, c, ts, b, d⟩ _ H0.out.has HF.out HZ.out).mono ?_
  rintro e w1 ⟨rfl, hb1⟩
  have H1 := hid (H0.out.below hb1)
  clear hb1 H0 b0 b1 b2 b3 b4
  cases hg : gdB ⟨F, TT, LL, qs, a, c, ts, b, d⟩
  · have HN : Hid (¬ Dc ms x y ⟨F, TT, LL, qs, a, c, ts, b, d⟩) := fun g => by have h1 := g.1; rw [hg] at h1; cases h1
    obtain ⟨e0, e1, e2, e3, e4⟩ := five H1.out.res
    have u0 := five_frz (o := 0) H1.out.res
    have u1 := five_frz (o := 1) H1.out.res
    have u2 := five_frz (o := 2) H1.out.res
    have u3 := five_frz (o := 3) H1.out.res
    have u4 := five_frz (o := 4) H1.out.res
    have HP : Hid ((put5 w1 (w.heap.size + 1) (.int .i64 0) (.int .i64 0) (.int .i64 0) (.slice none 0 0) (.slice none 0 0)).heap[w.heap.size + 1]? = some Z5 ∧ Below w.heap.size w (put5 w1 (w.heap.size + 1) (.int .i64 0) (.int .i64 0) (.int .i64 0) (.slice none 0 0) (.slice none 0 0))) := ⟨put5_at H1.out.res, put5_below H1.out.bel (Nat.le_succ _)⟩
    rw [put5] at HP
    go_wp2
    generalize hwf : World.setCell _ _ _ = wf
    rw [hwf] at HP
    clear hwf
    refine bodyPost_ret (v := .agg #[.int .i64 0, .int .i64 0, .int .i64 0, .slice none 0 0, .slice none 0 0]) ?_ rfl ⟨k0, rfl, .inr ⟨HN.out, rfl⟩, HP.out.2⟩
    obtain ⟨y0, y1, y2, y3, y4⟩ := five HP.out.1
    simp [results, Tryz.results19, go_sem, y0, y1, y2, y3, y4]
  go_wp2_with fail
  refine (Pat.f29 am ms.length cm ms _ rfl HMX.out (HM.out.below H1.out.bel) HFM.out).mono ?_
  rintro e w2 ⟨rfl, hb2⟩
  have H2 := hid (H1.out.below hb2)
  clear hb2 H1
  cases hgm : goodM ms
  · have HN : Hid (¬ Dc ms x y ⟨F, TT, LL, qs, a, c, ts, b, d⟩) := fun g => by have h1 := g.2.1; rw [hgm] at h1; cases h1
    obtain ⟨e0, e1, e2, e3, e4⟩ := five H2.out.res
    have u0 := five_frz (o := 0) H2.out.res
    have u1 := five_frz (o := 1) H2.out.res
    have u2 := five_frz (o := 2) H2.out.res
    have u3 := five_frz (o := 3) H2.out.res
    have u4 := five_frz (o := 4) H2.out.res
    have HP : Hid ((put5 w2 (w.heap.size + 1) (.int .i64 0) (.int .i64 0) (.int .i64 0) (.slice none 0 0) (.slice none 0 0)).heap[w.heap.size + 1]? = some Z5 ∧ Below w.heap.size w (put5 w2 (w.heap.size + 1) (.int .i64 0) (.int .i64 0) (.int .i64 0) (.slice none 0 0) (.slice none 0 0))) := ⟨put5_at H2.out.res, put5_below H2.out.bel (Nat.le_succ _)⟩
    rw [put5] at HP
    go_wp2
    generalize hwf : World.setCell _ _ _ = wf
    rw [hwf] at HP
    clear hwf
    refine bodyPost_ret (v := .agg #[.int .i64 0, .int .i64 0, .int .i64 0, .slice none 0 0, .slice none 0 0]) ?_ rfl ⟨k0, rfl, .inr ⟨HN.out, rfl⟩, HP.out.2⟩
    obtain ⟨y0, y1, y2, y3, y4⟩ := five HP.out.1
    simp [results, Tryz.results19, go_sem, y0, y1, y2, y3, y4]
  have HGB := hid (gdB_iff.1 hg)
  have HCb := hid (good_cpb HGB.out HZ.out HCap.out)
  have HDc : Hid (OkD ms x y ⟨F, TT, LL, qs, a, c, ts, b, d⟩ → Dc ms x y ⟨F, TT, LL, qs, a, c, ts, b, d⟩) := fun h => ⟨hg, hgm, h⟩
  have HDn : Hid (¬ OkD ms x y ⟨F, TT, LL, qs, a, c, ts, b, d⟩ → ¬ Dc ms x y ⟨F, TT, LL, qs, a, c, ts, b, d⟩) := fun h g => h g.2.2
  have hb0' := five H2.out.box
  dsimp only at hb0'
  obtain ⟨b0, b1, b2, b3, b4⟩ := hb0'
  try dsimp only at hd
  have HCall := hid (f30 ⟨F, TT, LL, qs, a, c, ts, b, d⟩ am cm ms x y _ H2.out.has HZ.out HGB.out hd (HM.out.below H2.out.bel) hgm)
  simp only [agB, clB] at HCall
  clear hg hgm
  go_wp2_with fail
  refine HCall.out.mono ?_
  rintro e w3 ⟨b3', d3', rfl, hh3, hb3⟩
  have H3 := hid (H2.out.below hb3)
  obtain ⟨h3, hh⟩ : ∃ h3 : Bk, h3 = ⟨F, TT, LL, qs, a, c, delB ms ⟨F, TT, LL, qs, a, c, ts, b, d⟩ x y, b3', d3'⟩ := ⟨_, rfl⟩
  have HH3 : Hid (HasB w3 h3) := by rw [hh]; exact hh3.out
  have HS3 : Hid (SameB (dlb ms x y ⟨F, TT, LL, qs, a, c, ts, b, d⟩) h3) := by rw [hh]; exact ⟨rfl, rfl, rfl, rfl, rfl, fun _ _ => rfl, fun _ _ => rfl⟩
  have HP3 : Hid (OkD ms x y ⟨F, TT, LL, qs, a, c, ts, b, d⟩ → Cpb h3) := by rw [hh]; exact fun h => del_cpb HGB.out HCb.out h b3' d3'
  have hF : Value.int .i64 F = .int .i64 h3.F := by rw [hh]
  have hT : Value.int .i64 TT = .int .i64 h3.T := by rw [hh]
  have hLL : Value.int .i64 LL = .int .i64 h3.L := by rw [hh]
  have hsl : Value.slice a qs.length c = .slice h3.a h3.qs.length h3.c := by rw [hh]
  have hst : Value.slice b3' (delB ms ⟨F, TT, LL, qs, a, c, ts, b, d⟩ x y).length d3' = .slice h3.b h3.ts.length h3.d := by rw [hh]
  have hl3 : h3.ts.length = (delB ms ⟨F, TT, LL, qs, a, c, ts, b, d⟩ x y).length := by rw [hh]
  have hval : Value.agg #[.int .i64 F, .int .i64 TT, .int .i64 LL, .slice a qs.length c, .slice b3' (delB ms ⟨F, TT, LL, qs, a, c, ts, b, d⟩ x y).length d3'] = .agg #[.int .i64 h3.F, .int .i64 h3.T, .int .i64 h3.L, .slice h3.a h3.qs.length h3.c, .slice h3.b h3.ts.length h3.d] := by rw [hF, hT, hLL, hsl, hst]
  rw [hval]
  have hX : w.heap.size + 1 < w2.heap.size := lt_at H2.out.res
  have hX3 : w2.heap.size ≤ w3.heap.size := hb3.size
  clear hh hF hT hLL hsl hst hval hh3 hb3 HCall b0 b1 b2 b3 b4
  have hbx := (Below.refl w3.heap.size w3).alloc (Nat.le_refl _) (.cells (clB h3) 44)
  have HBx := hid (heap_alloc_new w3 (.cells (clB h3) 44))
  have H4 := hid (H3.out.below hbx)
  have HH4 := hid (HH3.out.below hbx)
  have hX4 := hbx.size
  simp only [clB] at HBx H4 HH4 hX4
  clear hbx H3 HH3
  obtain ⟨d0, d1, d2, d3, d4⟩ := five HBx.out
  obtain ⟨w4, hw4⟩ : ∃ w4, w4 = w3.alloc (.cells #[.int .i64 h3.F, .int .i64 h3.T, .int .i64 h3.L, .slice h3.a h3.qs.length h3.c, .slice h3.b h3.ts.length h3.d] 44) := ⟨_, rfl⟩
  by_cases h5 : OkD ms x y ⟨F, TT, LL, qs, a, c, ts, b, d⟩
  rotate_left
  · have HN := hid (HDn.out h5)
    have h6 : (100 : Int) < (h3.ts.length : Int) := by unfold OkD at h5; omega
    clear h5 hl3
    go_upto_if 27 with fail
    rw [← hw4] at H4 HBx HH4 d0 d1 d2 d3 d4 ⊢
    clear hw4
    obtain ⟨e0, e1, e2, e3, e4⟩ := five H4.out.res
    have u0 := five_frz (o := 0) H4.out.res
    have u1 := five_frz (o := 1) H4.out.res
    have u2 := five_frz (o := 2) H4.out.res
    have u3 := five_frz (o := 3) H4.out.res
    have u4 := five_frz (o := 4) H4.out.res
    have HP : Hid ((put5 w4 (w.heap.size + 1) (.int .i64 0) (.int .i64 0) (.int .i64 0) (.slice none 0 0) (.slice none 0 0)).heap[w.heap.size + 1]? = some Z5 ∧ Below w.heap.size w (put5 w4 (w.heap.size + 1) (.int .i64 0) (.int .i64 0) (.int .i64 0) (.slice none 0 0) (.slice none 0 0))) := ⟨put5_at H4.out.res, put5_below H4.out.bel (Nat.le_succ _)⟩
    rw [put5] at HP
    go_wp2
    generalize hwf : World.setCell _ _ _ = wf
    rw [hwf] at HP
    clear hwf
    refine bodyPost_ret (v := .agg #[.int .i64 0, .int .i64 0, .int .i64 0, .slice none 0 0, .slice none 0 0]) ?_ rfl ⟨k0, rfl, .inr ⟨HN.out, rfl⟩, HP.out.2⟩
    obtain ⟨y0, y1, y2, y3, y4⟩ := five HP.out.1
    simp [results, Tryz.results19, go_sem, y0, y1, y2, y3, y4]
  have h6 : ¬ (100 : Int) < (h3.ts.length : Int) := by unfold OkD at h5; omega
  have HY := hid (HDc.out h5)
  have HCp3 := hid (HP3.out h5)
  clear h5 hl3 HP3
  go_upto_if 27 with fail
  rw [← hw4] at H4 HBx HH4 d0 d1 d2 d3 d4 hX4 ⊢
  clear hw4
  have HCo := hid (f31 h3 w4 HH4.out HCp3.out)
  simp only [agB, clB] at HCo
  go_wp2_with fail
  refine HCo.out.mono ?_
  rintro e w5 ⟨h5, rfl, hs5, hi5, hb5⟩
  have H5 := hid (H4.out.below hb5)
  have HS5 : Hid (SameB (dlb ms x y ⟨F, TT, LL, qs, a, c, ts, b, d⟩) h5) := HS3.out.symm.trans hs5.out
  have HI5 := hid hi5.out
  clear hs5 hi5 hb5 HCo d0 d1 d2 d3 d4 H4 HBx HH4
  obtain ⟨e0, e1, e2, e3, e4⟩ := five H5.out.res
  have u0 := five_frz (o := 0) H5.out.res
  have u1 := five_frz (o := 1) H5.out.res
  have u2 := five_frz (o := 2) H5.out.res
  have u3 := five_frz (o := 3) H5.out.res
  have u4 := five_frz (o := 4) H5.out.res
  have HP : Hid ((put5 w5 (w.heap.size + 1) (.int .i64 h5.F) (.int .i64 h5.T) (.int .i64 h5.L) (.slice h5.a h5.qs.length h5.c) (.slice h5.b h5.ts.length h5.d)).heap[w.heap.size + 1]? = some (.cells #[.int .i64 h5.F, .int .i64 h5.T, .int .i64 h5.L, .slice h5.a h5.qs.length h5.c, .slice h5.b h5.ts.length h5.d] 44) ∧ Below w.heap.size w (put5 w5 (w.heap.size + 1) (.int .i64 h5.F) (.int .i64 h5.T) (.int .i64 h5.L) (.slice h5.a h5.qs.length h5.c) (.slice h5.b h5.ts.length h5.d)) ∧ ∃ X, w.heap.size ≤ X ∧ OwnC X (put5 w5 (w.heap.size + 1) (.int .i64 h5.F) (.int .i64 h5.T) (.int .i64 h5.L) (.slice h5.a h5.qs.length h5.c) (.slice h5.b h5.ts.length h5.d)).heap.size h5 (put5 w5 (w.heap.size + 1) (.int .i64 h5.F) (.int .i64 h5.T) (.int .i64 h5.L) (.slice h5.a h5.qs.length h5.c) (.slice h5.b h5.ts.length h5.d))) :=
    ⟨put5_at H5.out.res, put5_below H5.out.bel (Nat.le_succ _), w4.heap.size, by omega, by rw [put5_size]; exact ownc_put5 HI5.out (by omega)⟩
  rw [put5] at HP
  go_wp2
  generalize hwf : World.setCell _ _ _ = wf
  rw [hwf] at HP
  clear hwf
  refine bodyPost_ret (v := .agg #[.int .i64 h5.F, .int .i64 h5.T, .int .i64 h5.L, .slice h5.a h5.qs.length h5.c, .slice h5.b h5.ts.length h5.d]) ?_ rfl ⟨h5, rfl, .inl ⟨HY.out, HS5.out, HP.out.2.2⟩, HP.out.2.1⟩
  obtain ⟨y0, y1, y2, y3, y4⟩ := five HP.out.1
  simp [results, Tryz.results19, go_sem, y0, y1, y2, y3, y4]
end Go.Proofs.YtkbaaidnkkcpoaaGreat.Blk
