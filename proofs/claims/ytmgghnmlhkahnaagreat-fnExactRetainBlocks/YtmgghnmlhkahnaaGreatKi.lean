/- Blocks copied: the program's copyBlock; stones held. -/
import Derived.Test.YtmgghnmlhkahnaaGreatKh
import Derived.Test.YtmgghnmlhkahnaaGreatKj
import Derived.Test.YtmgghnmlhkahnaaGreatGK
namespace Go.Proofs.YtmgghnmlhkahnaaGreat.Blk
open Go.RowKit
open Go.Proofs.YtmgghnmlhkahnaaGreat.Lab (Lb HasL)
open Go.Proofs.YtmgghnmlhkahnaaGreat.Srs (hid lt_at kept blk own_base own_below own_grown set_else set_at OwnG OwnG.below Q q0 HasQ SmlQ Fr own_fr)
open Go.Proofs.YtmgghnmlhkahnaaGreat.Stn (T t0 OwnT HasT SmlT)

/-- A block in memory of its own, from X on and below Y: its series, then its stones. -/
structure OwnC (X Y : Nat) (h : Bk) (w : World) : Prop where
  ex : ∃ g k M, h.a = some ⟨g, 0, none⟩ ∧ h.b = some ⟨k, 0, none⟩ ∧ h.c = h.qs.length ∧ h.d = h.ts.length ∧ OwnG X g h.qs.length h.c h.qs w ∧ OwnT M k h.ts.length h.ts w ∧ X ≤ M ∧ g < M ∧ (∀ i, i < h.qs.length → blk (h.qs.getD i q0).a < M ∧ blk (h.qs.getD i q0).b < M) ∧ M ≤ k ∧ k < Y ∧ (∀ i, i < h.ts.length → blk (h.ts.getD i t0).a < Y)
  top : Y ≤ w.heap.size
theorem OwnC.has {X Y : Nat} {h : Bk} {w : World} (o : OwnC X Y h w) : HasB w h := by
  obtain ⟨g, k, M, e1, e2, e3, e4, o1, o2, _⟩ := o.ex
  exact ⟨by rw [e1]; exact o1.has, by rw [e2]; exact o2.has⟩
theorem OwnC.below {X Y : Nat} {h : Bk} {w w' : World} (o : OwnC X Y h w) (hb : Below w.heap.size w w') : OwnC X Y h w' := by
  obtain ⟨g, k, M, e1, e2, e3, e4, o1, o2, r⟩ := o.ex
  exact ⟨⟨g, k, M, e1, e2, e3, e4, o1.below hb, o2.below hb, r⟩, Nat.le_trans o.top hb.size⟩
/-- What a copy asks of a block. -/
structure Cpb (h : Bk) : Prop where
  sml : SmlB h
  ne : ∀ i, i < h.qs.length → (h.qs.getD i q0).l ≠ [] ∧ (h.qs.getD i q0).s ≠ []
  cap : ∀ i, i < h.qs.length → (h.qs.getD i q0).d = (h.qs.getD i q0).s.length
  net : ∀ i, i < h.ts.length → (h.ts.getD i t0).l ≠ []
theorem own2_set {X : Nat} {q : Q} {w : World} (h : Srs.Own2 X q w) {p : Addr} (hp : p.block < X) (v : Value) : Srs.Own2 X q (w.setCell p v) :=
  ⟨h.ha, h.hb, Srs.own_set h.lab (by have := h.lo.1; omega) v, Srs.own_set h.smp (by have := h.lo.2; omega) v, h.ne⟩
theorem owng_set {X g n c : Nat} {qs : List Q} {w : World} (h : OwnG X g n c qs w) {p : Addr} (hp : p.block < X) (v : Value) : OwnG X g n c qs (w.setCell p v) :=
  ⟨h.len, Srs.own_set h.row (by have := (h.row.lt g rfl).1; omega) v, fun i hi => own2_set (h.own i hi) hp v, h.apt⟩
set_option maxRecDepth 10000 in
set_option maxHeartbeats 8000000 in
theorem f34 (h : Bk) (w : World) (hr : HasB w h) (hc : Cpb h) :
    Calls Tryz.prog 34 #[agB h] w fun e w' => ∃ h', e = .returned (agB h') ∧ Hid (SameB h h') ∧ Hid (OwnC w.heap.size w'.heap.size h' w') ∧ Below w.heap.size w w' := by
  obtain ⟨F, TT, LL, qs, a, c, ts, b, d⟩ := h
  obtain ⟨hz, hne, hcap, hnet⟩ := hc
  simp only at hne hcap hnet
  obtain ⟨W, hW⟩ : ∃ W, W = (w.alloc (.cells #[.int .i64 F, .int .i64 TT, .int .i64 LL, .slice a qs.length c, .slice b ts.length d] 40)).alloc Z5 := ⟨_, rfl⟩
  have HWb : Hid (Below w.heap.size w W ∧ W.heap[w.heap.size]? = some (.cells #[.int .i64 F, .int .i64 TT, .int .i64 LL, .slice a qs.length c, .slice b ts.length d] 40) ∧ W.heap[w.heap.size + 1]? = some Z5 ∧ W.heap.size = w.heap.size + 1 + 1) := by
    subst hW
    have h2 := heap_alloc_new (w.alloc (.cells #[.int .i64 F, .int .i64 TT, .int .i64 LL, .slice a qs.length c, .slice b ts.length d] 40)) Z5
    simp only [World.size_alloc] at h2
    exact ⟨((Below.refl w.heap.size w).alloc (Nat.le_refl _) _).alloc (by simp) _, (Below.heap_alloc _ _ w.heap.size (by simp)).trans (heap_alloc_new w _), h2, by simp⟩
  have hd2 : Below W.heap.size W W.drew := (Below.refl _ _).drew
  have hrW := hr.below HWb.out.1
  have HC1 := hid (Srs.f55 a qs.length c qs W.drew rfl hz.1 (hrW.1.below hd2) hne hz.2.1 hcap)
  have HC2 := fun x (hx : Below W.heap.size W x) => hid (Stn.f56 b ts.length d ts x rfl hz.2.2.1 (hrW.2.below hx) hnet hz.2.2.2)
  have HL0 : Hid (qs.length = qs.length) := rfl
  clear hr hz hne hcap hnet hrW
  simp only [agB, clB]
  go_enter Tryz.func34, Tryz.ntmps34
  obtain ⟨a0, a1, a2, a3, a4⟩ := five HWb.out.2.1
  obtain ⟨b0, b1, b2, b3, b4⟩ := five (kept HWb.out.2.1 hd2)
  go_wp2_with fail
  rw [← hW]
  clear hW
  go_region_with (first | (go_at_call 55; refine HC1.out.mono ?_; rintro e w4 ⟨qs4, rfl, ho4, hs4, hb4⟩; have hw4 : Below W.heap.size W w4 := hd2.trans (hb4.mono hd2.size); obtain ⟨p0, p1, p2, p3, p4⟩ := five (kept HWb.out.2.1 hw4)) | (go_at_call 56; refine (HC2 w4 hw4).out.mono ?_; rintro e w5 ⟨ts5, rfl, ho5, hs5, hb5⟩; have hw5 : Below W.heap.size W w5 := hw4.trans (hb5.mono hw4.size); obtain ⟨q0', q1', q2', q3', q4'⟩ := five (kept HWb.out.2.1 hw5); have r3 := five_frz (o := 3) (kept HWb.out.2.1 hw5); have r4 := five_frz (o := 4) (kept HWb.out.2.1 hw5)))
  all_goals
    have ho4' : OwnG W.heap.size W.heap.size qs.length qs.length qs4 w4 := ho4.out
    have l4 : W.heap.size ≤ w4.heap.size := hw4.size
    have HWs := hid HWb.out.2.2.2
    have hlt4 : W.heap.size < w4.heap.size := (ho4'.row.lt W.heap.size rfl).2
    have HTp4 : Hid (∀ i, i < qs.length → blk (qs4.getD i q0).a < w4.heap.size ∧ blk (qs4.getD i q0).b < w4.heap.size) := fun i hi => (ho4'.own i hi).hi
    have HTp5 : Hid (∀ i, i < ts.length → blk (ts5.getD i t0).a < w5.heap.size) := fun i hi => (ho5.out.kin.own i hi).lts
    have hlt5 : w4.heap.size < w5.heap.size := (ho5.out.row.lt w4.heap.size rfl).2
    obtain ⟨w6, hw6⟩ : ∃ w6, w6 = (w5.setCell ⟨w.heap.size, 3, none⟩ (.slice (some ⟨W.heap.size, 0, none⟩) qs.length qs.length)).setCell ⟨w.heap.size, 4, none⟩ (.slice (some ⟨w4.heap.size, 0, none⟩) ts.length ts.length) := ⟨_, rfl⟩
    have H6 : Hid (w6.heap[w.heap.size]? = some (.cells #[.int .i64 F, .int .i64 TT, .int .i64 LL, .slice (some ⟨W.heap.size, 0, none⟩) qs.length qs.length, .slice (some ⟨w4.heap.size, 0, none⟩) ts.length ts.length] 40) ∧ w6.heap[w.heap.size + 1]? = some Z5 ∧ OwnG W.heap.size W.heap.size qs.length qs.length qs4 w6 ∧ OwnT w4.heap.size w4.heap.size ts.length ts5 w6 ∧ Below w.heap.size w w6 ∧ w6.heap.size = w5.heap.size) := by
      have hWs := HWs.out
      rw [hw6]
      refine ⟨set_at (i := 4) (set_at (i := 3) (kept HWb.out.2.1 hw5)), set_else (set_else (kept HWb.out.2.2.1 hw5) (by simp only; omega)) (by simp only; omega), owng_set (owng_set (ho4'.below hb5) (by simp only; omega) _) (by simp only; omega) _, OwnT.set (OwnT.set ho5.out (by simp only; omega) _) (by simp only; omega) _, ?_, by simp⟩
      exact Below.setCell (p := ⟨w.heap.size, 4, none⟩) (Below.setCell (p := ⟨w.heap.size, 3, none⟩) (HWb.out.1.trans (hw5.mono HWb.out.1.size)) (Nat.le_refl _) _) (Nat.le_refl _) _
    rw [← hw6]
    have HS4 := hid hs4.out
    have HS5 := hid hs5.out
    clear hw6 ho4 ho5 hb4 hb5 hw4 hw5 hs4 hs5 p0 p1 p2 p3 p4 q0' q1' q2' q3' q4' r3 r4 a0 a1 a2 a3 a4 b0 b1 b2 b3 b4 HC1 HC2 ho4' hd2
    clear HWb
    generalize W.heap.size = S1 at *
    generalize w4.heap.size = S2 at *
    obtain ⟨c0, c1, c2, c3, c4⟩ := five H6.out.1
    obtain ⟨e0, e1, e2, e3, e4⟩ := five H6.out.2.1
    have u0 := five_frz (o := 0) H6.out.2.1
    have u1 := five_frz (o := 1) H6.out.2.1
    have u2 := five_frz (o := 2) H6.out.2.1
    have u3 := five_frz (o := 3) H6.out.2.1
    have u4 := five_frz (o := 4) H6.out.2.1
    have HF : Hid (∀ x, x = ((((w6.setCell ⟨w.heap.size + 1, 0, none⟩ (.int .i64 F)).setCell ⟨w.heap.size + 1, 1, none⟩ (.int .i64 TT)).setCell ⟨w.heap.size + 1, 2, none⟩ (.int .i64 LL)).setCell ⟨w.heap.size + 1, 3, none⟩ (.slice (some ⟨S1, 0, none⟩) qs.length qs.length)).setCell ⟨w.heap.size + 1, 4, none⟩ (.slice (some ⟨S2, 0, none⟩) ts.length ts.length) →
        x.heap[w.heap.size + 1]? = some (.cells #[.int .i64 F, .int .i64 TT, .int .i64 LL, .slice (some ⟨S1, 0, none⟩) qs.length qs.length, .slice (some ⟨S2, 0, none⟩) ts.length ts.length] 40) ∧ OwnG S1 S1 qs.length qs.length qs4 x ∧ OwnT S2 S2 ts.length ts5 x ∧ Below w.heap.size w x ∧ x.heap.size = w5.heap.size) := by
      rintro x rfl
      have hWs := HWs.out
      refine ⟨set_at (i := 4) (set_at (i := 3) (set_at (i := 2) (set_at (i := 1) (set_at (i := 0) H6.out.2.1)))), ?_, ?_, ?_, by have := H6.out.2.2.2.2.2; simpa using this⟩
      · exact owng_set (owng_set (owng_set (owng_set (owng_set H6.out.2.2.1 (by simp only; omega) _) (by simp only; omega) _) (by simp only; omega) _) (by simp only; omega) _) (by simp only; omega) _
      · exact OwnT.set (OwnT.set (OwnT.set (OwnT.set (OwnT.set H6.out.2.2.2.1 (by simp only; omega) _) (by simp only; omega) _) (by simp only; omega) _) (by simp only; omega) _) (by simp only; omega) _
      · exact Below.setCell (p := ⟨w.heap.size + 1, 4, none⟩) (Below.setCell (p := ⟨w.heap.size + 1, 3, none⟩) (Below.setCell (p := ⟨w.heap.size + 1, 2, none⟩) (Below.setCell (p := ⟨w.heap.size + 1, 1, none⟩) (Below.setCell (p := ⟨w.heap.size + 1, 0, none⟩) H6.out.2.2.2.2.1 (by simp only; omega) _) (by simp only; omega) _) (by simp only; omega) _) (by simp only; omega) _) (by simp only; omega) _
    have HL4 := hid H6.out.2.2.1.len
    have HL5 := hid H6.out.2.2.2.1.kin.len
    clear H6
    go_wp2
    revert HF
    generalize hwf : World.setCell _ _ _ = wf
    intro HF
    obtain ⟨k1, k2, k3, k4, k5⟩ := HF.out wf (by rw [← hwf])
    obtain ⟨y0, y1, y2, y3, y4⟩ := five k1
    have hres : ∃ h' : Bk, agB h' = .agg #[.int .i64 F, .int .i64 TT, .int .i64 LL, .slice (some ⟨S1, 0, none⟩) qs.length qs.length, .slice (some ⟨S2, 0, none⟩) ts.length ts.length] ∧ SameB ⟨F, TT, LL, qs, a, c, ts, b, d⟩ h' ∧ OwnC w.heap.size wf.heap.size h' wf := by
      refine ⟨⟨F, TT, LL, qs4, some ⟨S1, 0, none⟩, qs.length, ts5, some ⟨S2, 0, none⟩, ts.length⟩, ?_, ⟨rfl, rfl, rfl, HL4.out, HL5.out, HS4.out, HS5.out⟩, ⟨⟨S1, S2, S2, rfl, rfl, HL4.out.symm, HL5.out.symm, ?_, ?_, ?_, ?_, ?_, Nat.le_refl _, ?_, ?_⟩, Nat.le_refl _⟩⟩
      · simp only [agB, clB, HL4.out, HL5.out]
      · rw [show (⟨F, TT, LL, qs4, some ⟨S1, 0, none⟩, qs.length, ts5, some ⟨S2, 0, none⟩, ts.length⟩ : Bk).qs.length = qs.length from HL4.out]
        have hWs := HWs.out
        exact ⟨k2.len, own_base k2.row (by omega), fun i hi => ⟨(k2.own i hi).ha, (k2.own i hi).hb, own_base (k2.own i hi).lab (by omega), own_base (k2.own i hi).smp (by omega), (k2.own i hi).ne⟩, k2.apt⟩
      · rw [show (⟨F, TT, LL, qs4, some ⟨S1, 0, none⟩, qs.length, ts5, some ⟨S2, 0, none⟩, ts.length⟩ : Bk).ts.length = ts.length from HL5.out]; exact k3
      · have hWs := HWs.out; omega
      · omega
      · intro i hi; exact HTp4.out i (by rw [← HL4.out]; exact hi)
      · rw [k5]; exact hlt5
      · intro i hi; rw [k5]; exact HTp5.out i (by rw [← HL5.out]; exact hi)
    obtain ⟨h', he, hsm, hoc⟩ := hres
    have HH := hid (And.intro hsm hoc)
    clear hsm hoc HF k1 k2 k3 k5 HL4 HL5 HS4 HS5 HTp4 HTp5
    refine bodyPost_ret (v := .agg #[.int .i64 F, .int .i64 TT, .int .i64 LL, .slice (some ⟨S1, 0, none⟩) qs.length qs.length, .slice (some ⟨S2, 0, none⟩) ts.length ts.length]) (by simp [results, Tryz.results34, go_sem, y0, y1, y2, y3, y4]) rfl ?_
    exact ⟨h', congrArg Ending.returned he.symm, HH.out.1, HH.out.2, k4⟩
end Go.Proofs.YtmgghnmlhkahnaaGreat.Blk
