/- The program's mergeBlocks and MergeBlocks. -/
import Derived.Test.YtjhdmghpklagkaaGreatD41
import Derived.Test.YtjhdmghpklagkaaGreatD07
import Derived.Lib.MinMax
import Derived.Deep.CutRange
namespace Go.Proofs.YtjhdmghpklagkaaGreat.Mgb
open Go.RowKit
open Go.Proofs.YtjhdmghpklagkaaGreat.Stb
open Go.Proofs.YtjhdmghpklagkaaGreat.Srs (Q q0 pl Pl OwnO set_at lt_at kept own_below SmlQ)
open Go.Proofs.YtjhdmghpklagkaaGreat.Blk
open Go.Proofs.YtjhdmghpklagkaaGreat.Pat (Mt HasM goodM FitM)
open Go.Proofs.YtjhdmghpklagkaaGreat.Hpl
open Go.Proofs.YtjhdmghpklagkaaGreat.Shf (wid BadW)

def put5 (x : World) (B : Nat) (v0 v1 v2 v3 v4 : Value) : World := ((((x.setCell ⟨B, 0, none⟩ v0).setCell ⟨B, 1, none⟩ v1).setCell ⟨B, 2, none⟩ v2).setCell ⟨B, 3, none⟩ v3).setCell ⟨B, 4, none⟩ v4
theorem put5_at {x : World} {B : Nat} {v0 v1 v2 v3 v4 u0 u1 u2 u3 u4 : Value} {t : TypeId} (h : x.heap[B]? = some (.cells #[u0, u1, u2, u3, u4] t)) : (put5 x B v0 v1 v2 v3 v4).heap[B]? = some (.cells #[v0, v1, v2, v3, v4] t) :=
  set_at (i := 4) (set_at (i := 3) (set_at (i := 2) (set_at (i := 1) (set_at (i := 0) h))))
theorem put5_below {N : Nat} {w x : World} {B : Nat} {v0 v1 v2 v3 v4 : Value} (hb : Below N w x) (hB : N ≤ B) : Below N w (put5 x B v0 v1 v2 v3 v4) :=
  Below.setCell (p := ⟨B, 4, none⟩) (Below.setCell (p := ⟨B, 3, none⟩) (Below.setCell (p := ⟨B, 2, none⟩) (Below.setCell (p := ⟨B, 1, none⟩) (Below.setCell (p := ⟨B, 0, none⟩) hb hB _) hB _) hB _) hB _) hB _
theorem put5_gr (x : World) (B : Nat) (v0 v1 v2 v3 v4 : Value) : x.grownBy (put5 x B v0 v1 v2 v3 v4) (some B) :=
  gr_set (gr_set (gr_set (gr_set (set_gr x B 0 v0) 1 v1) 2 v2) 3 v3) 4 v4
structure Am (X : Nat) (h : Bk) (w : World) : Prop where
  own : OwnO X h.a h.qs.length h.c h.qs w
  ts : h.ts = []
  b : h.b = none
  d : h.d = 0
theorem Am.below {X : Nat} {h : Bk} {w w' : World} (o : Am X h w) (hb : Below w.heap.size w w') : Am X h w' := ⟨o.own.below hb, o.ts, o.b, o.d⟩
theorem Am.has {X : Nat} {h : Bk} {w : World} (o : Am X h w) : HasB w h := ⟨o.own.has, .inl o.ts⟩
theorem owno_off {X r n c : Nat} {a : Option Addr} {qs : List Q} {w x : World} (h : OwnO X a n c qs w) (hg : w.grownBy x (some r)) (hr : r < X) : OwnO X a n c qs x := Srs.OwnO.aside h hg hr
def lpK (bs : List Bk) (k : Nat) : Int := (bs.take k).foldl (fun a h => max a (h.L + 1)) 0
theorem lpK_next {bs : List Bk} {k : Nat} (hk : k < bs.length) : lpK bs (k + 1) = max (lpK bs k) ((bs.getD k k0).L + 1) := by
  unfold lpK
  rw [List.take_add_one, List.foldl_append]
  simp [hk]
theorem lpK_end {b : Int} {bs : List Bk} (g : GoodK b bs) : lpK bs bs.length = if 0 < bs.length then mxl bs + 1 else 0 := by
  unfold lpK
  rw [List.take_length]
  cases bs with
  | nil => rfl
  | cons h bs =>
    rw [if_pos (by simp)]
    exact mxl_one (g.2.2 0 (by simp)).1.1
theorem goodM_nil : goodM [] = true := by
  exact decide_eq_true ⟨by simp, fun i hi => by simp at hi⟩
theorem fitM_nil : FitM [] := rfl

set_option maxRecDepth 10000 in
set_option maxHeartbeats 8000000 in
theorem f41 (b : Int) (a : Option Addr) (n c : Nat) (bs : List Bk) (w : World) (g : GoodK b bs) (hn : bs.length = n) (hr : HasK w a bs) (hf : FitK bs) (hz : SmlK bs)
    (hd : ∀ i, i < n → (bs.getD i k0).ts.length ≤ (bs.getD i k0).d ∧ ∀ j, j < (bs.getD i k0).qs.length → ((bs.getD i k0).qs.getD j q0).s.length ≤ ((bs.getD i k0).qs.getD j q0).d) :
    Calls Tryz.prog 41 #[.int .i64 b, .slice a n c] w fun e w' => ∃ hG, e = .returned (.tuple #[agB hG, .bool (okB b bs)]) ∧ Hid (okM b bs → SameB (mbk b bs) hG ∧ Am w.heap.size hG w') ∧ Below w.heap.size w w' := by
  have HN := hid hn
  have HR := hid hr
  have HF := hid hf
  have HZ := hid hz
  have HD := hid hd
  have HGK := hid g
  have hn100 : n ≤ 100 := by rw [← hn]; exact g.2.1
  have hb12 := g.1
  have HO0 := hid (heap_alloc_new w Z5)
  have HB0 := hid ((Below.refl w.heap.size w).alloc (Nat.le_refl _) Z5)
  clear hn hr hf hz hd g
  go_enter Tryz.func41, Tryz.ntmps41
  go_wp2
  go_loopw [6, 15] (fun s6 si wr => ∃ (k : Nat) (m : Int), k ≤ n ∧ 0 ≤ m ∧ m ≤ 5 ∧ si = .int .i64 k ∧ s6 = .int .i64 m ∧ Hid (m = lpK bs k) ∧ Hid (wr.heap[w.heap.size]? = some Z5) ∧ Hid (Below w.heap.size w wr)) (fun _ si _ => n - (intOf si).toNat)
  case atStart => exact ⟨0, 0, Nat.zero_le _, by omega, by omega, rfl, rfl, rfl, HO0.out, HB0.out⟩
  case round =>
    clear HO0 HB0
    obtain ⟨k, m, hk, hm0, hm5, rfl, rfl, HM, HO, HB⟩ := hrel
    by_cases hlt : k < n
    · obtain ⟨bb, off, rfl, hbl, hcc, t1⟩ := (HR.out.below HB.out).at2 k (by rw [HN.out]; exact hlt)
      obtain ⟨c0, c1, c2, c3, c4⟩ := hcc
      have HLp := hid (lpK_next (show k < bs.length by rw [HN.out]; exact hlt))
      have hL := (HGK.out.2.2 k (by rw [HN.out]; exact hlt)).1
      generalize bs.getD k k0 = q at *
      have i1 : (k : Int) < (n : Int) := by omega
      have hl1 := hL.1
      have hl4 := hL.2
      have HW0 := hid ((Below.refl wr.heap.size wr).alloc (Nat.le_refl _) (.cells (clB q) 36))
      simp only [clB] at HW0
      have HB2 := hid (HB.out.trans (HW0.out.mono HB.out.size))
      have HO2 := hid (kept HO.out HW0.out)
      clear t1 hbl hL
      go_wp2
      go_roundw
      case rel => exact ⟨k + 1, max m (q.L + 1), by omega, by omega, by omega, by go_num, rfl, by unfold Hid; rw [HLp.out, HM.out], HO2.out, HB2.out⟩
      case measure => simp [intOf]; omega
    · obtain rfl : k = n := by omega
      have HLe : Hid (m = if 0 < k then mxl bs + 1 else 0) := by
        unfold Hid
        have h1 := lpK_end HGK.out
        rw [HN.out] at h1
        rw [HM.out, h1]
      by_cases hsl : 1 ≤ m ∧ m ≤ 4
      rotate_left
      · have HNo : Hid (¬ okM b bs) := fun h => by
          have h0 : 0 < k := by rw [← HN.out]; exact h.1
          have e1 := HLe.out
          rw [if_pos h0] at e1
          have h4 := h.2.1
          have h5 := (mxl_bd HGK.out).1
          omega
        have HOk : Hid (okB b bs = false) := decide_eq_false HNo.out
        have HSl : Hid (decide (1 ≤ m ∧ m ≤ 4) = false) := decide_eq_false hsl
        obtain ⟨e0, e1, e2, e3, e4⟩ := five HO.out
        have u0 := five_frz (o := 0) HO.out
        have u1 := five_frz (o := 1) HO.out
        have u2 := five_frz (o := 2) HO.out
        have u3 := five_frz (o := 3) HO.out
        have u4 := five_frz (o := 4) HO.out
        have HP : Hid ((put5 wr w.heap.size (.int .i64 0) (.int .i64 0) (.int .i64 0) (.slice none 0 0) (.slice none 0 0)).heap[w.heap.size]? = some Z5 ∧ Below w.heap.size w (put5 wr w.heap.size (.int .i64 0) (.int .i64 0) (.int .i64 0) (.slice none 0 0) (.slice none 0 0))) := ⟨put5_at HO.out, put5_below HB.out (Nat.le_refl _)⟩
        rw [put5] at HP
        clear hsl
        go_wp2_with (go_at_call 69; refine (Shf.f69 m _).mono ?_; rw [HSl.out]; rintro e w2 ⟨rfl, rfl⟩)
        generalize hwf : World.setCell _ _ _ = wf
        rw [hwf] at HP
        clear hwf
        refine bodyPost_ret (v := .tuple #[.agg #[.int .i64 0, .int .i64 0, .int .i64 0, .slice none 0 0, .slice none 0 0], .bool false]) ?_ rfl ⟨k0, by rw [HOk.out]; rfl, fun h => absurd h HNo.out, HP.out.2⟩
        obtain ⟨y0, y1, y2, y3, y4⟩ := five HP.out.1
        simp [results, Tryz.results41, go_sem, y0, y1, y2, y3, y4]
      · have hk0 : 0 < k := by
          have e1 := HLe.out
          by_cases h : 0 < k
          · exact h
          · rw [if_neg h] at e1; omega
        have HLv : Hid (m = mxl bs + 1) := by have e1 := HLe.out; rw [if_pos hk0] at e1; exact e1
        have HSl : Hid (decide (1 ≤ m ∧ m ≤ 4) = true) := decide_eq_true hsl
        have h4 : mxl bs + 1 ≤ 4 := by have := HLv.out; omega
        have hwd := wdM_pos HGK.out h4
        have hfr := fr_le HGK.out h4 (by rw [HN.out]; exact hk0)
        have HWd : Hid (wid b m = wdM b bs) := by unfold Hid wdM; rw [HLv.out]
        have HFr : Hid ((bs.getD 0 k0).F - (bs.getD 0 k0).F % wdM b bs = frM b bs) := rfl
        have HTo : Hid (frM b bs + wdM b bs = toM b bs) := rfl
        have hto : toM b bs = frM b bs + wdM b bs := rfl
        obtain ⟨bb, off, hae, hbl, hcc, t1⟩ := (HR.out.below HB.out).at2 0 (by rw [HN.out]; exact hk0)
        obtain ⟨bb', off', hae', hbl', hcc', t1'⟩ := (HR.out.below HB.out).at2 (k - 1) (by rw [HN.out]; omega)
        have eab : bb' = bb ∧ off' = off := by rw [hae] at hae'; simp only [Option.some.injEq, Addr.mk.injEq, and_true] at hae'; exact ⟨hae'.1.symm, hae'.2.symm⟩
        obtain ⟨rfl, rfl⟩ := eab
        have c0 := hcc.1
        have c1 := hcc'.2.1
        have h0g := (HGK.out.2.2 0 (by rw [HN.out]; exact hk0)).2.1.1
        have hlg := (HGK.out.2.2 (k - 1) (by rw [HN.out]; omega)).2.1.1
        unfold Blk.Head at h0g hlg
        obtain ⟨k', hk'⟩ : ∃ k', k = k' + 1 := ⟨k - 1, by omega⟩
        have HIn := hid (inM_last HGK.out (show bs.length = k' + 1 by rw [HN.out]; exact hk'))
        rw [show k - 1 = k' by omega] at c1 hlg
        have HSf := hid (fun z => f72 (bs.getD 0 k0).F (wdM b bs) z (by omega) (by omega) hwd.1 hwd.2)
        have HWf := hid (fun z => Shf.f71 b m z (by omega) (by omega) (by omega) (by omega))
        rw [HWd.out] at HWf
        rw [HFr.out] at HSf
        subst hae
        subst hk'
        clear hcc hcc' t1 t1' hbl' hae'
        generalize (bs.getD 0 k0).F = F0 at *
        generalize hTl : (bs.getD k' k0).T = Tl at *
        have HTl := hid hTl
        clear hTl hsl
        have i1 : (k' : Int) < (k' : Int) + 1 := by omega
        have i2 : (0 : Int) < ((k' + 1 : Nat) : Int) := by omega
        generalize hfv : frM b bs = fv at *
        generalize hwv : wdM b bs = wv at *
        generalize htv : toM b bs = tv at *
        have HVs := hid (And.intro hfv (And.intro hwv htv))
        clear hfv hwv htv
        subst hto
        go_wp2_with (first | (go_at_call 69; refine (Shf.f69 m _).mono ?_; rw [HSl.out]; rintro e w2 ⟨rfl, hw2⟩; have hw2' := hw2.symm; subst hw2') | fail)
        refine (HWf.out _).mono ?_
        rintro e w3 ⟨rfl, hb3⟩
        have HB3 := hid (HB.out.trans (hb3.mono HB.out.size))
        have HO3 := hid (kept HO.out hb3)
        have d0 := (hb3.cell (p := ⟨bb', off' + 0 * 5, none⟩) hbl).trans c0
        have d1 := (hb3.cell (p := ⟨bb', off' + k' * 5 + 1, none⟩) hbl).trans c1
        simp only [Nat.zero_mul, Nat.add_zero] at d0
        clear hb3 HB HO c0 c1 HWf hbl
        have hf0 := hfr.1
        have hf1 := hfr.2.2
        have hw0 := hwd.1
        have hw1 := hwd.2
        by_cases hgt : Tl > fv + wv
        · have HNo : Hid (¬ okM b bs) := fun h => by
            have h1 := HIn.out.1 h.2.2.1
            omega
          have HOk : Hid (okB b bs = false) := decide_eq_false HNo.out
          obtain ⟨e0, e1, e2, e3, e4⟩ := five HO3.out
          have u0 := five_frz (o := 0) HO3.out
          have u1 := five_frz (o := 1) HO3.out
          have u2 := five_frz (o := 2) HO3.out
          have u3 := five_frz (o := 3) HO3.out
          have u4 := five_frz (o := 4) HO3.out
          have HP : Hid ((put5 w3 w.heap.size (.int .i64 0) (.int .i64 0) (.int .i64 0) (.slice none 0 0) (.slice none 0 0)).heap[w.heap.size]? = some Z5 ∧ Below w.heap.size w (put5 w3 w.heap.size (.int .i64 0) (.int .i64 0) (.int .i64 0) (.slice none 0 0) (.slice none 0 0))) := ⟨put5_at HO3.out, put5_below HB3.out (Nat.le_refl _)⟩
          rw [put5] at HP
          go_wp2_with (go_at_call 72; refine (HSf.out _).mono ?_; rintro e w2 ⟨rfl, hw2⟩; have hw2' := hw2.symm; subst hw2')
          generalize hwf : World.setCell _ _ _ = wf
          rw [hwf] at HP
          clear hwf
          refine bodyPost_ret (v := .tuple #[.agg #[.int .i64 0, .int .i64 0, .int .i64 0, .slice none 0 0, .slice none 0 0], .bool false]) ?_ rfl ⟨k0, by rw [HOk.out]; rfl, fun h => absurd h HNo.out, HP.out.2⟩
          obtain ⟨y0, y1, y2, y3, y4⟩ := five HP.out.1
          simp [results, Tryz.results41, go_sem, y0, y1, y2, y3, y4]
        · have HIm : Hid (InM b bs) := HIn.out.2 (by omega)
          have HOKm : Hid (∀ i, i < k' + 1 → Okm (ansM (bs.getD i k0) [] fv (fv + wv - 1))) := fun i hi => ans_okm (HGK.out.2.2 i (by rw [HN.out]; exact hi)).2.1 (HF.out i)
          have HJn := hid (shelf_join (ms := []) (x := fv) (y := fv + wv - 1) HGK.out)
          have HSp := hid (shl_span HGK.out h4 HIm.out)
          rw [HVs.out.1, HVs.out.2.2] at HSp
          have HJC := hid (fun z hz => f53 (some ⟨bb', off', none⟩) (k' + 1) c bs none 0 [] fv (fv + wv - 1) z (by omega) (by omega) (by omega) (by omega) HN.out hn100 hz HF.out (fun i hi => HZ.out i (by rw [HN.out]; exact hi)) (fun i hi => (HGK.out.2.2 i (by rw [HN.out]; exact hi)).2.1) HOKm.out (.inl rfl) goodM_nil fitM_nil (by simp [maxLen]) HD.out)
          have HRz := hid (HR.out.below HB3.out)
          have hgt' : ¬ fv + wv < Tl := by omega
          clear hgt
          go_wp2_with (first | (go_at_call 72; refine (HSf.out _).mono ?_; rintro e w2 ⟨rfl, hw2⟩; have hw2' := hw2.symm; subst hw2') | fail)
          refine (HJC.out _ HRz.out).mono ?_
          rintro e w4 ⟨a4, m4, c4, R4, rfl, ho4, hs4, hm4, hb4⟩
          have HB4 := hid (HB3.out.trans (hb4.mono HB3.out.size))
          have HO4 := hid (kept HO3.out hb4)
          have HG4 := hid ho4
          have hl3 : w.heap.size < w3.heap.size := lt_at HO3.out
          have HR4 : Hid (R4.map pl = srM bs) := by
            unfold Hid
            rw [hs4, HJn.out, ← HSp.out]; rfl
          have hml := ho4.len
          have hfit := shl_fit (show R4.map pl = shl bs [] fv (fv + wv - 1) by rw [HSp.out]; exact HR4.out) (by rw [HN.out]; exact hn100) (fun i hi => HOKm.out i (by rw [← HN.out]; exact hi))
          have HFB : Hid (FitB ⟨fv, fv + wv, m, R4, a4, c4, [], none, 0⟩) := ⟨⟨by show (-9223372036854775808 : Int) ≤ fv; omega, by show fv ≤ 9223372036854775807; omega⟩, ⟨by show (-9223372036854775808 : Int) ≤ fv + wv; omega, by show fv + wv ≤ 9223372036854775807; omega⟩, ⟨by show (-9223372036854775808 : Int) ≤ m; omega, by show m ≤ 9223372036854775807; omega⟩, hfit.1, by show R4.length ≤ maxLen; unfold maxLen; omega, (fun i => by simp only [List.getD_nil]; exact Stn.fit_t0), Nat.zero_le _⟩
          have HSB : Hid (SmlB ⟨fv, fv + wv, m, R4, a4, c4, [], none, 0⟩) := ⟨by show R4.length ≤ 1048576; omega, hfit.2, Nat.zero_le _, fun i hi => by simp at hi⟩
          have HSame : Hid (SameB (mbk b bs) ⟨fv, fv + wv, m, R4, a4, c4, [], none, 0⟩) := by
            have h1 := same_mbk (b := b) (a := a4) (c := c4) HR4.out
            rw [HVs.out.1, HVs.out.2.2, ← HLv.out] at h1
            exact h1
          have HGd : Hid (gdB ⟨fv, fv + wv, m, R4, a4, c4, [], none, 0⟩ = okB b bs) := by
            unfold Hid
            rw [HSame.out.gd]
            unfold gdB okB
            exact decide_eq_decide.2 ⟨fun h => ⟨by rw [HN.out]; omega, h4, HIm.out, h⟩, fun h => h.2.2.2⟩
          have hX4 : w3.heap.size ≤ w4.heap.size := hb4.size
          subst hml
          clear hb4 ho4 hs4 hfit HJC HRz HJn d0 d1
          have HBx := hid (heap_alloc_new w4 (.cells (clB ⟨fv, fv + wv, m, R4, a4, c4, [], none, 0⟩) 36))
          have hbA := (Below.refl w4.heap.size w4).alloc (Nat.le_refl _) (.cells (clB ⟨fv, fv + wv, m, R4, a4, c4, [], none, 0⟩) 36)
          obtain ⟨W5, hW5⟩ : ∃ W5, W5 = w4.alloc (.cells (clB ⟨fv, fv + wv, m, R4, a4, c4, [], none, 0⟩) 36) := ⟨_, rfl⟩
          rw [← hW5] at HBx hbA
          simp only [clB, List.length_nil] at hW5 HBx
          have HO5 := hid (kept HO4.out hbA)
          have HG5 := hid (HG4.out.below hbA)
          have HB5 := hid (HB4.out.trans (hbA.mono HB4.out.size))
          clear hbA HO4 HB4
          go_upto_region 15 with fail
          rw [← hW5]
          clear hW5
          have hdr : Below W5.heap.size W5 W5.drew := (Below.refl _ _).drew
          have HXd := hid (kept HBx.out hdr)
          have HOd := hid (kept HO5.out hdr)
          have HGd5 := hid (HG5.out.below hdr)
          have HBd := hid (HB5.out.trans (hdr.mono HB5.out.size))
          clear hdr HBx HO5 HG5 HB5
          have HGB := hid (f70 ⟨fv, fv + wv, m, R4, a4, c4, [], none, 0⟩ W5.drew ⟨HGd5.out.has, .inl rfl⟩ HFB.out HSB.out)
          rw [HGd.out] at HGB
          simp only [agB, clB, List.length_nil] at HGB
          have hBxw : w.heap.size ≠ w4.heap.size := by have := lt_at HOd.out; omega
          refine wp_region_held_drew (S := fun x => x.cell? ⟨w4.heap.size, 0, none⟩ = some (.int .i64 fv) ∧ x.cell? ⟨w4.heap.size, 1, none⟩ = some (.int .i64 (fv + wv)) ∧ x.cell? ⟨w4.heap.size, 2, none⟩ = some (.int .i64 m) ∧ x.cell? ⟨w4.heap.size, 3, none⟩ = some (.slice a4 R4.length c4) ∧ x.cell? ⟨w4.heap.size, 4, none⟩ = some (.slice none 0 0)) rfl (five HXd.out) (fun hHeld => ?_)
          generalize W5.drew = V at *
          refine tkH 0 (some 60) (.agg #[.int .i64 fv, .int .i64 (fv + wv), .int .i64 m, .slice a4 R4.length c4, .slice none 0 0]) rfl ?_
          simp only [Act.put, zzA, zzB, zzC]
          refine tkH 1 (some 61) (.agg #[.int .i64 fv, .int .i64 (fv + wv), .int .i64 m, .slice a4 R4.length c4, .slice none 0 0]) rfl ?_
          simp only [Act.put, zzA, zzB, zzC]
          refine wpAnyH_ready (rs := [2]) (by kernel_rfl) (by simp) (AllReadyH.cons (o := { dst := some 62, op := _, type := _, pos := _, after := _, guard := _ }) rfl ?_ AllReadyH.nil)
          intro K1 hK1
          go_simp
          go_wp2_with (go_at_call 70; refine HGB.out.mono ?_; rintro e w6 ⟨rfl, hb6⟩)
          have HX6 := hid (kept HXd.out hb6)
          have HO6 := hid (kept HOd.out hb6)
          have HG6 := hid (HGd5.out.below hb6)
          have HB6 := hid (HBd.out.trans (hb6.mono HBd.out.size))
          have hs6 := five HX6.out
          refine hK1.out _ _ hs6 (fun _ => ?_)
          clear hK1 K1 hb6 HXd HOd HGd5 HBd hHeld HGB
          obtain ⟨e0, e1, e2, e3, e4⟩ := five HO6.out
          have u0 := five_frz (o := 0) HO6.out
          have u1 := five_frz (o := 1) HO6.out
          have u2 := five_frz (o := 2) HO6.out
          have u3 := five_frz (o := 3) HO6.out
          have u4 := five_frz (o := 4) HO6.out
          refine wpAnyH_ready (rs := [3]) (by kernel_rfl) (by simp) (AllReadyH.cons (o := { dst := none, op := _, type := _, pos := _, after := _, guard := _ }) rfl ?_ AllReadyH.nil)
          intro K3 hK3
          go_simp
          have HP : Hid ((put5 w6 w.heap.size (.int .i64 fv) (.int .i64 (fv + wv)) (.int .i64 m) (.slice a4 R4.length c4) (.slice none 0 0)).heap[w.heap.size]? = some (.cells #[.int .i64 fv, .int .i64 (fv + wv), .int .i64 m, .slice a4 R4.length c4, .slice none 0 0] 36) ∧ Below w.heap.size w (put5 w6 w.heap.size (.int .i64 fv) (.int .i64 (fv + wv)) (.int .i64 m) (.slice a4 R4.length c4) (.slice none 0 0)) ∧ OwnO w3.heap.size a4 R4.length c4 R4 (put5 w6 w.heap.size (.int .i64 fv) (.int .i64 (fv + wv)) (.int .i64 m) (.slice a4 R4.length c4) (.slice none 0 0)) ∧ (put5 w6 w.heap.size (.int .i64 fv) (.int .i64 (fv + wv)) (.int .i64 m) (.slice a4 R4.length c4) (.slice none 0 0)).heap[w4.heap.size]? = w6.heap[w4.heap.size]?) := ⟨put5_at HO6.out, put5_below HB6.out (Nat.le_refl _), owno_off HG6.out (put5_gr _ _ _ _ _ _ _) hl3, (put5_gr w6 w.heap.size _ _ _ _ _).block w4.heap.size (lt_at HX6.out) (fun e => hBxw (Option.some.inj e).symm)⟩
          rw [put5] at HP
          generalize hwf : World.setCell _ _ _ = wf
          rw [hwf] at HP
          clear hwf e0 e1 e2 e3 e4 u0 u1 u2 u3 u4 hs6
          have hs7 := five (HP.out.2.2.2.trans HX6.out)
          refine hK3.out _ _ hs7 (fun _ => ?_)
          clear hK3 K3
          refine tkH 4 (some 5) (.bool (okB b bs)) rfl ?_
          simp only [Act.put, zzA, zzB, zzC]
          refine wpAnyH_done (by kernel_rfl) ?_ _
          clear hs7
          go_wp2
          refine bodyPost_ret (v := .tuple #[.agg #[.int .i64 fv, .int .i64 (fv + wv), .int .i64 m, .slice a4 R4.length c4, .slice none 0 0], .bool (okB b bs)]) ?_ rfl ⟨⟨fv, fv + wv, m, R4, a4, c4, [], none, 0⟩, rfl, fun _ => ⟨HSame.out, OwnO_base HP.out.2.2.1 (Nat.le_of_lt hl3), rfl, rfl, rfl⟩, HP.out.2.1⟩
          obtain ⟨y0, y1, y2, y3, y4⟩ := five HP.out.1
          simp [results, Tryz.results41, go_sem, y0, y1, y2, y3, y4]
theorem sameB_refl (h : Bk) : SameB h h := ⟨rfl, rfl, rfl, rfl, rfl, fun _ _ => rfl, fun _ _ => rfl⟩
theorem two_new {w4 W : World} {o : Obj} (hW : W = w4.alloc o) : Below w4.heap.size w4 W ∧ W.heap[w4.heap.size]? = some o := by
  subst hW; exact ⟨(Below.refl _ _).alloc (Nat.le_refl _) _, heap_alloc_new w4 _⟩
end Go.Proofs.YtjhdmghpklagkaaGreat.Mgb
