/- The model's l10Merge and MergeBlocks. -/
import Derived.Test.YtjhdmghpklagkaaGreatD42
import Derived.Test.YtjhdmghpklagkaaGreatD38
namespace Go.Proofs.YtjhdmghpklagkaaGreat.Mgb
open Go.RowKit
open Go.Proofs.YtjhdmghpklagkaaGreat.Stb
open Go.Proofs.YtjhdmghpklagkaaGreat.Srs (Q q0 pl Pl OwnO set_at lt_at kept own_below SmlQ jF MQb)
open Go.Proofs.YtjhdmghpklagkaaGreat.Blk
open Go.Proofs.YtjhdmghpklagkaaGreat.Pat (Mt HasM goodM FitM)
open Go.Proofs.YtjhdmghpklagkaaGreat.Hpl
open Go.Proofs.YtjhdmghpklagkaaGreat.Shf (wid BadW)

def lmK (bs : List Bk) (k : Nat) : Int := (bs.take k).foldl (fun a h => max a h.L) 0
theorem lmK_next {bs : List Bk} {k : Nat} (hk : k < bs.length) : lmK bs (k + 1) = max (lmK bs k) (bs.getD k k0).L := by
  unfold lmK
  rw [List.take_add_one, List.foldl_append]
  simp [hk]
theorem lmK_end (bs : List Bk) : lmK bs bs.length = mxl bs := by unfold lmK mxl; rw [List.take_length]
theorem big_next {bs : List Bk} {R R5 : List Q} {k m4 : Nat} {R4 : List Q} {q : Bk} (hS : Big R (sels bs [] 0 1000000000000 k) k) (HSE : sels bs [] 0 1000000000000 (k + 1) = sels bs [] 0 1000000000000 k ++ ansM q [] 0 1000000000000) (HOq : Okm (ansM q [] 0 1000000000000)) (HP4 : R4.map pl = ansM q [] 0 1000000000000) (HL4 : R4.length = m4)
    (h1 : R5.map pl = puts ltP jF (R.map pl) ((R4.take m4).map pl)) (h3 : ∀ z ∈ R5, z.s ≠ [] ∧ z.l.length ≤ 20 ∧ Lab.Fit z.l ∧ Smp.Fit z.s) : Big R5 (sels bs [] 0 1000000000000 (k + 1)) (k + 1) := by
  have e1 : R5.map pl = puts ltP jF (R.map pl) (ansM q [] 0 1000000000000) := by
    rw [h1, List.take_of_length_le (by rw [HL4]; exact Nat.le_refl _), HP4]
  refine ⟨by rw [e1, hS.is, HSE, puts_append], fun z hz => ?_⟩
  have hzm : pl z ∈ puts ltP jF (R.map pl) (ansM q [] 0 1000000000000) := by rw [← e1]; exact List.mem_map_of_mem hz
  obtain ⟨g1, g2, g4, g5⟩ := h3 z hz
  refine ⟨?_, g1, g2, ?_, g4, g5⟩
  · rcases puts_key (lt := ltP) (f := jF) (fun _ _ => rfl) _ _ _ hzm with ⟨v, hv, e⟩ | ⟨v, hv, e⟩
    · have := (HOq.one v hv).1
      rw [e] at this; exact this
    · obtain ⟨r, hr, rfl⟩ := List.mem_map.1 hv
      have := (hS.one r hr).l1
      intro h0
      exact this ((show r.l = z.l from e).trans h0)
  · have := puts_len (lt := ltP) (f := jF) (fun _ _ => rfl) (fun u v => Smp.mrg_len u.2 v.2) eqv_key (B := 2000 * k) (N := 2000) (fun v hv => by obtain ⟨r, hr, rfl⟩ := List.mem_map.1 hv; exact (hS.one r hr).s2) (fun v hv => (HOq.one v hv).2.2.2.1) HOq.dis (pl z) hzm
    have e2 : 2000 * (k + 1) = 2000 * k + 2000 := by omega
    rw [e2]; exact this

set_option maxRecDepth 10000 in
set_option maxHeartbeats 8000000 in
theorem f40 (b : Int) (a : Option Addr) (n c : Nat) (bs : List Bk) (w : World) (g : GoodK b bs) (hn : bs.length = n) (hr : HasK w a bs) (hf : FitK bs) (hz : SmlK bs) :
    Calls Tryz.prog 40 #[.int .i64 b, .slice a n c] w fun e w' => ∃ hG, e = .returned (.tuple #[agB hG, .bool (okB b bs)]) ∧ Hid (okM b bs → SameB (mbk b bs) hG ∧ Am w.heap.size hG w') ∧ Below w.heap.size w w' := by
  have HN := hid hn
  have HR := hid hr
  have HF := hid hf
  have HZ := hid hz
  have HGK := hid g
  have hn100 : n ≤ 100 := by rw [← hn]; exact g.2.1
  have hb12 := g.1
  have HO0 := hid (heap_alloc_new w Z5)
  have HB0 := hid ((Below.refl w.heap.size w).alloc (Nat.le_refl _) Z5)
  clear hn hr hf hz g
  go_enter Tryz.func40, Tryz.ntmps40
  go_wp2
  go_loopw [6, 15] (fun s6 si wr => ∃ (k : Nat) (m : Int), k ≤ n ∧ 0 ≤ m ∧ m ≤ 4 ∧ si = .int .i64 k ∧ s6 = .int .i64 m ∧ Hid (m = lmK bs k) ∧ Hid (wr.heap[w.heap.size]? = some Z5) ∧ Hid (Below w.heap.size w wr)) (fun _ si _ => n - (intOf si).toNat)
  case atStart => exact ⟨0, 0, Nat.zero_le _, by omega, by omega, rfl, rfl, rfl, HO0.out, HB0.out⟩
  case round =>
    clear HO0 HB0
    obtain ⟨k, m, hk, hm0, hm5, rfl, rfl, HM, HO, HB⟩ := hrel
    by_cases hlt : k < n
    · obtain ⟨bb, off, rfl, hbl, hcc, t1⟩ := (HR.out.below HB.out).at2 k (by rw [HN.out]; exact hlt)
      obtain ⟨c0, c1, c2, c3, c4⟩ := hcc
      have HLp := hid (lmK_next (show k < bs.length by rw [HN.out]; exact hlt))
      have hL := (HGK.out.2.2 k (by rw [HN.out]; exact hlt)).1
      generalize bs.getD k k0 = q at *
      have i1 : (k : Int) < (n : Int) := by omega
      have hl1 := hL.1
      have hl4 := hL.2
      have HW0 := hid ((Below.refl wr.heap.size wr).alloc (Nat.le_refl _) (.cells (clB q) 36))
      simp only [clB] at HW0
      have HB2 := hid (HB.out.trans (HW0.out.mono HB.out.size))
      have HO2 := hid (kept HO.out HW0.out)
      clear t1 hbl hL
      by_cases hgt : q.L > m
      · go_wp2
        go_roundw
        case rel => exact ⟨k + 1, q.L, by omega, by omega, by omega, by go_num, rfl, by unfold Hid; rw [HLp.out, ← HM.out]; omega, HO2.out, HB2.out⟩
        case measure => simp [intOf]; omega
      · have hgt2 : ¬ m < q.L := hgt
        clear hgt
        go_wp2
        go_roundw
        case rel => exact ⟨k + 1, m, by omega, by omega, by omega, by go_num, rfl, by unfold Hid; rw [HLp.out, ← HM.out]; omega, HO2.out, HB2.out⟩
        case measure => simp [intOf]; omega
    · obtain rfl : k = n := by omega
      have HLe : Hid (m = mxl bs) := by
        unfold Hid
        rw [HM.out, ← lmK_end bs, HN.out]
      have HWf := hid (fun z => Shf.f64 b (m + 1) z (by omega) (by omega) (by omega) (by omega))
      go_wp2_with fail
      refine (HWf.out _).mono ?_
      rintro e w3 ⟨rfl, hb3⟩
      have HB3 := hid (HB.out.trans (hb3.mono HB.out.size))
      have HO3 := hid (kept HO.out hb3)
      clear hb3 HB HO HWf
      by_cases hsl : 0 < k ∧ m + 1 ≤ 4
      rotate_left
      · have HNo : Hid (¬ okM b bs) := fun h => by
          have h0 : 0 < k := by rw [← HN.out]; exact h.1
          have e1 := HLe.out
          have h4 := h.2.1
          omega
        have HOk : Hid (okB b bs = false) := decide_eq_false HNo.out
        obtain ⟨e0, e1, e2, e3, e4⟩ := five HO3.out
        have u0 := five_frz (o := 0) HO3.out
        have u1 := five_frz (o := 1) HO3.out
        have u2 := five_frz (o := 2) HO3.out
        have u3 := five_frz (o := 3) HO3.out
        have u4 := five_frz (o := 4) HO3.out
        have HP : Hid ((put5 w3 w.heap.size (.int .i64 0) (.int .i64 0) (.int .i64 0) (.slice none 0 0) (.slice none 0 0)).heap[w.heap.size]? = some Z5 ∧ Below w.heap.size w (put5 w3 w.heap.size (.int .i64 0) (.int .i64 0) (.int .i64 0) (.slice none 0 0) (.slice none 0 0))) := ⟨put5_at HO3.out, put5_below HB3.out (Nat.le_refl _)⟩
        rw [put5] at HP
        by_cases hk0 : k = 0
        · subst hk0
          go_wp2
          generalize hwf : World.setCell _ _ _ = wf
          rw [hwf] at HP
          clear hwf
          refine bodyPost_ret (v := .tuple #[.agg #[.int .i64 0, .int .i64 0, .int .i64 0, .slice none 0 0, .slice none 0 0], .bool false]) ?_ rfl ⟨k0, by rw [HOk.out]; rfl, fun h => absurd h HNo.out, HP.out.2⟩
          obtain ⟨y0, y1, y2, y3, y4⟩ := five HP.out.1
          simp [results, Tryz.results40, go_sem, y0, y1, y2, y3, y4]
        · have hw0 : wid b (m + 1) = 0 := by
            unfold wid
            rw [if_pos (by unfold BadW; omega)]
          have hkk : ((k : Int) == 0) = false := by rw [beq_eq_false_iff_ne]; omega
          rw [hw0]
          go_wp2
          generalize hwf : World.setCell _ _ _ = wf
          rw [hwf] at HP
          clear hwf
          refine bodyPost_ret (v := .tuple #[.agg #[.int .i64 0, .int .i64 0, .int .i64 0, .slice none 0 0, .slice none 0 0], .bool false]) ?_ rfl ⟨k0, by rw [HOk.out]; rfl, fun h => absurd h HNo.out, HP.out.2⟩
          obtain ⟨y0, y1, y2, y3, y4⟩ := five HP.out.1
          simp [results, Tryz.results40, go_sem, y0, y1, y2, y3, y4]
      · have hk0 := hsl.1
        have h4 : mxl bs + 1 ≤ 4 := by have := HLe.out; omega
        have hwd := wdM_pos HGK.out h4
        have hfr := fr_le HGK.out h4 (by rw [HN.out]; exact hk0)
        have HWd : Hid (wid b (m + 1) = wdM b bs) := by unfold Hid wdM; rw [HLe.out]
        rw [HWd.out]
        obtain ⟨bb, off, hae, hbl, hcc, t1⟩ := (HR.out.below HB3.out).at2 0 (by rw [HN.out]; exact hk0)
        have c0 := hcc.1
        have h0g := (HGK.out.2.2 0 (by rw [HN.out]; exact hk0)).2.1.1
        unfold Blk.Head at h0g
        have HFr : Hid ((bs.getD 0 k0).F.tdiv (wdM b bs) * wdM b bs = frM b bs) := by
          unfold Hid frM
          rw [Int.tdiv_eq_ediv_of_nonneg (by omega)]
          have := Int.emod_add_mul_ediv (bs.getD 0 k0).F (wdM b bs)
          rw [Int.mul_comm]; omega
        have HTo : Hid (toM b bs = frM b bs + wdM b bs) := rfl
        subst hae
        simp only [Nat.zero_mul, Nat.add_zero] at c0
        have hq0 : 0 ≤ (bs.getD 0 k0).F.tdiv (wdM b bs) ∧ (bs.getD 0 k0).F.tdiv (wdM b bs) ≤ 1000000000000 := by
          refine ⟨Int.tdiv_nonneg (by omega) (by omega), ?_⟩
          have := Int.tdiv_le_self (a := (bs.getD 0 k0).F) (wdM b bs) (by omega)
          omega
        clear hcc t1 hbl
        generalize (bs.getD 0 k0).F = F0 at *
        generalize hfv : frM b bs = fv at *
        generalize hwv : wdM b bs = wv at *
        have HVs := hid (And.intro hfv hwv)
        clear hfv hwv
        have hwn : ¬ wv = 0 := by omega
        have hwe : (wv == 0) = false := by rw [beq_eq_false_iff_ne]; omega
        have hkk : ((k : Int) == 0) = false := by rw [beq_eq_false_iff_ne]; omega
        have i2 : (0 : Int) < (k : Int) := by omega
        have hf0 := hfr.1
        have hf1 := hfr.2.2
        have hw0 := hwd.1
        have hw1 := hwd.2
        generalize hdv : F0.tdiv wv = dv at *
        have hmul : dv * wv = fv := HFr.out
        have HB4 := hid ((Below.refl w3.heap.size w3).alloc (Nat.le_refl _) (.cells #[.int .i64 fv, .int .i64 0, .int .i64 (m + 1), .slice none 0 0, .slice none 0 0] 36))
        have HX4 := hid (heap_alloc_new w3 (.cells #[.int .i64 fv, .int .i64 0, .int .i64 (m + 1), .slice none 0 0, .slice none 0 0] 36))
        obtain ⟨W4, hW4⟩ : ∃ W, W = w3.alloc (.cells #[.int .i64 fv, .int .i64 0, .int .i64 (m + 1), .slice none 0 0, .slice none 0 0] 36) := ⟨_, rfl⟩
        rw [← hW4] at HB4 HX4
        go_upto_region 13 with fail
        rw [← hW4]
        clear hW4 hmul hdv c0
        obtain ⟨x0, x1, x2, x3, x4⟩ := five HX4.out
        have xf := five_frz (o := 1) HX4.out
        have HX5 := hid (set_at (i := 1) (v := .int .i64 (fv + wv)) HX4.out)
        simp only [List.setIfInBounds_toArray, List.set_cons_zero, List.set_cons_succ] at HX5
        have hOB : w.heap.size < w3.heap.size := lt_at HO3.out
        have HO5 : Hid ((W4.setCell ⟨w3.heap.size, 1, none⟩ (.int .i64 (fv + wv))).heap[w.heap.size]? = some Z5) := Srs.set_else (kept HO3.out HB4.out) (by simp only; omega)
        have HB5 : Hid (Below w.heap.size w (W4.setCell ⟨w3.heap.size, 1, none⟩ (.int .i64 (fv + wv)))) := (HB3.out.trans (HB4.out.mono HB3.out.size)).setCell (p := ⟨w3.heap.size, 1, none⟩) HB3.out.size _
        obtain ⟨W5, hW5⟩ : ∃ W, W = W4.setCell ⟨w3.heap.size, 1, none⟩ (.int .i64 (fv + wv)) := ⟨_, rfl⟩
        rw [← hW5] at HX5 HO5 HB5
        go_upto_region 14 with fail
        rw [← hW5]
        clear hW5 x0 x1 x2 x3 x4 xf HX4 HB4 HO3 HB3
        generalize w3.heap.size = OB at *
        have hOW : w.heap.size ≤ OB := Nat.le_of_lt hOB
        have hlm : m + 1 ≤ 4 := hsl.2
        clear hsl
        go_wp2
        go_loopw [56] (fun si wr => ∃ (j mm c' : Nat) (a' : Option Addr) (R : List Q), j ≤ k ∧ mm ≤ 200 * j ∧ si = .int .i64 j ∧ Hid (OwnO (OB + 1) a' mm c' R wr) ∧ Hid (Big R (sels bs [] 0 1000000000000 j) j) ∧ Hid (∀ i, i < j → (bs.getD i k0).T ≤ fv + wv) ∧ Hid (wr.heap[OB]? = some (.cells #[.int .i64 fv, .int .i64 (fv + wv), .int .i64 (m + 1), .slice a' mm c', .slice none 0 0] 36)) ∧ Hid (wr.heap[w.heap.size]? = some Z5) ∧ Hid (Below w.heap.size w wr)) (fun si _ => k - (intOf si).toNat)
        case atStart => exact ⟨0, 0, 0, none, [], Nat.zero_le _, Nat.le_refl _, rfl, OwnO.nil _ _, ⟨by simp [sels, puts], fun q hq => by simp at hq⟩, fun i hi => by omega, HX5.out, HO5.out, HB5.out⟩
        case round =>
          clear HX5 HO5 HB5
          obtain ⟨j, mm, c', a', R, hj, hmm, rfl, HG, HBg, HTi, HX, HO, HB⟩ := hrel
          obtain ⟨x0, x1, x2, x3, x4⟩ := five HX.out
          by_cases hlt2 : j < k
          · obtain ⟨bb2, off2, hae2, hbl, hcc, t1⟩ := (HR.out.below HB.out).at2 j (by rw [HN.out]; exact hlt2)
            have eab : bb2 = bb ∧ off2 = off := by simp only [Option.some.injEq, Addr.mk.injEq, and_true] at hae2; exact ⟨hae2.1.symm, hae2.2.symm⟩
            obtain ⟨rfl, rfl⟩ := eab
            obtain ⟨c0, c1, c2, c3, c4⟩ := hcc
            have HGq := hid (HGK.out.2.2 j (by rw [HN.out]; exact hlt2)).2.1
            have HZq := hid (HZ.out j (by rw [HN.out]; exact hlt2))
            have HFq := hid (HF.out j)
            have HOq := hid (ans_okm (ms := []) (x := 0) (y := 1000000000000) HGq.out HFq.out)
            have HSE := hid (sels_next (ms := []) (x := 0) (y := 1000000000000) (show j < bs.length by rw [HN.out]; exact hlt2))
            have HTq : Hid ((bs.getD j k0).T ≤ fv + wv → ∀ i, i < j + 1 → (bs.getD i k0).T ≤ fv + wv) := fun h i hi => by
              by_cases e : i = j
              · rw [e]; exact h
              · exact HTi.out i (by omega)
            have HTn : Hid (¬ (bs.getD j k0).T ≤ fv + wv → ¬ InM b bs) := fun h g => h (by have := g j (by rw [HN.out]; exact hlt2); rw [HTo.out] at this; exact this)
            generalize bs.getD j k0 = q at *
            have i1 : (j : Int) < (k : Int) := by omega
            have HW0 := hid ((Below.refl wr.heap.size wr).alloc (Nat.le_refl _) (.cells (clB q) 36))
            have HQb := hid (heap_alloc_new wr (.cells (clB q) 36))
            have HT1 := hid (t1.below HW0.out)
            obtain ⟨V, hV⟩ : ∃ V, V = wr.alloc (.cells (clB q) 36) := ⟨_, rfl⟩
            rw [← hV] at HW0 HQb HT1
            have HXv := hid (kept HX.out HW0.out)
            have HOv := hid (kept HO.out HW0.out)
            have HGv := hid (HG.out.below HW0.out)
            have hX0 : w.heap.size ≤ wr.heap.size := HB.out.size
            have HBv := hid (HB.out.trans (HW0.out.mono hX0))
            have hOBl : OB < wr.heap.size := lt_at HX.out
            have HGl := hid HG.out.len
            simp only [clB] at HQb hV
            go_upto_region 17 with fail
            rw [← hV]
            clear hV c0 c1 c2 c3 c4 t1 hbl x0 x1 x2 x3 x4 HX HO HG HB
            generalize wr.heap.size = Bq at *
            obtain ⟨x0, x1, x2, x3, x4⟩ := five HXv.out
            obtain ⟨q0', q1', q2', q3', q4'⟩ := five HQb.out
            by_cases hgt : fv + wv < q.T
            · have HNo : Hid (¬ okM b bs) := fun h => HTn.out (by omega) h.2.2.1
              have HOk : Hid (okB b bs = false) := decide_eq_false HNo.out
              obtain ⟨e0, e1, e2, e3, e4⟩ := five HOv.out
              have u0 := five_frz (o := 0) HOv.out
              have u1 := five_frz (o := 1) HOv.out
              have u2 := five_frz (o := 2) HOv.out
              have u3 := five_frz (o := 3) HOv.out
              have u4 := five_frz (o := 4) HOv.out
              have HP : Hid ((put5 V w.heap.size (.int .i64 0) (.int .i64 0) (.int .i64 0) (.slice none 0 0) (.slice none 0 0)).heap[w.heap.size]? = some Z5 ∧ Below w.heap.size w (put5 V w.heap.size (.int .i64 0) (.int .i64 0) (.int .i64 0) (.slice none 0 0) (.slice none 0 0))) := ⟨put5_at HOv.out, put5_below HBv.out (Nat.le_refl _)⟩
              rw [put5] at HP
              go_wp2
              generalize hwf : World.setCell _ _ _ = wf
              rw [hwf] at HP
              clear hwf
              refine bodyPost_ret (v := .tuple #[.agg #[.int .i64 0, .int .i64 0, .int .i64 0, .slice none 0 0, .slice none 0 0], .bool false]) ?_ rfl ⟨k0, by rw [HOk.out]; rfl, fun h => absurd h HNo.out, HP.out.2⟩
              obtain ⟨y0, y1, y2, y3, y4⟩ := five HP.out.1
              simp [results, Tryz.results40, go_sem, y0, y1, y2, y3, y4]
            · have HTk := hid (HTq.out (by omega))
              go_wp2_with fail
              have hdr : Below V.heap.size V V.drew := (Below.refl _ _).drew
              have HQd := hid (kept HQb.out hdr)
              have HXd := hid (kept HXv.out hdr)
              have HOd := hid (kept HOv.out hdr)
              have HGd := hid (HGv.out.below hdr)
              have HTd := hid (HT1.out.below hdr)
              have hVl : OB < V.drew.heap.size := lt_at HXd.out
              have hVq : Bq < V.drew.heap.size := lt_at HQd.out
              have HBd := hid (HBv.out.trans (hdr.mono HBv.out.size))
              clear hdr HQb HXv HOv HGv HT1 HBv x0 x1 x2 x3 x4 q0' q1' q2' q3' q4' hgt
              have HSel := hid (f75 q none 0 [] 0 1000000000000 V.drew HTd.out HFq.out HZq.out HGq.out (.inl rfl) goodM_nil)
              simp only [agB, clB, List.length_nil] at HSel
              have x3 := (five HXd.out).2.2.2.1
              have hBO : Bq ≠ OB := by omega
              refine wp_region_held_drew (S := fun x => x.cell? ⟨Bq, 0, none⟩ = some (.int .i64 q.F) ∧ x.cell? ⟨Bq, 1, none⟩ = some (.int .i64 q.T) ∧ x.cell? ⟨Bq, 2, none⟩ = some (.int .i64 q.L) ∧ x.cell? ⟨Bq, 3, none⟩ = some (.slice q.a q.qs.length q.c) ∧ x.cell? ⟨Bq, 4, none⟩ = some (.slice q.b q.ts.length q.d)) rfl (five HQd.out) (fun hHeld => ?_)
              generalize V.drew = D at *
              refine tkH 0 (some 66) (.pointer (some ⟨OB, 3, none⟩)) rfl ?_
              simp only [Act.put, zzA, zzB, zzC]
              refine tkH 2 (some 68) (.agg #[.int .i64 q.F, .int .i64 q.T, .int .i64 q.L, .slice q.a q.qs.length q.c, .slice q.b q.ts.length q.d]) rfl ?_
              simp only [Act.put, zzA, zzB, zzC]
              refine wpAnyH_ready (rs := [1, 3]) (by kernel_rfl) (by simp) (AllReadyH.cons (o := { dst := some 67, op := _, type := _, pos := _, after := _, guard := _ }) rfl ?_ (AllReadyH.cons (o := { dst := some 69, op := _, type := _, pos := _, after := _, guard := _ }) rfl ?_ AllReadyH.nil))
              · intro K0 hK0
                go_simp
                refine hK0.out _ _ hHeld (fun _ => ?_)
                clear hK0 K0
                refine wpAnyH_ready (rs := [3]) (by kernel_rfl) (by simp) (AllReadyH.cons (o := { dst := some 69, op := _, type := _, pos := _, after := _, guard := _ }) rfl ?_ AllReadyH.nil)
                intro K1 hK1
                go_simp
                go_wp2_with (go_at_call 75; refine HSel.out.mono ?_; rintro e w4 ⟨a4, m4, c4', R4, rfl, HO4, HP4, hb4⟩)
                have HQ4 := hid (kept HQd.out hb4)
                have HX4 := hid (kept HXd.out hb4)
                have HOr4 := hid (kept HOd.out hb4)
                have HG4 := hid (HGd.out.below hb4)
                have HB4 := hid (HBd.out.trans (hb4.mono HBd.out.size))
                have hw4 : D.heap.size ≤ w4.heap.size := hb4.size
                have hl4 : m4 ≤ 200 := by
                  have h1 := HOq.out.len
                  rw [← HP4.out, List.length_map, HO4.out.len] at h1
                  exact h1
                have HMg := hid (Srs.f74 a' a4 mm m4 c' c4' (2000 * j) R R4 w4 HGl.out HO4.out.len (by omega) (by omega) hl4 HG4.out.has HO4.out.has HBg.out.one (HOq.out.mq HP4.out))
                have HL4 := hid HO4.out.len
                refine hK1.out _ _ (five HQ4.out) (fun _ => ?_)
                clear hK1 K1 hb4 HSel HXd HOd HGd HBd HQd hHeld
                refine wpAnyH_ready (rs := [4]) (by kernel_rfl) (by simp) (AllReadyH.cons (o := { dst := some 70, op := _, type := _, pos := _, after := _, guard := _ }) rfl ?_ AllReadyH.nil)
                intro K2 hK2
                go_simp
                go_wp2_with (go_at_call 74; refine HMg.out.mono ?_; rintro e w5 ⟨a5, m5, c5, R5, rfl, ho5, hr5, hm5, hb5⟩)
                have HQ5 := hid (kept HQ4.out hb5)
                have HX5 := hid (kept HX4.out hb5)
                have HOr5 := hid (kept HOr4.out hb5)
                have HB5 := hid (HB4.out.trans (hb5.mono HB4.out.size))
                have HG5 := hid (OwnO_base ho5 (show OB + 1 ≤ w4.heap.size by omega))
                have HBg5 := hid (big_next HBg.out HSE.out HOq.out HP4.out HL4.out hr5.1 (fun z hz => by obtain ⟨g1, g2, _, g4, g5⟩ := hr5.2 z hz; exact ⟨g1, g2, g4, g5⟩))
                have hs5 := five HQ5.out
                refine hK2.out _ _ hs5 (fun _ => ?_)
                clear hK2 K2 hb5 ho5 hr5 HMg
                refine tkH 5 (some 71) (.pointer (some ⟨OB, 3, none⟩)) rfl ?_
                simp only [Act.put, zzA, zzB, zzC]
                refine wpAnyH_ready (rs := [6]) (by kernel_rfl) (by simp) (AllReadyH.cons (o := { dst := none, op := _, type := _, pos := _, after := _, guard := _ }) rfl ?_ AllReadyH.nil)
                intro K3 hK3
                have z3 := (five HX5.out).2.2.2.1
                have zf := five_frz (o := 3) HX5.out
                go_simp
                have HX6 := hid (set_at (i := 3) (v := .slice a5 m5 c5) HX5.out)
                simp only [List.setIfInBounds_toArray, List.set_cons_zero, List.set_cons_succ] at HX6
                have HO6 : Hid ((w5.setCell ⟨OB, 3, none⟩ (.slice a5 m5 c5)).heap[w.heap.size]? = some Z5) := Srs.set_else HOr5.out (by simp only; omega)
                have HQ6 : Hid ((w5.setCell ⟨OB, 3, none⟩ (.slice a5 m5 c5)).heap[Bq]? = some (.cells #[.int .i64 q.F, .int .i64 q.T, .int .i64 q.L, .slice q.a q.qs.length q.c, .slice q.b q.ts.length q.d] 36)) := Srs.set_else HQ5.out (by simp only; omega)
                have HB6 : Hid (Below w.heap.size w (w5.setCell ⟨OB, 3, none⟩ (.slice a5 m5 c5))) := HB5.out.setCell (p := ⟨OB, 3, none⟩) hOW _
                have HG6 : Hid (OwnO (OB + 1) a5 m5 c5 R5 (w5.setCell ⟨OB, 3, none⟩ (.slice a5 m5 c5))) := owno_off HG5.out (set_gr _ _ _ _) (by omega)
                generalize hwf : World.setCell _ _ _ = wf
                rw [hwf] at HX6 HO6 HQ6 HB6 HG6
                clear hwf z3 zf
                refine hK3.out _ _ (five HQ6.out) (fun _ => ?_)
                clear hK3 K3 hs5
                refine wpAnyH_done (by kernel_rfl) ?_ _
                clear HQ4 HX4 HOr4 HG4 HB4 HQ5 HX5 HOr5 HG5 HB5 HQ6
                go_wp2
                go_roundw
                case rel => exact ⟨j + 1, m5, c5, a5, R5, by omega, by omega, by go_num, HG6.out, HBg5.out, HTk.out, HX6.out, HO6.out, HB6.out⟩
                case measure => simp [intOf]; omega
              · intro K1 hK1
                go_simp
                go_wp2_with (go_at_call 75; refine HSel.out.mono ?_; rintro e w4 ⟨a4, m4, c4', R4, rfl, HO4, HP4, hb4⟩)
                have HQ4 := hid (kept HQd.out hb4)
                have HX4 := hid (kept HXd.out hb4)
                have HOr4 := hid (kept HOd.out hb4)
                have HG4 := hid (HGd.out.below hb4)
                have HB4 := hid (HBd.out.trans (hb4.mono HBd.out.size))
                have hw4 : D.heap.size ≤ w4.heap.size := hb4.size
                have hl4 : m4 ≤ 200 := by
                  have h1 := HOq.out.len
                  rw [← HP4.out, List.length_map, HO4.out.len] at h1
                  exact h1
                have HMg := hid (Srs.f74 a' a4 mm m4 c' c4' (2000 * j) R R4 w4 HGl.out HO4.out.len (by omega) (by omega) hl4 HG4.out.has HO4.out.has HBg.out.one (HOq.out.mq HP4.out))
                have HL4 := hid HO4.out.len
                refine hK1.out _ _ (five HQ4.out) (fun _ => ?_)
                clear hK1 K1 hb4 HSel HXd HOd HGd HBd HQd hHeld
                have x3b := (five HX4.out).2.2.2.1
                refine wpAnyH_ready (rs := [1]) (by kernel_rfl) (by simp) (AllReadyH.cons (o := { dst := some 67, op := _, type := _, pos := _, after := _, guard := _ }) rfl ?_ AllReadyH.nil)
                intro K0 hK0
                go_simp
                refine hK0.out _ _ (five HQ4.out) (fun _ => ?_)
                clear hK0 K0
                clear x3b
                refine wpAnyH_ready (rs := [4]) (by kernel_rfl) (by simp) (AllReadyH.cons (o := { dst := some 70, op := _, type := _, pos := _, after := _, guard := _ }) rfl ?_ AllReadyH.nil)
                intro K2 hK2
                go_simp
                go_wp2_with (go_at_call 74; refine HMg.out.mono ?_; rintro e w5 ⟨a5, m5, c5, R5, rfl, ho5, hr5, hm5, hb5⟩)
                have HQ5 := hid (kept HQ4.out hb5)
                have HX5 := hid (kept HX4.out hb5)
                have HOr5 := hid (kept HOr4.out hb5)
                have HB5 := hid (HB4.out.trans (hb5.mono HB4.out.size))
                have HG5 := hid (OwnO_base ho5 (show OB + 1 ≤ w4.heap.size by omega))
                have HBg5 := hid (big_next HBg.out HSE.out HOq.out HP4.out HL4.out hr5.1 (fun z hz => by obtain ⟨g1, g2, _, g4, g5⟩ := hr5.2 z hz; exact ⟨g1, g2, g4, g5⟩))
                have hs5 := five HQ5.out
                refine hK2.out _ _ hs5 (fun _ => ?_)
                clear hK2 K2 hb5 ho5 hr5 HMg
                refine tkH 5 (some 71) (.pointer (some ⟨OB, 3, none⟩)) rfl ?_
                simp only [Act.put, zzA, zzB, zzC]
                refine wpAnyH_ready (rs := [6]) (by kernel_rfl) (by simp) (AllReadyH.cons (o := { dst := none, op := _, type := _, pos := _, after := _, guard := _ }) rfl ?_ AllReadyH.nil)
                intro K3 hK3
                have z3 := (five HX5.out).2.2.2.1
                have zf := five_frz (o := 3) HX5.out
                go_simp
                have HX6 := hid (set_at (i := 3) (v := .slice a5 m5 c5) HX5.out)
                simp only [List.setIfInBounds_toArray, List.set_cons_zero, List.set_cons_succ] at HX6
                have HO6 : Hid ((w5.setCell ⟨OB, 3, none⟩ (.slice a5 m5 c5)).heap[w.heap.size]? = some Z5) := Srs.set_else HOr5.out (by simp only; omega)
                have HQ6 : Hid ((w5.setCell ⟨OB, 3, none⟩ (.slice a5 m5 c5)).heap[Bq]? = some (.cells #[.int .i64 q.F, .int .i64 q.T, .int .i64 q.L, .slice q.a q.qs.length q.c, .slice q.b q.ts.length q.d] 36)) := Srs.set_else HQ5.out (by simp only; omega)
                have HB6 : Hid (Below w.heap.size w (w5.setCell ⟨OB, 3, none⟩ (.slice a5 m5 c5))) := HB5.out.setCell (p := ⟨OB, 3, none⟩) hOW _
                have HG6 : Hid (OwnO (OB + 1) a5 m5 c5 R5 (w5.setCell ⟨OB, 3, none⟩ (.slice a5 m5 c5))) := owno_off HG5.out (set_gr _ _ _ _) (by omega)
                generalize hwf : World.setCell _ _ _ = wf
                rw [hwf] at HX6 HO6 HQ6 HB6 HG6
                clear hwf z3 zf
                refine hK3.out _ _ (five HQ6.out) (fun _ => ?_)
                clear hK3 K3 hs5
                refine wpAnyH_done (by kernel_rfl) ?_ _
                clear HQ4 HX4 HOr4 HG4 HB4 HQ5 HX5 HOr5 HG5 HB5 HQ6
                go_wp2
                go_roundw
                case rel => exact ⟨j + 1, m5, c5, a5, R5, by omega, by omega, by go_num, HG6.out, HBg5.out, HTk.out, HX6.out, HO6.out, HB6.out⟩
                case measure => simp [intOf]; omega
          · obtain rfl : j = k := by omega
            have HIm : Hid (InM b bs) := fun i hi => by rw [HTo.out]; exact HTi.out i (by rw [← HN.out]; exact hi)
            have HR4 : Hid (R.map pl = srM bs) := by
              unfold Hid srM shl
              rw [HBg.out.is, HN.out]
            have hml := HG.out.len
            have hfit := Big.fit HBg.out hn100
            have HFB : Hid (FitB ⟨fv, fv + wv, m + 1, R, a', c', [], none, 0⟩) := ⟨⟨by show (-9223372036854775808 : Int) ≤ fv; omega, by show fv ≤ 9223372036854775807; omega⟩, ⟨by show (-9223372036854775808 : Int) ≤ fv + wv; omega, by show fv + wv ≤ 9223372036854775807; omega⟩, ⟨by show (-9223372036854775808 : Int) ≤ m + 1; omega, by show m + 1 ≤ 9223372036854775807; omega⟩, hfit.1, by show R.length ≤ maxLen; unfold maxLen; omega, (fun i => by simp only [List.getD_nil]; exact Stn.fit_t0), Nat.zero_le _⟩
            have HSB : Hid (SmlB ⟨fv, fv + wv, m + 1, R, a', c', [], none, 0⟩) := ⟨by show R.length ≤ 1048576; omega, hfit.2, Nat.zero_le _, fun i hi => by simp at hi⟩
            have HSame : Hid (SameB (mbk b bs) ⟨fv, fv + wv, m + 1, R, a', c', [], none, 0⟩) := by
              have h1 := same_mbk (b := b) (a := a') (c := c') HR4.out
              rw [HTo.out, HVs.out.1, ← HLe.out] at h1
              exact h1
            have HGd : Hid (gdB ⟨fv, fv + wv, m + 1, R, a', c', [], none, 0⟩ = okB b bs) := by
              unfold Hid
              rw [HSame.out.gd]
              unfold gdB okB
              exact decide_eq_decide.2 ⟨fun h => ⟨by rw [HN.out]; omega, h4, HIm.out, h⟩, fun h => h.2.2.2⟩
            subst hml
            clear hfit x0 x1 x2 x3 x4
            go_upto_region 21 with fail
            have hdr : Below wr.heap.size wr wr.drew := (Below.refl _ _).drew
            have HXd := hid (kept HX.out hdr)
            have HOd := hid (kept HO.out hdr)
            have HGd5 := hid (HG.out.below hdr)
            have HBd := hid (HB.out.trans (hdr.mono HB.out.size))
            clear hdr HX HO HG HB
            have HGB := hid (f65 ⟨fv, fv + wv, m + 1, R, a', c', [], none, 0⟩ wr.drew ⟨HGd5.out.has, .inl rfl⟩ HFB.out HSB.out)
            rw [HGd.out] at HGB
            simp only [agB, clB, List.length_nil] at HGB
            refine wp_region_held_drew (S := fun x => x.cell? ⟨OB, 0, none⟩ = some (.int .i64 fv) ∧ x.cell? ⟨OB, 1, none⟩ = some (.int .i64 (fv + wv)) ∧ x.cell? ⟨OB, 2, none⟩ = some (.int .i64 (m + 1)) ∧ x.cell? ⟨OB, 3, none⟩ = some (.slice a' R.length c') ∧ x.cell? ⟨OB, 4, none⟩ = some (.slice none 0 0)) rfl (five HXd.out) (fun hHeld => ?_)
            generalize wr.drew = V at *
            refine tkH 0 (some 73) (.agg #[.int .i64 fv, .int .i64 (fv + wv), .int .i64 (m + 1), .slice a' R.length c', .slice none 0 0]) rfl ?_
            simp only [Act.put, zzA, zzB, zzC]
            refine tkH 1 (some 74) (.agg #[.int .i64 fv, .int .i64 (fv + wv), .int .i64 (m + 1), .slice a' R.length c', .slice none 0 0]) rfl ?_
            simp only [Act.put, zzA, zzB, zzC]
            refine wpAnyH_ready (rs := [2]) (by kernel_rfl) (by simp) (AllReadyH.cons (o := { dst := some 75, op := _, type := _, pos := _, after := _, guard := _ }) rfl ?_ AllReadyH.nil)
            intro K1 hK1
            go_simp
            go_wp2_with (go_at_call 65; refine HGB.out.mono ?_; rintro e w6 ⟨rfl, hb6⟩)
            have HX6 := hid (kept HXd.out hb6)
            have HO6 := hid (kept HOd.out hb6)
            have HG6 := hid (HGd5.out.below hb6)
            have HB6 := hid (HBd.out.trans (hb6.mono HBd.out.size))
            have hs6 := five HX6.out
            refine hK1.out _ _ hs6 (fun _ => ?_)
            clear hK1 K1 hb6 HXd HOd HGd5 HBd hHeld HGB
            obtain ⟨e0, e1, e2, e3, e4⟩ := five HO6.out
            have u0 := five_frz (o := 0) HO6.out
            have u1 := five_frz (o := 1) HO6.out
            have u2 := five_frz (o := 2) HO6.out
            have u3 := five_frz (o := 3) HO6.out
            have u4 := five_frz (o := 4) HO6.out
            refine wpAnyH_ready (rs := [3]) (by kernel_rfl) (by simp) (AllReadyH.cons (o := { dst := none, op := _, type := _, pos := _, after := _, guard := _ }) rfl ?_ AllReadyH.nil)
            intro K3 hK3
            go_simp
            have HP : Hid ((put5 w6 w.heap.size (.int .i64 fv) (.int .i64 (fv + wv)) (.int .i64 (m + 1)) (.slice a' R.length c') (.slice none 0 0)).heap[w.heap.size]? = some (.cells #[.int .i64 fv, .int .i64 (fv + wv), .int .i64 (m + 1), .slice a' R.length c', .slice none 0 0] 36) ∧ Below w.heap.size w (put5 w6 w.heap.size (.int .i64 fv) (.int .i64 (fv + wv)) (.int .i64 (m + 1)) (.slice a' R.length c') (.slice none 0 0)) ∧ OwnO (OB + 1) a' R.length c' R (put5 w6 w.heap.size (.int .i64 fv) (.int .i64 (fv + wv)) (.int .i64 (m + 1)) (.slice a' R.length c') (.slice none 0 0)) ∧ (put5 w6 w.heap.size (.int .i64 fv) (.int .i64 (fv + wv)) (.int .i64 (m + 1)) (.slice a' R.length c') (.slice none 0 0)).heap[OB]? = w6.heap[OB]?) := ⟨put5_at HO6.out, put5_below HB6.out (Nat.le_refl _), owno_off HG6.out (put5_gr _ _ _ _ _ _ _) (by omega), (put5_gr w6 w.heap.size _ _ _ _ _).block OB (lt_at HX6.out) (fun e => by have := Option.some.inj e; omega)⟩
            rw [put5] at HP
            generalize hwf : World.setCell _ _ _ = wf
            rw [hwf] at HP
            clear hwf e0 e1 e2 e3 e4 u0 u1 u2 u3 u4 hs6
            have hs7 := five (HP.out.2.2.2.trans HX6.out)
            refine hK3.out _ _ hs7 (fun _ => ?_)
            clear hK3 K3
            refine tkH 4 (some 5) (.bool (okB b bs)) rfl ?_
            simp only [Act.put, zzA, zzB, zzC]
            refine wpAnyH_done (by kernel_rfl) ?_ _
            clear hs7
            go_wp2
            refine bodyPost_ret (v := .tuple #[.agg #[.int .i64 fv, .int .i64 (fv + wv), .int .i64 (m + 1), .slice a' R.length c', .slice none 0 0], .bool (okB b bs)]) ?_ rfl ⟨⟨fv, fv + wv, m + 1, R, a', c', [], none, 0⟩, rfl, fun _ => ⟨HSame.out, OwnO_base HP.out.2.2.1 (by omega), rfl, rfl, rfl⟩, HP.out.2.1⟩
            obtain ⟨y0, y1, y2, y3, y4⟩ := five HP.out.1
            simp [results, Tryz.results40, go_sem, y0, y1, y2, y3, y4]
end Go.Proofs.YtjhdmghpklagkaaGreat.Mgb
