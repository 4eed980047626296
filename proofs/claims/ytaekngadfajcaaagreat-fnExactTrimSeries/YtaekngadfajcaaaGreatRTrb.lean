/- Series trimmed by needs: the program's spansNeeded, samplesCovered, areNeeds. -/
import Derived.Test.YtaekngadfajcaaaGreatRTra
import Derived.Test.YtaekngadfajcaaaGreatRTg
namespace Go.Proofs.YtaekngadfajcaaaGreat.Trm
open Go.RowKit
open Go.Proofs.YtaekngadfajcaaaGreat.Lab (Lb HasL OfV GoodP)
open Go.Proofs.YtaekngadfajcaaaGreat.Smp (Sm HasS In64 ret_bool)
open Go.Proofs.YtaekngadfajcaaaGreat.Pat (Mt HasM goodM allM FitM)
open Go.Proofs.YtaekngadfajcaaaGreat.Srs (Q HasQ Vf gdQ GoodQ q0)
open Go.Proofs.YtaekngadfajcaaaGreat.Ned (T HasT t0)

theorem infoM : (Tryz.prog.info? 78).map (fun i => (i.zero, i.size, i.bytes)) = some (some (.agg #[.int .i64 0, .int .i64 0]), 2, 16) := by kernel_rfl
set_option maxHeartbeats 4000000 in
theorem f24 (a a' : Option Addr) (c n' c' : Nat) (ls L : List Sm) (w : World) (h20 : ls.length ≤ 1048576) (hn' : L.length = n') (h60 : n' ≤ 1000) (hr : HasS w a ls) (hr' : Spn.HasS w a' L) :
    Calls Tryz.prog 24 #[.slice a ls.length c, .slice a' n' c'] w fun e w' => ∃ v, e = .returned v ∧ Smp.Own w' w.heap.size v (ls.filter fun s => L.any fun p => hasB p s.1) ∧ Below w.heap.size w w' := by
  obtain ⟨i0, hi, hz0, hz1, hz2⟩ := info_parts infoM
  have HN' := hid hn'
  have HR := hid hr
  have HR' := hid hr'
  clear hn' hr hr'
  generalize hn : ls.length = n at *
  have HN := hid hn
  clear hn
  go_enter Tryz.func24, Tryz.ntmps24
  go_wp2
  go_loopw [5, 10] (fun so si wr => ∃ (k m co : Nat) (ao : Option Addr) (O : List Sm), k ≤ n ∧ si = .int .i64 k ∧ so = .slice ao m co ∧ Hid (Smp.Own wr w.heap.size (.slice ao m co) O) ∧ Hid (O = (ls.take k).filter fun s => L.any fun p => hasB p s.1) ∧ m ≤ k ∧ Hid (Below w.heap.size w wr)) (fun _ si _ => n - (intOf si).toNat)
  case atStart => exact ⟨0, 0, 0, none, [], Nat.zero_le _, rfl, rfl, Smp.Own.nil _ _, by simp [Hid], Nat.le_refl _, Below.refl _ _⟩
  case round =>
    obtain ⟨k, m, co, ao, O, hk, rfl, rfl, HO, HS, hmk, HX⟩ := hrel
    by_cases hlt : k < n
    rotate_left
    · obtain rfl : k = n := by omega
      have HE : Hid (O = ls.filter fun s => L.any fun p => hasB p s.1) := by
        unfold Hid; rw [HS.out, List.take_of_length_le (by rw [HN.out]; exact Nat.le_refl _)]
      go_wp2
      go_ret
      exact ⟨_, rfl, by rw [← HE.out]; exact HO.out, HX.out⟩
    rcases HR.out with hr | ⟨b, off, rfl, hbl, hcs⟩
    · exact absurd HN.out (by rw [hr]; simp; omega)
    obtain ⟨c0, c1⟩ := hcs k (by rw [HN.out]; exact hlt)
    have d0 := (HX.out.cell (p := ⟨b, off + k * 2, none⟩) hbl).trans c0
    have d1 := (HX.out.cell (p := ⟨b, off + k * 2 + 1, none⟩) hbl).trans c1
    have HST := hid (filter_step (fun s => L.any fun p => hasB p s.1) ls k (by rw [HN.out]; exact hlt))
    obtain rfl : m = O.length := HO.out.has.1
    clear hcs c0 c1 hbl
    generalize ls.getD k Smp.e0 = p at *
    obtain ⟨s, t⟩ := p
    simp only at d0 d1
    obtain ⟨W, hW⟩ : ∃ W, W = wr.alloc (.cells #[.int .i64 s, .int .i64 t] 78) := ⟨_, rfl⟩
    have HW0 : Hid (Below wr.heap.size wr W ∧ W.heap[wr.heap.size]? = some (.cells #[.int .i64 s, .int .i64 t] 78) ∧ W.heap.size = wr.heap.size + 1) := by
      subst hW; exact ⟨(Below.refl _ _).alloc (Nat.le_refl _) _, heap_alloc_new wr _, by simp⟩
    have e0 : W.cell? ⟨wr.heap.size, 0, none⟩ = some (.int .i64 s) := Smp.two0 HW0.out.2.1
    have hB : wr.heap.size < W.heap.size := by have := HW0.out.2.2; omega
    have HXW := hid (HX.out.trans (HW0.out.1.mono HX.out.size))
    go_wp2_with fail
    rw [← hW]
    refine (f53 a' n' c' L s wr.heap.size _ HN'.out h60 (HR'.out.below HXW.out) hB e0).mono ?_
    rintro e w1 ⟨rfl, hb1⟩
    have HW1 := hid (HW0.out.1.trans (hb1.mono HW0.out.1.size))
    have HB1 := hid ((hb1.block wr.heap.size hB).trans HW0.out.2.1)
    have HX1 := hid (HX.out.trans (HW1.out.mono HX.out.size))
    have HO1 := hid (HO.out.below HW1.out)
    have g0 := Smp.two0 HB1.out
    have g1 := Smp.two1 HB1.out
    clear hb1 d0 d1 e0 hW HW0 HXW
    cases hh : L.any fun p => hasB p s
    · have HE : Hid (O = (ls.take (k + 1)).filter fun s => L.any fun p => hasB p s.1) := by
        unfold Hid; rw [HST.out, ← HS.out]; simp [hh]
      go_wp2
      go_roundw
      case rel => exact ⟨k + 1, _, co, ao, O, by omega, by go_num, rfl, HO1.out, HE.out, by omega, HX1.out⟩
      case measure => simp [intOf]; omega
    · have HE : Hid (O ++ [(s, t)] = (ls.take (k + 1)).filter fun s => L.any fun p => hasB p s.1) := by
        unfold Hid; rw [HST.out, ← HS.out]; simp [hh]
      have hO2 : O.length ≤ 1048576 := by omega
      go_wp2_with (at_builtin; refine wpList_append_own _ rfl (.tmp 17) (.tmp 19) 51 rfl w.heap.size 78 i0 (.agg #[.int .i64 0, .int .i64 0]) 2 16 Tryz.underlying51 hi hz0 hz1 hz2 rfl (by decide) _ _ _ rfl (World.ownsRow.alloc HO1.out _) ⟨w1.heap.size, 0, none⟩ 1 1 [.int .i64 s, .int .i64 t] rfl rfl ?d1 ?d2 ?d3 ?d4 ?d5 ?_)
      case d1 => exact Smp.two_new _ _ _ _
      case d2 => intro u hu; simp at hu; rcases hu with rfl | rfl <;> rfl
      case d3 => unfold maxLen; omega
      case d4 => omega
      case d5 => have := HX1.out.size; simp; omega
      intro v1 w3 hown1 hgr1 _
      obtain ⟨a3, c3, hv3⟩ := Smp.own_form hown1
      subst hv3
      have HO2 : Hid (Smp.Own w3 w.heap.size (.slice a3 (O.length + 1) c3) (O ++ [(s, t)])) := by
        unfold Hid Smp.Own; rw [Smp.flat_append, List.length_append]; exact hown1
      have HX2 := hid ((Below.alloc HX1.out HX1.out.size (.cells #[.int .i64 s, .int .i64 t] 78)).grown hgr1 (by have := HX1.out.size; simp; omega) (fun k hk => (World.ownsRow.lt HO1.out k hk).1))
      clear hown1 hgr1
      go_wp2
      go_roundw
      case rel => exact ⟨k + 1, O.length + 1, c3, a3, _, by omega, by go_num, rfl, HO2.out, HE.out, by omega, HX2.out⟩
      case measure => simp [intOf]; omega

/-- A need in its box, and what it holds. -/
abbrev BN (w : World) (q : T) (B : Nat) (x : World) : Prop :=
  x.heap[B]? = some (.cells #[.slice q.a q.l.length q.c, .int .i64 q.f, .int .i64 q.t] 48) ∧ HasM x q.a q.l ∧ Below w.heap.size w x
theorem BN.below {w : World} {q : T} {B : Nat} {x y : World} (h : BN w q B x) (hb : Below x.heap.size x y) : BN w q B y := ⟨Ned.kept h.1 hb, h.2.1.below hb, h.2.2.trans (hb.mono h.2.2.size)⟩
theorem BN.new {w : World} {q : T} {x : World} (hm : HasM x q.a q.l) (hw : Below w.heap.size w x) : BN w q x.heap.size (x.alloc (.cells #[.slice q.a q.l.length q.c, .int .i64 q.f, .int .i64 q.t] 48)) := by
  have hx := (Below.refl x.heap.size x).alloc (Nat.le_refl _) (.cells #[.slice q.a q.l.length q.c, .int .i64 q.f, .int .i64 q.t] 48)
  exact ⟨heap_alloc_new x _, hm.below hx, hw.trans (hx.mono hw.size)⟩

set_option maxHeartbeats 4000000 in
theorem f25 (val : Vf) (a a' : Option Addr) (n c c' : Nat) (ts : List T) (l : List Lb) (w : World) (hn : ts.length = n) (hg : gdN (ts.map Ned.pl) = true) (hl : Lab.goodL l = true) (hr : HasT w a ts) (hr' : HasL w a' l) (hv : ∀ x, OfV l x (val l x)) :
    Calls Tryz.prog 25 #[.slice a n c, .slice a' l.length c'] w fun e w' => ∃ v, e = .returned v ∧ Spn.Own w' w.heap.size v (spn (val l) (ts.map Ned.pl)) ∧ Below w.heap.size w w' := by
  obtain ⟨i0, hi, hz0, hz1, hz2⟩ := info_parts Spn.infoS
  have HN := hid hn
  have HG := hid hg
  have HL := hid hl
  have HR := hid hr
  have HR' := hid hr'
  have HV := hid hv
  have h60 : n ≤ 60 := by have := gdN_len hg; simp at this; omega
  clear hn hg hl hr hr' hv
  go_enter Tryz.func25, Tryz.ntmps25
  go_wp2
  go_loopw [5, 10] (fun so si wr => ∃ (k m co : Nat) (ao : Option Addr) (O : List Sm), k ≤ n ∧ si = .int .i64 k ∧ so = .slice ao m co ∧ Hid (Spn.Own wr w.heap.size (.slice ao m co) O) ∧ Hid (O = spn (val l) ((ts.take k).map Ned.pl)) ∧ m ≤ k ∧ Hid (Below w.heap.size w wr)) (fun _ si _ => n - (intOf si).toNat)
  case atStart => exact ⟨0, 0, 0, none, [], Nat.zero_le _, rfl, rfl, Spn.Own.nil _ _, by unfold Hid; rfl, Nat.le_refl _, Below.refl _ _⟩
  case round =>
    obtain ⟨k, m, co, ao, O, hk, rfl, rfl, HO, HS, hmk, HX⟩ := hrel
    by_cases hlt : k < n
    rotate_left
    · obtain rfl : k = n := by omega
      have HE : Hid (O = spn (val l) (ts.map Ned.pl)) := by
        unfold Hid; rw [HS.out, List.take_of_length_le (by rw [HN.out]; exact Nat.le_refl _)]
      go_wp2
      go_ret
      exact ⟨_, rfl, by rw [← HE.out]; exact HO.out, HX.out⟩
    obtain ⟨b, off, rfl, hbl, hc, hm⟩ := (HR.out.below HX.out).at2 k (by rw [HN.out]; exact hlt)
    obtain ⟨d0, d1, d2⟩ := hc
    have HGk := hid (gdN_at HG.out (show k < ts.length by rw [HN.out]; exact hlt))
    have HST : Hid (spn (val l) ((ts.take (k + 1)).map Ned.pl) = spn (val l) ((ts.take k).map Ned.pl) ++ if allM (ts.getD k t0).l (val l) = true then [((ts.getD k t0).f, (ts.getD k t0).t)] else []) := by
      unfold Hid
      have hk' : k < ts.length := by rw [HN.out]; exact hlt
      rw [List.take_succ_eq_append_getElem hk', List.map_append, List.map_singleton, spn_snoc]
      have h1 : ts.getD k t0 = ts[k] := by simp [hk']
      rw [h1]; rfl
    obtain rfl : m = O.length := HO.out.has.1
    have HM := hid hm
    clear hm hbl
    generalize ts.getD k t0 = q at *
    have HB0 := hid (BN.new HM.out HX.out)
    have HW0 := hid ((Below.refl wr.heap.size wr).alloc (Nat.le_refl _) (.cells #[.slice q.a q.l.length q.c, .int .i64 q.f, .int .i64 q.t] 48))
    go_wp2_with fail
    refine (Pat.f56 q.a a' q.l.length q.c l.length c' q.l l (val l) _ rfl rfl HGk.out HL.out HB0.out.2.1 (HR'.out.below HB0.out.2.2) HV.out).mono ?_
    rintro e w1 ⟨rfl, hb1⟩
    have HB1 := hid (HB0.out.below hb1)
    have HW1 := hid (HW0.out.trans (hb1.mono HW0.out.size))
    have HO1 := hid (HO.out.below HW1.out)
    obtain ⟨g0, g1, g2⟩ := Ned.three HB1.out.1
    clear hb1 d0 d1 d2 HB0 HW0
    cases hh : allM q.l (val l)
    · have HE : Hid (O = spn (val l) ((ts.take (k + 1)).map Ned.pl)) := by
        unfold Hid; rw [HST.out, ← HS.out]; simp [hh]
      have HX1 := hid HB1.out.2.2
      go_wp2
      go_roundw
      case rel => exact ⟨k + 1, _, co, ao, O, by omega, by go_num, rfl, HO1.out, HE.out, by omega, HX1.out⟩
      case measure => simp [intOf]; omega
    · have HE : Hid (O ++ [(q.f, q.t)] = spn (val l) ((ts.take (k + 1)).map Ned.pl)) := by
        unfold Hid; rw [HST.out, ← HS.out]; simp [hh]
      have hO2 : O.length ≤ 60 := by omega
      have HX1 := hid HB1.out.2.2
      go_wp2_with (at_builtin; refine wpList_append_own _ rfl (.tmp 18) (.tmp 24) 58 rfl w.heap.size 87 i0 (.agg #[.int .i64 0, .int .i64 0]) 2 16 Tryz.underlying58 hi hz0 hz1 hz2 rfl (by decide) _ _ _ rfl (World.ownsRow.alloc HO1.out _) ⟨w1.heap.size, 0, none⟩ 1 1 [.int .i64 q.f, .int .i64 q.t] rfl rfl ?d1 ?d2 ?d3 ?d4 ?d5 ?_)
      case d1 => exact Spn.two_new _ _ _ _
      case d2 => intro u hu; simp at hu; rcases hu with rfl | rfl <;> rfl
      case d3 => unfold maxLen; omega
      case d4 => omega
      case d5 => have := HX1.out.size; simp; omega
      intro v1 w3 hown1 hgr1 _
      obtain ⟨a3, c3, hv3⟩ := Spn.own_form hown1
      subst hv3
      have HO2 := hid (Spn.Own.snoc (p := (q.f, q.t)) hown1)
      have HX2 := hid ((Below.alloc HX1.out HX1.out.size (.cells #[.int .i64 q.f, .int .i64 q.t] 87)).grown hgr1 (by have := HX1.out.size; simp; omega) (fun k hk => (World.ownsRow.lt HO1.out k hk).1))
      clear hown1 hgr1
      go_wp2
      go_roundw
      case rel => exact ⟨k + 1, O.length + 1, c3, a3, _, by omega, by go_num, rfl, HO2.out, HE.out, by omega, HX2.out⟩
      case measure => simp [intOf]; omega

set_option maxHeartbeats 2000000 in
theorem f23 (a : Option Addr) (n c : Nat) (ts : List T) (w : World) (hn : ts.length = n) (hmax : n ≤ 1048576) (hr : HasT w a ts) (hf : Ned.FitT ts) :
    Calls Tryz.prog 23 #[.slice a n c] w fun e w' => e = .returned (.bool (gdN (ts.map Ned.pl))) ∧ Below w.heap.size w w' := by
  have HN := hid hn
  have HR := hid hr
  have HF := hid hf
  clear hn hr hf
  go_enter Tryz.func23, Tryz.ntmps23
  go_wp2
  go_loopw [7] (fun si wr => ∃ k : Nat, k ≤ n ∧ si = .int .i64 k ∧ Hid (∀ j, j < k → goodM (ts.getD j t0).l = true) ∧ Hid (Below w.heap.size w wr)) (fun si _ => n - (intOf si).toNat)
  case atStart => exact ⟨0, Nat.zero_le _, rfl, fun j hj => absurd hj (by omega), Below.refl _ _⟩
  case round =>
    obtain ⟨k, hk, rfl, HU, HX⟩ := hrel
    by_cases hlt : k < n
    rotate_left
    · have HE : Hid (gdN (ts.map Ned.pl) = decide ((n : Int) ≤ 60)) := by
        unfold Hid
        by_cases h : n ≤ 60
        · rw [gdN_yes (by rw [HN.out]; exact h) (fun i hi => HU.out i (by rw [HN.out] at hi; omega))]; symm; exact decide_eq_true (by omega)
        · rw [gdN_long (by rw [HN.out]; omega)]; symm; exact decide_eq_false (by omega)
      go_wp2
      go_ret
      exact ⟨ret_bool HE.out.symm, HX.out⟩
    obtain ⟨b, off, rfl, hbl, hc, hm⟩ := (HR.out.below HX.out).at2 k (by rw [HN.out]; exact hlt)
    obtain ⟨d0, d1, d2⟩ := hc
    have HFk := hid (HF.out k)
    have HNo := hid (gdN_no (ts := ts) (i := k) (by rw [HN.out]; exact hlt))
    have HYe : Hid (goodM (ts.getD k t0).l = true → ∀ j, j < k + 1 → goodM (ts.getD j t0).l = true) := fun h j hj => by
      by_cases e : j = k
      · rw [e]; exact h
      · exact HU.out j (by omega)
    have HM := hid hm
    clear hm hbl
    generalize ts.getD k t0 = q at *
    have HB0 := hid (BN.new HM.out HX.out)
    go_wp2_with fail
    refine (Pat.f52 q.a q.l.length q.c q.l _ rfl HFk.out.2.1 HB0.out.2.1 HFk.out.1).mono ?_
    rintro e w1 ⟨rfl, hb1⟩
    have HX1 := hid (HB0.out.below hb1).2.2
    clear hb1 d0 d1 d2 HB0
    cases hh : goodM q.l
    · have HE := hid (HNo.out hh)
      go_wp2
      go_ret
      exact ⟨by rw [HE.out]; rfl, HX1.out⟩
    · have HU2 := hid (HYe.out hh)
      go_wp2
      go_roundw
      case rel => exact ⟨k + 1, by omega, by go_num, HU2.out, HX1.out⟩
      case measure => simp [intOf]; omega
end Go.Proofs.YtaekngadfajcaaaGreat.Trm
