/- Lists of blocks held. -/
import Derived.Test.YtmgghnmlhkahnaaGreatKo
namespace Go.Proofs.YtmgghnmlhkahnaaGreat.Blk
open Go.RowKit
open Go.Proofs.YtmgghnmlhkahnaaGreat.Smp (Sm HasS own_form ret_bool)
open Go.Proofs.YtmgghnmlhkahnaaGreat.Srs (hid lt_at kept blk own_base own_below own_grown Q q0 HasQ SmlQ OwnG Own2 Fr own_fr tot mqs mqs_len mqs_get)
open Go.Proofs.YtmgghnmlhkahnaaGreat.Stn (T t0 OwnT HasT SmlT mts mts_len mts_get mk set_same)
set_option maxRecDepth 10000 in
set_option maxHeartbeats 8000000 in
theorem f10 (X : Nat) (a : Option Addr) (n c k : Nat) (R : List Bk) (L U : Nat → Nat) (w : World) (hn : R.length = n) (hb : n ≤ 1048576) (hk : k + mkK R n ≤ 100000000) (hr : RowK OwnC X a n c (mbs k R) L U w) (hsz : ∀ i, i < n → SmlB (R.getD i k0)) :
    Calls Tryz.prog 10 #[.slice a n c, .int .i64 k] w fun e w' => e = .returned (.int .i64 ((k + mkK R n : Nat) : Int)) ∧ Below w.heap.size w w' := by
  have HN := hid hn
  have HK := hid hk
  have HR := hid hr
  have HSz := hid hsz
  clear hn hk hr hsz
  go_enter Tryz.func10, Tryz.ntmps10
  go_wp2
  go_loopw [1, 5] (fun sk si wr => ∃ (i m : Nat), i ≤ n ∧ si = .int .i64 i ∧ sk = .int .i64 (m : Int) ∧ Hid (m = k + mkK R i) ∧ Hid (Below w.heap.size w wr)) (fun _ si _ => n - (intOf si).toNat)
  case atStart => exact ⟨0, k, Nat.zero_le _, rfl, rfl, rfl, Below.refl _ _⟩
  case round =>
    obtain ⟨i, m, hi, rfl, rfl, hm, HX⟩ := hrel
    by_cases hlt : i < n
    rotate_left
    · obtain rfl : i = n := by omega
      go_wp2
      go_ret
      exact ⟨by rw [← hm.out]; rfl, HX.out⟩
    have hrw := HR.out.below wayOwn HX.out
    obtain ⟨g, off, rfl, hbl, ⟨c0, c1, c2, c3, c4⟩, _⟩ := (hrw.has wayOwn).at2 i (by rw [mbs_len, HN.out]; exact hlt)
    have ho := hrw.each i hlt
    have HMs : Hid (mkK R (i + 1) = mkK R i + mkb (R.getD i k0)) := rfl
    have HMn := hid (mkK_mono R n (i + 1) hlt)
    have HSq := hid (HSz.out i hlt)
    rw [mbs_get k R i (by rw [HN.out]; exact hlt), ← hm.out] at c0 c1 c2 c3 c4 ho
    generalize R.getD i k0 = q at *
    obtain ⟨gs, ks, M, ea, eb, ec, ed, og, ot, _⟩ := ho.ex
    have N1 : Hid (m + mkb q ≤ 100000000) := by unfold Hid; have := hm.out; have := HK.out; have := HMn.out; have := HMs.out; omega
    have N2 := N1.out
    unfold mkb at N2
    rw [ea, ec] at c3
    rw [eb, ed] at c4
    rw [ec] at og
    simp only [mb, mqs_len, mts_len] at c0 c1 c2 c3 c4 og ot
    have HOG := hid og
    have HOT := hid ot
    have c2' : wr.cell? ⟨g, off + i * 5 + 2, none⟩ = some (.int .i64 ((m : Int) + 1 + 1)) := by rw [c2, show (m : Int) + 2 = (m : Int) + 1 + 1 by omega]
    clear hrw ho og ot c2 ea eb ec ed
    have hq1 : q.qs.length ≤ 1048576 := HSq.out.1
    have hq2 : q.ts.length ≤ 1048576 := HSq.out.2.2.1
    have hN : m + 3 ≤ 100000000 := by omega
    have g0 : ((m : Int) != (m : Int)) = false := by simp
    have g1 : ((m : Int) + 1 != (m : Int) + 1) = false := by simp
    have g2 : ((m : Int) + 1 + 1 != (m : Int) + 1 + 1) = false := by simp
    obtain ⟨m3, hm3⟩ : ∃ m3 : Nat, m3 = m + 3 := ⟨_, rfl⟩
    have e3 : (m : Int) + 1 + 1 + 1 = (m3 : Int) := by omega
    have HM3 := hid hm3
    have hk3 : m3 + 2 * tot q.qs q.qs.length ≤ 100000000 := by omega
    rw [← hm3] at HOG HOT
    clear hm3
    go_wp2_with fail
    refine (Srs.f20 (L i) gs q.qs.length q.qs.length m3 q.qs _ rfl hq1 hk3 HOG.out).mono ?_
    rintro e w2 ⟨rfl, hb2⟩
    have HX2 := hid (HX.out.trans (hb2.mono HX.out.size))
    have d4 := (hb2.cell (p := ⟨g, off + i * 5 + 4, none⟩) hbl).trans c4
    have HOT2 := hid (HOT.out.below hb2)
    clear hb2 c0 c1 c2' c3 c4 hbl HX HOT HOG e3 g0 g1 g2
    obtain ⟨m4, hm4⟩ : ∃ m4 : Nat, m4 = m3 + 2 * tot q.qs q.qs.length := ⟨_, rfl⟩
    have HM4 := hid hm4
    have hk4 : m4 + mk q.ts q.ts.length ≤ 100000000 := by have := HM3.out; omega
    rw [← hm4] at HOT2 ⊢
    clear hm4 hk3
    have hm5 : ¬ (m4 : Int) < 0 := by omega
    go_wp2_with fail
    refine (Stn.f21 M ks q.ts.length m4 q.ts _ rfl hq2 hk4 HOT2.out).mono ?_
    rintro e w3 ⟨rfl, hb3⟩
    have HX3 := hid (HX2.out.trans (hb3.mono HX2.out.size))
    clear hb3 d4 HX2 HOT2
    obtain ⟨m5, hm5e⟩ : ∃ m5 : Nat, m5 = m4 + mk q.ts q.ts.length := ⟨_, rfl⟩
    have HE5 : Hid (m5 = k + mkK R (i + 1)) := by unfold Hid; have h1 := hm.out; have h2 := HMs.out; unfold mkb at h2; have := HM3.out; have := HM4.out; omega
    have hm6 : ¬ (m5 : Int) < 0 := by omega
    rw [← hm5e]
    clear hm5e
    go_wp2
    go_roundw
    case rel => exact ⟨i + 1, m5, by omega, by go_num, rfl, HE5.out, HX3.out⟩
    case measure => simp [intOf]; omega
/-- A copied list, as a row of blocks. -/
theorem ownq_g {g n : Nat} {qs : List Q} {w : World} (h : Srs.OwnQ g g n qs w) {X : Nat} (hx : X ≤ g) : OwnG X g n n qs w := by
  refine ⟨h.kin.len, own_base h.row hx, fun i hi => ?_, ⟨fun i hi => ?_, fun i j hi hj hne => ?_⟩⟩
  · have p := h.kin.own i hi
    have q := h.kin.off i hi
    exact ⟨p.ha, p.hb, own_base p.lab hx, own_base p.smp hx, by have := p.lt; omega⟩
  · have p := (h.kin.own i hi).lt
    have q := h.kin.off i hi
    constructor <;> omega
  · have p := (h.kin.own i hi).lt
    have p' := (h.kin.own j hj).lt
    rcases Nat.lt_or_gt_of_ne hne with e | e
    · have := h.kin.dis i j e hj; refine ⟨?_, ?_, ?_, ?_⟩ <;> omega
    · have := h.kin.dis j i e hi; refine ⟨?_, ?_, ?_, ?_⟩ <;> omega
theorem ownin_c {X Y : Nat} {h h' : Bk} {w : World} (o : OwnIn X Y h h' w) : OwnC X Y h' w := by
  obtain ⟨g, k, S, o1, h2, h3, h4⟩ := o
  refine ⟨⟨g, k, S, o1.ea, o1.eb, o1.ec.trans o1.lq.symm, o1.ed.trans o1.lt.symm, ?_, ?_, by have := o1.lo; have := o1.mid; omega, o1.mid.1, fun i hi => ?_, o1.mid.2, h2, fun i hi => h3 i (by rw [← o1.lt]; exact hi)⟩, h4⟩
  · rw [o1.lq, o1.ec]; exact ownq_g o1.oq o1.lo
  · rw [o1.lt]
    have t := o1.ot
    exact ⟨own_base t.row o1.mid.2, ⟨t.kin.len, fun i hi => (t.kin.own i hi).base o1.mid.2, t.kin.off, t.kin.dis⟩⟩
  · have hi' : i < h.qs.length := by rw [← o1.lq]; exact hi
    have p := (o1.oq.kin.own i hi').lt
    have q := o1.top i hi'
    constructor <;> omega
theorem ownk_row {R0 : Nat} {Z : Nat → Nat} {n : Nat} {bs d : List Bk} {w : World} (h : OwnK R0 Z n bs d w) : RowK OwnC R0 (some ⟨R0, 0, none⟩) n n d Z (fun i => Z (i + 1)) w :=
  ⟨h.kin.len, h.row, fun i hi => ownin_c (h.kin.own i hi), fun g e i hi => by cases e; exact .inl (h.kin.lo i (by omega))⟩
theorem zmono {R0 : Nat} {Z : Nat → Nat} {n : Nat} {bs d : List Bk} {w : World} (h : KinK R0 Z n bs d w) : ∀ (k j : Nat), j ≤ k → k ≤ n → Z j ≤ Z k := by
  intro k
  induction k with
  | zero => intro j h1 _; rw [show j = 0 by omega]; exact Nat.le_refl _
  | succ k ih =>
    intro j h1 h2
    by_cases e : j = k + 1
    · rw [e]; exact Nat.le_refl _
    · exact Nat.le_trans (ih j (by omega) (by omega)) (h.up k (by omega))
theorem ownk_cap {R0 : Nat} {Z : Nat → Nat} {n : Nat} {bs d : List Bk} {w : World} (h : OwnK R0 Z n bs d w) : ∀ j, j < n → ∀ i, i < (d.getD j k0).qs.length → ((d.getD j k0).qs.getD i q0).d = ((d.getD j k0).qs.getD i q0).s.length := by
  intro j hj i hi
  obtain ⟨g, k, S, o1, _⟩ := h.kin.own j hj
  exact (o1.sq i (by rw [← o1.lq]; exact hi)).2.2
end Go.Proofs.YtmgghnmlhkahnaaGreat.Blk
