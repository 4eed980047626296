/- A merged block marked and held; the walk of FnExactMergeBlocks. -/
import Derived.Test.YtjhdmghpklagkaaGreatQ51
import Derived.Test.YtjhdmghpklagkaaGreatQ52
import Derived.Test.YtjhdmghpklagkaaGreatQ53
namespace Go.Proofs.YtjhdmghpklagkaaGreat.Mgb
open Go.RowKit
open Go.Proofs.YtjhdmghpklagkaaGreat.Srs (hid lt_at kept blk own_base own_below own_grown Q q0 HasQ SmlQ OwnO OwnG Own2 Fr own_fr tot pl Pl mqs mqs_len mqs_get)
open Go.Proofs.YtjhdmghpklagkaaGreat.Blk
open Go.Proofs.YtjhdmghpklagkaaGreat.Stn (T t0)

theorem f39z (k : Nat) (w : World) : Calls Tryz.prog 39 #[.slice none 0 0, .int .i64 k] w fun e w' => e = .returned (.int .i64 k) ∧ w' = w := by
  go_enter Tryz.func39, Tryz.ntmps39
  go_wp2
  go_loopw [1, 5] (fun s i wr => s = .int .i64 k ∧ i = .int .i64 0 ∧ wr = w) (fun _ _ _ => 0)
  case atStart => exact ⟨rfl, rfl, rfl⟩
  case round =>
    obtain ⟨rfl, rfl, rfl⟩ := hrel
    go_wp2
    go_ret
    exact ⟨rfl, rfl⟩
theorem f43z (k : Nat) (w : World) : Calls Tryz.prog 43 #[.slice none 0 0, .int .i64 k] w fun e w' => e = .returned (.int .i64 k) ∧ w' = w := by
  go_enter Tryz.func43, Tryz.ntmps43
  go_wp2
  go_loopw [1, 5] (fun s i wr => s = .int .i64 k ∧ i = .int .i64 0 ∧ wr = w) (fun _ _ _ => 0)
  case atStart => exact ⟨rfl, rfl, rfl⟩
  case round =>
    obtain ⟨rfl, rfl, rfl⟩ := hrel
    go_wp2
    go_ret
    exact ⟨rfl, rfl⟩
/-- A block whose series are marked from k on. -/
def mh (k : Nat) (h : Bk) : Bk := ⟨h.F, h.T, h.L, mqs k h.qs, h.a, h.c, h.ts, h.b, h.d⟩
/-- All of it lies ahead of Y. -/
def Lo (Y : Nat) (h : Bk) : Prop := ∀ i, i < h.qs.length → blk (h.qs.getD i q0).a < Y ∧ blk (h.qs.getD i q0).b < Y
theorem Am.lo {X : Nat} {h : Bk} {w : World} (o : Am X h w) : Lo w.heap.size h := fun i hi => (o.own.own i hi).hi
theorem owno_fr {X Y g n c : Nat} {a : Option Addr} {qs : List Q} {w x : World} (h : OwnO X a n c qs w) (hf : Fr g Y w x) (hY : Y ≤ X) : OwnO X a n c qs x := Srs.OwnO.fr h hf hY
theorem Am.fr {X Y g : Nat} {h : Bk} {w x : World} (o : Am X h w) (hf : Fr g Y w x) (hY : Y ≤ X) : Am X h x := ⟨owno_fr o.own hf hY, o.ts, o.b, o.d⟩
theorem own_og {X g n c : Nat} {qs : List Q} {w : World} (h : OwnG X g n c qs w) : OwnO X (some ⟨g, 0, none⟩) n c qs w := ⟨h.len, h.row, h.own, fun g' e i hi => by cases e; exact h.apt.nea i hi, h.apt.dis⟩
set_option maxHeartbeats 1000000 in
theorem markAm (X Y k : Nat) (h : Bk) (w : World) (o : Am X h w) (hl : Lo Y h) (hYw : Y ≤ w.heap.size) (hz : h.qs.length ≤ 1048576) (hk : k + 2 * tot h.qs h.qs.length ≤ 100000000) :
    Calls Tryz.prog 19 #[agB h, .int .i64 k] w fun e w' => e = .returned (.int .i64 ((k + 2 * tot h.qs h.qs.length : Nat) : Int)) ∧ Am X (mh k h) w' ∧ Fr X Y w w' := by
  have HB0 := hid ((Below.refl w.heap.size w).alloc (Nat.le_refl _) (.cells (clB h) 36))
  have HC0 := hid (heap_alloc_new w (.cells (clB h) 36))
  have HA0 := hid (o.below HB0.out)
  have HL := hid hl
  obtain ⟨F, TT, LL, qs, a, c, ts, b, d⟩ := h
  obtain rfl : ts = [] := o.ts
  obtain rfl : b = none := o.b
  obtain rfl : d = 0 := o.d
  simp only [agB, clB, List.length_nil] at *
  obtain ⟨W, hW⟩ : ∃ W, W = w.alloc (.cells #[.int .i64 F, .int .i64 TT, .int .i64 LL, .slice a qs.length c, .slice none 0 0] 36) := ⟨_, rfl⟩
  rw [← hW] at HB0 HC0 HA0
  have HMk : Hid (Calls Tryz.prog 31 #[.slice a qs.length c, .int .i64 k] W fun e w' => e = .returned (.int .i64 ((k + 2 * tot qs qs.length : Nat) : Int)) ∧ OwnO X a qs.length c (mqs k qs) w' ∧ Fr X Y W w') := by
    rcases HA0.out.own.cases with ⟨h1, h2, h3, h4⟩ | ⟨g, h1, h2⟩
    · simp only at h1 h2 h3 h4
      subst h1 h3 h4
      refine (Srs.f31n k W).mono ?_
      rintro e w' ⟨rfl, rfl⟩
      exact ⟨rfl, OwnO.nil _ _, Fr.refl _ _ _⟩
    · simp only at h1 h2
      subst h1
      refine (Srs.f31f X Y g qs.length c k qs W hz hk h2 HL.out).mono ?_
      rintro e w' ⟨rfl, ho, hf⟩
      exact ⟨rfl, own_og ho, hf⟩
  obtain ⟨k2, hk2⟩ : ∃ k2 : Nat, k2 = k + 2 * tot qs qs.length := ⟨_, rfl⟩
  rw [← hk2] at HMk ⊢
  have hk3 : k2 ≤ 100000000 := by omega
  clear hk2 hk o hl
  obtain ⟨c0, c1, c2, c3, c4⟩ := five HC0.out
  go_enter Tryz.func19, Tryz.ntmps19
  go_upto_region 1 with fail
  rw [← hW]
  clear hW
  have hXl : w.heap.size < W.heap.size := lt_at HC0.out
  go_wp2_with fail
  refine HMk.out.mono ?_
  rintro e w1 ⟨rfl, ho1, hf1⟩
  have HC1 := hid ((hf1.block w.heap.size hXl (.inr hYw)).trans HC0.out)
  have HA1 : Hid (Am X (mh k ⟨F, TT, LL, qs, a, c, [], none, 0⟩) w1) := ⟨by simp only [mh, mqs_len]; exact ho1, rfl, rfl, rfl⟩
  have HF1 := hid (⟨hf1.os.trans HB0.out.os, hf1.tape.trans HB0.out.tape, hf1.output.trans HB0.out.output, Nat.le_trans HB0.out.size hf1.size, fun j hj hq => (hf1.block j (Nat.lt_of_lt_of_le hj HB0.out.size) hq).trans (HB0.out.block j hj)⟩ : Fr X Y w w1)
  clear ho1 hf1 HMk HC0 HA0 c0 c1 c2 c3 c4
  obtain ⟨c0, c1, c2, c3, c4⟩ := five HC1.out
  go_wp2_with fail
  refine (f39z k2 _).mono ?_
  rintro e w2 ⟨rfl, hw⟩
  have hw' := hw.symm
  subst hw'
  go_wp2
  go_ret
  exact ⟨rfl, HA1.out, HF1.out⟩
set_option maxHeartbeats 1000000 in
theorem heldAm (X k : Nat) (h : Bk) (w : World) (o : Am X (mh k h) w) (hz : h.qs.length ≤ 1048576) (hk : k + 2 * tot h.qs h.qs.length ≤ 100000000) :
    Calls Tryz.prog 20 #[agB h, .int .i64 k] w fun e w' => e = .returned (.int .i64 ((k + 2 * tot h.qs h.qs.length : Nat) : Int)) ∧ Below w.heap.size w w' := by
  have HB0 := hid ((Below.refl w.heap.size w).alloc (Nat.le_refl _) (.cells (clB h) 36))
  have HC0 := hid (heap_alloc_new w (.cells (clB h) 36))
  have HA0 := hid (o.below HB0.out)
  obtain ⟨F, TT, LL, qs, a, c, ts, b, d⟩ := h
  obtain rfl : ts = [] := o.ts
  obtain rfl : b = none := o.b
  obtain rfl : d = 0 := o.d
  simp only [agB, clB, List.length_nil] at *
  obtain ⟨W, hW⟩ : ∃ W, W = w.alloc (.cells #[.int .i64 F, .int .i64 TT, .int .i64 LL, .slice a qs.length c, .slice none 0 0] 36) := ⟨_, rfl⟩
  rw [← hW] at HB0 HC0 HA0
  have HOo : Hid (OwnO X a qs.length c (mqs k qs) W) := by
    have := HA0.out.own
    simp only [mh, mqs_len] at this
    exact this
  have HMk := hid (Srs.held_ans (n := qs.length) (k := k) rfl HOo.out hz hk)
  obtain ⟨k2, hk2⟩ : ∃ k2 : Nat, k2 = k + 2 * tot qs qs.length := ⟨_, rfl⟩
  rw [← hk2] at HMk ⊢
  have hk3 : k2 ≤ 100000000 := by omega
  have hk4 : ¬ (k2 : Int) < 0 := by omega
  clear hk2 hk o HA0 HOo
  obtain ⟨c0, c1, c2, c3, c4⟩ := five HC0.out
  go_enter Tryz.func20, Tryz.ntmps20
  go_upto_region 1 with fail
  rw [← hW]
  clear hW
  go_wp2_with fail
  refine HMk.out.mono ?_
  rintro e w1 ⟨rfl, hb1⟩
  have HC1 := hid (kept HC0.out hb1)
  have HB1 := hid (HB0.out.trans (hb1.mono HB0.out.size))
  clear hb1 HMk HC0 c0 c1 c2 c3 c4
  obtain ⟨c0, c1, c2, c3, c4⟩ := five HC1.out
  go_wp2_with fail
  refine (f43z k2 _).mono ?_
  rintro e w2 ⟨rfl, hw⟩
  have hw' := hw.symm
  subst hw'
  go_wp2
  go_ret
  exact ⟨rfl, HB1.out⟩
/-- How great the answer is. -/
theorem mgK_tot {b : Int} {bs : List Bk} {h : Bk} (s : SameB (mgK b bs) h) (ht : h.ts = []) : h.qs.length ≤ 200 ∧ tot h.qs h.qs.length ≤ 1048576 ∧ SmlB h := by
  have hg : Srs.GoodQ (mgK b bs).qs := by
    by_cases hc : GoodK b bs ∧ okM b bs
    · rw [mgK_yes hc.1 hc.2]; exact hc.2.2.2.2.2.1
    · rw [mgK_no hc]; exact ⟨by simp [k0], fun i hi => by simp [k0] at hi⟩
  have hlen := s.lq
  have hl2 : (mgK b bs).qs.length ≤ 200 := hg.1
  have key : ∀ i, i < h.qs.length → (h.qs.getD i q0).l.length ≤ 20 ∧ (h.qs.getD i q0).s.length ≤ 2000 := fun i hi => by
    have e := s.sq i (by omega)
    have h2 := Srs.okq_mem hg (Srs.get_mem' (show i < (mgK b bs).qs.length by omega))
    have e1 : (h.qs.getD i q0).l = ((mgK b bs).qs.getD i q0).l := congrArg Prod.fst e
    have e2 : (h.qs.getD i q0).s = ((mgK b bs).qs.getD i q0).s := congrArg Prod.snd e
    rw [e1, e2]
    exact ⟨(Srs.good_goodP h2.1.1).1, (show Smp.GoodP ((mgK b bs).qs.getD i q0).s from of_decide_eq_true h2.2.1).1⟩
  have htt : ∀ k, k ≤ h.qs.length → tot h.qs k ≤ 2020 * k := by
    intro k
    induction k with
    | zero => intro _; exact Nat.zero_le _
    | succ k ih =>
      intro hk
      have h1 := ih (by omega)
      have h2 := key k (by omega)
      simp only [tot]
      omega
  refine ⟨by omega, by have := htt h.qs.length (Nat.le_refl _); omega, by omega, fun i hi => ?_, by rw [ht]; exact Nat.zero_le _, fun i hi => by rw [ht] at hi; simp at hi⟩
  have := key i hi
  exact ⟨by omega, by omega⟩
/-- Shelves that are alike are merged alike. -/
theorem mgK_same {b : Int} {n : Nat} {bs d : List Bk} (s : SameK n bs d) (hn : bs.length = n) (hl : d.length = n) : SameB (mgK b bs) (mgK b d) := by
  by_cases hg : GoodK b bs
  · have hgd : GoodK b d := s.good hn hl hg
    have eL : mxl d = mxl bs := by
      unfold mxl
      have key : ∀ k, k ≤ n → (d.take k).foldl (fun a h => max a h.L) 0 = (bs.take k).foldl (fun a h => max a h.L) 0 := by
        intro k
        induction k with
        | zero => intro _; rfl
        | succ k ih =>
          intro hk
          have h1 := lmK_next (bs := d) (show k < d.length by omega)
          have h2 := lmK_next (bs := bs) (show k < bs.length by omega)
          unfold lmK at h1 h2
          rw [h1, h2, ih (by omega), (s k (by omega)).eL]
      have := key n (Nat.le_refl _)
      rw [List.take_of_length_le (by omega), List.take_of_length_le (by omega)] at this
      exact this
    have eW : wdM b d = wdM b bs := by unfold wdM; rw [eL]
    have eS : srM d = srM bs := by
      unfold srM Hpl.shl
      rw [hl, hn, Hpl.sels_same s hn hl (fun i hi => (hg.2.2 i (by rw [hn]; exact hi)).2.1) goodM_nil n (Nat.le_refl _)]
    by_cases h0 : 0 < bs.length
    · have eF : frM b d = frM b bs := by unfold frM; rw [(s 0 (by omega)).eF, eW]
      have eT : toM b d = toM b bs := by unfold toM; rw [eF, eW]
      have eB : mbk b d = mbk b bs := by unfold mbk; rw [eF, eT, eL, eS]
      have eO : okM b d ↔ okM b bs := by
        unfold okM InM
        rw [eL, eT, eB, hl, hn]
        refine ⟨fun h => ⟨h.1, h.2.1, fun i hi => ?_, h.2.2.2⟩, fun h => ⟨h.1, h.2.1, fun i hi => ?_, h.2.2.2⟩⟩
        · have := h.2.2.1 i hi; rw [(s i hi).eT] at this; exact this
        · rw [(s i hi).eT]; exact h.2.2.1 i hi
      by_cases ho : okM b bs
      · rw [mgK_yes hg ho, mgK_yes hgd (eO.2 ho), eB]; exact sameB_refl _
      · rw [mgK_no (fun h => ho h.2), mgK_no (fun h => ho (eO.1 h.2))]; exact sameB_refl _
    · have ho : ¬ okM b bs := fun h => h0 h.1
      have ho' : ¬ okM b d := fun h => h0 (by have := h.1; omega)
      rw [mgK_no (fun h => ho h.2), mgK_no (fun h => ho' h.2)]; exact sameB_refl _
  · have hgd : ¬ GoodK b d := fun h => hg (s.symm.good hl hn h)
    rw [mgK_no (fun h => hg h.1), mgK_no (fun h => hgd h.1)]; exact sameB_refl _
end Go.Proofs.YtjhdmghpklagkaaGreat.Mgb
/- The walk of FnExactMergeBlocks. -/
namespace Go.Proofs.YtjhdmghpklagkaaGreat.Mgb
open Go.RowKit
open Go.Proofs.YtjhdmghpklagkaaGreat.Srs (hid lt_at kept blk own_below Q q0 HasQ SmlQ OwnO Fr own_fr tot mqs mqs_len)
open Go.Proofs.YtjhdmghpklagkaaGreat.Blk
open Go.Proofs.YtjhdmghpklagkaaGreat.Stn (T t0)

/-- The argument, and the model's answer in its box. -/
structure Kg (w : World) (a : Option Addr) (bs : List Bk) (BW : Nat) (hW : Bk) (x : World) : Prop where
  arg : HasK x a bs
  box : x.heap[BW]? = some (.cells (clB hW) 36)
  ans : HasB x hW
  bel : Below w.heap.size w x
theorem Kg.below {w : World} {a : Option Addr} {bs : List Bk} {BW : Nat} {hW : Bk} {x y : World} (g : Kg w a bs BW hW x) (hb : Below x.heap.size x y) : Kg w a bs BW hW y := ⟨g.arg.below hb, kept g.box hb, g.ans.below hb, g.bel.trans (hb.mono g.bel.size)⟩
set_option maxRecDepth 10000 in
set_option maxHeartbeats 8000000 in
theorem walkMergeBs (b : Int) (a : Option Addr) (n c : Nat) (bs : List Bk) (w : World) (hb0 : -9223372036854775808 ≤ b) (hb1 : b ≤ 9223372036854775807) (hn : bs.length = n) (hmax : n ≤ maxLen) (hr : HasK w a bs) (hf : FitK bs) :
    Calls Tryz.prog 4 #[.int .i64 b, .slice a n c] w fun e w' => e = .returned (.bool true) ∧ Below w.heap.size w w' := by
  have HN := hid hn
  have HR := hid hr
  have HF := hid hf
  have HM := hid hmax
  clear hn hr hf hmax
  have HTt0 : Hid (∀ h : Bk, SameB (mgK b bs) h → h.ts = [] → h.qs.length ≤ 200 ∧ tot h.qs h.qs.length ≤ 1048576 ∧ SmlB h) := fun h s t => mgK_tot s t
  have HSp : Hid (∀ (d : List Bk) (R0 : Nat) (Z : Nat → Nat) (w' : World), SmlK bs → n ≤ 1048576 → OwnK R0 Z n bs d w' → Calls Tryz.prog 16 #[.int .i64 b, .slice (some ⟨R0, 0, none⟩) n n] w' fun e w'' => ∃ hG, e = .returned (agB hG) ∧ Hid (SameB (mgK b bs) hG ∧ Am w'.heap.size hG w'') ∧ Below w'.heap.size w' w'') := by
    intro d R0 Z w' hz hle o
    refine (f16 b _ n n d w' hb0 hb1 o.kin.len hle o.has (o.kin.same.fit o.kin.len HF.out) (o.kin.same.sml o.kin.len HN.out hz)).mono ?_
    rintro e w'' ⟨hG, rfl, hh, hb⟩
    exact ⟨hG, rfl, ⟨(mgK_same o.kin.same HN.out o.kin.len).symm.trans hh.out.1, hh.out.2⟩, hb⟩
  have HIm : Hid (∀ (d : List Bk) (R0 : Nat) (Z : Nat → Nat) (w' : World), SmlK bs → n ≤ 1048576 → OwnK R0 Z n bs d w' → Calls Tryz.prog 17 #[.int .i64 b, .slice (some ⟨R0, 0, none⟩) n n] w' fun e w'' => ∃ hG, e = .returned (agB hG) ∧ Hid (SameB (mgK b bs) hG ∧ Am w'.heap.size hG w'') ∧ Below w'.heap.size w' w'') := by
    intro d R0 Z w' hz hle o
    refine (f17 b _ n n d w' hb0 hb1 o.kin.len hle o.has (o.kin.same.fit o.kin.len HF.out) (o.kin.same.sml o.kin.len HN.out hz) (fun i hi => ⟨ownk_room o i hi, fun j hj => Nat.le_of_eq (ownk_cap o i hi j hj).symm⟩)).mono ?_
    rintro e w'' ⟨hG, rfl, hh, hb⟩
    exact ⟨hG, rfl, ⟨(mgK_same o.kin.same HN.out o.kin.len).symm.trans hh.out.1, hh.out.2⟩, hb⟩
  generalize mgK b bs = sel at *
  go_enter Tryz.func4, Tryz.ntmps4
  go_wp2_with fail
  refine (f7 a n c 1048576 bs _ (by omega) (by omega) HN.out HR.out HF.out HM.out).mono ?_
  rintro e w1 ⟨yy, rfl, y0, y1, hy, hb⟩
  have HB1 := hid hb
  have HR1 := hid (HR.out.below hb)
  clear hb
  by_cases g0 : yy < 0
  · go_wp2
    go_ret
    exact ⟨rfl, HB1.out⟩
  have h1 := hy (by omega)
  have hle : n ≤ 1048576 := by omega
  have HTt : Hid (totK bs n ≤ 1048576) := by unfold Hid; omega
  have HZ : Hid (SmlK bs) := sml_totK (by rw [HN.out]; exact HTt.out)
  clear h1 hy
  -- the model
  go_wp2_with fail
  refine (f9 a n c bs _ HN.out hle HR1.out HZ.out).mono ?_
  rintro e w2 ⟨d2, Z2, rfl, ho, hb⟩
  have HB2 := hid (HB1.out.trans (hb.mono HB1.out.size))
  have HO2 := hid ho
  clear hb ho HB1 HR1
  generalize w1.heap.size = X1 at *
  go_wp2_with fail
  refine (HSp.out d2 X1 Z2 _ HZ.out hle HO2.out).mono ?_
  rintro e w3a ⟨hW, rfl, hh, hb⟩
  obtain ⟨w3, hw3⟩ : ∃ w3, w3 = w3a.alloc (.cells (clB hW) 36) := ⟨_, rfl⟩
  obtain ⟨hba, hbx⟩ := two_new hw3
  have HK3 : Hid (Kg w a bs w3a.heap.size hW w3) := by
    have hb' := HB2.out.trans ((hb.trans (hba.mono hb.size)).mono HB2.out.size)
    exact ⟨HR.out.below hb', hbx, (hh.out.2.below hba).has, hb'⟩
  have HSW := hid hh.out.1
  clear hb hh hba hbx HO2 HB2
  simp only [agB, clB] at hw3 ⊢
  go_upto_region 6 with fail
  rw [← hw3]
  clear hw3
  generalize w3a.heap.size = BW at *
  have hBW : BW < w3.heap.size := lt_at HK3.out.box
  -- the program
  go_wp2_with fail
  refine (f9 a n c bs _ HN.out hle HK3.out.arg HZ.out).mono ?_
  rintro e w4 ⟨d4, Z4, rfl, ho4, hb⟩
  have HB4 := hid hb
  have HO4 := hid ho4
  have hS : w3.heap.size < w4.heap.size := (ho4.row.lt w3.heap.size rfl).2
  have HTop4 : Hid (∀ i, i < n → Z4 (i + 1) ≤ w4.heap.size) := fun i hi => Nat.le_trans (zmono ho4.kin n (i + 1) hi (Nat.le_refl _)) ho4.kin.top
  clear hb ho4
  go_wp2_with fail
  refine (HIm.out d4 _ Z4 _ HZ.out hle HO4.out).mono ?_
  rintro e w5a ⟨hG, rfl, hh, hb⟩
  obtain ⟨w5, hw5⟩ : ∃ w5, w5 = w5a.alloc (.cells (clB hG) 36) := ⟨_, rfl⟩
  obtain ⟨hba, hbx⟩ := two_new hw5
  have hb2 := hb.trans (hba.mono hb.size)
  have HB5 : Hid (Below w3.heap.size w3 w5) := HB4.out.trans (hb2.mono (by omega))
  have HO5 := hid (HO4.out.below hb2)
  have HG5 := hid (hh.out.2.below hba)
  have HGx := hid hbx
  have HLo := hid hh.out.2.lo
  have HSG := hid hh.out.1
  have HS54 : Hid (w4.heap.size ≤ w5a.heap.size ∧ w5a.heap.size < w5.heap.size) := ⟨hb.size, lt_at hbx⟩
  have HSm := hid (HSG.out.trans HSW.out)
  have h8t := HTt0.out hG HSG.out hh.out.2.ts
  have HTG : Hid (tot hG.qs hG.qs.length ≤ 1048576) := h8t.2.1
  have hlG : hG.qs.length ≤ 1048576 := by omega
  have HZG : Hid (SmlB hG) := h8t.2.2
  have HZ4m := hid (zmono HO4.out.kin)
  have HZ4l := hid HO4.out.kin.lo
  have HD4l := hid HO4.out.kin.len
  have HD4s := hid HO4.out.kin.same
  have HTD : Hid (1 + mkK d4 n ≤ 10000000) := by
    unfold Hid
    have h1 := mkK_tot d4 n
    have h2 := HD4s.out.totK n (Nat.le_refl _)
    have h3 := HTt.out
    omega
  have HD4z : Hid (SmlK d4) := HD4s.out.sml HD4l.out HN.out HZ.out
  clear hb hb2 hh hba hbx HB4 HO4 h8t
  simp only [agB, clB] at hw5 ⊢
  go_upto_region 8 with fail
  rw [← hw5]
  clear hw5
  generalize w5a.heap.size = GB at *
  generalize w4.heap.size = S4 at *
  -- alike
  have HK5 := hid (HK3.out.below HB5.out)
  obtain ⟨d0', d1', d2', d3', d4'⟩ := five HGx.out
  obtain ⟨e0', e1', e2', e3', e4'⟩ := five HK5.out.box
  have HEq := hid (f18 hG hW _ HSm.out.eF HSm.out.eT HSm.out.eL HSm.out.lq HSm.out.lt HG5.out.has HK5.out.ans HSm.out.sq HSm.out.st HZG.out)
  simp only [agB, clB] at HEq
  go_wp2_with fail
  refine HEq.out.mono ?_
  rintro e w6 ⟨rfl, hb⟩
  have HB6 := hid (HB5.out.trans (hb.mono HB5.out.size))
  have HO6 := hid (HO5.out.below hb)
  have HG6 := hid (HG5.out.below hb)
  have HGx6 := hid (kept HGx.out hb)
  have HK6 := hid (HK5.out.below hb)
  clear hb HB5 HG5 HGx HK5 HEq d0' d1' d2' d3' d4' e0' e1' e2' e3' e4' HO5
  -- the argument is as it was
  go_wp2_with fail
  refine (f9 a n c bs _ HN.out hle HK6.out.arg HZ.out).mono ?_
  rintro e w7 ⟨d7, Z7, rfl, ho7, hb⟩
  have HB7 := hid (HB6.out.trans (hb.mono HB6.out.size))
  have HO7 := hid (HO6.out.below hb)
  have HG7 := hid (HG6.out.below hb)
  have HGx7 := hid (kept HGx6.out hb)
  have HV7 := hid ho7
  clear hb ho7 HB6 HO6 HG6 HGx6 HK6
  generalize w6.heap.size = S6 at *
  go_wp2_with fail
  refine (f12 _ _ n n n d4 d7 _ HD4l.out HV7.out.kin.len hle HO7.out.has HV7.out.has (HD4s.out.trans HV7.out.kin.same) HD4z.out).mono ?_
  rintro e w8 ⟨rfl, hb⟩
  have HB8 := hid (HB7.out.trans (hb.mono HB7.out.size))
  have HO8 := hid (HO7.out.below hb)
  have HG8 := hid (HG7.out.below hb)
  have HGx8 := hid (kept HGx7.out hb)
  clear hb HB7 HO7 HG7 HGx7 HV7
  -- what came in is marked
  have hs8 : w3.heap.size ≤ w8.heap.size := HB8.out.size
  have hl8 : GB < w8.heap.size := lt_at HGx8.out
  go_wp2_with fail
  refine (f13 w3.heap.size S4 _ n n 1 d4 Z4 (fun i => Z4 (i + 1)) _ hle (by have := HTD.out; omega) (ownk_row HO8.out) (fun i hi => Nat.le_of_lt (HZ4l.out i (by omega))) (fun i j hij hj => HZ4m.out j (i + 1) (by omega) (by omega)) HTop4.out (fun g e => by cases e; exact hS) (fun i hi => HD4z.out i (by rw [HD4l.out]; exact hi))).mono ?_
  rintro e w9 ⟨rfl, _, hf9⟩
  have HB9 := hid (HB8.out.trans (fr_belowK hf9 (Nat.le_refl _) hs8))
  have HG9 := hid (HG8.out.fr hf9 (Nat.le_refl _))
  have HGx9 := hid ((hf9.block GB hl8 (.inr HS54.out.1)).trans HGx8.out)
  clear hf9 HB8 HO8 HG8 HGx8
  obtain ⟨k1, hk1⟩ : ∃ k1 : Nat, k1 = 1 + mkK d4 n := ⟨_, rfl⟩
  rw [← hk1]
  clear hk1
  have hk2 : ¬ (k1 : Int) < 0 := by omega
  have HK9 := hid (HK3.out.below HB9.out)
  obtain ⟨d0', d1', d2', d3', d4'⟩ := five HGx9.out
  obtain ⟨e0', e1', e2', e3', e4'⟩ := five HK9.out.box
  have HEq := hid (f18 hG hW _ HSm.out.eF HSm.out.eT HSm.out.eL HSm.out.lq HSm.out.lt HG9.out.has HK9.out.ans HSm.out.sq HSm.out.st HZG.out)
  simp only [agB, clB] at HEq
  go_wp2_with fail
  refine HEq.out.mono ?_
  rintro e w10 ⟨rfl, hb⟩
  have HB10 := hid (HB9.out.trans (hb.mono HB9.out.size))
  have HG10 := hid (HG9.out.below hb)
  have HGx10 := hid (kept HGx9.out hb)
  have HK10 := hid (HK9.out.below hb)
  clear hb HB9 HG9 HGx9 HK9 HEq d0' d1' d2' d3' d4' e0' e1' e2' e3' e4'
  -- what came out is marked, and held
  have HTm : Hid (1 + 2 * tot hG.qs hG.qs.length ≤ 100000000) := by unfold Hid; have := HTG.out; omega
  obtain ⟨k4, hk4⟩ : ∃ k4 : Nat, k4 = 1 + 2 * tot hG.qs hG.qs.length := ⟨_, rfl⟩
  have HK4 := hid hk4
  clear hk4
  have hk5 : ¬ (k4 : Int) < 0 := by omega
  have hl10 : GB < w10.heap.size := lt_at HGx10.out
  have HMk := hid (markAm S4 GB 1 hG w10 HG10.out HLo.out (Nat.le_of_lt hl10) hlG HTm.out)
  have HHd : Hid (∀ z, Am S4 (mh 1 hG) z → Calls Tryz.prog 20 #[agB hG, .int .i64 1] z fun e w' => e = .returned (.int .i64 (k4 : Int)) ∧ Below z.heap.size z w') := by
    intro z hz
    have := heldAm S4 1 hG z hz hlG HTm.out
    rw [← HK4.out] at this
    exact this
  rw [← HK4.out] at HMk
  simp only [agB, clB] at HMk HHd
  obtain ⟨g0', g1', g2', g3', g4'⟩ := five HGx10.out
  go_wp2_with fail
  refine HMk.out.mono ?_
  rintro e w11 ⟨rfl, ho11, hf11⟩
  have HB11 := hid (HB10.out.trans (fr_belowK hf11 (by omega) HB10.out.size))
  have HG11 := hid ho11
  have HGx11 := hid ((hf11.block GB hl10 (.inr (Nat.le_refl _))).trans HGx10.out)
  clear hf11 ho11 HB10 HG10 HGx10 HMk g0' g1' g2' g3' g4'
  obtain ⟨g0', g1', g2', g3', g4'⟩ := five HGx11.out
  go_wp2_with fail
  refine (HHd.out _ HG11.out).mono ?_
  rintro e w12 ⟨rfl, hb⟩
  have HB12 := hid (HB11.out.trans (hb.mono HB11.out.size))
  have HG12 := hid (HG11.out.below hb)
  have HGx12 := hid (kept HGx11.out hb)
  clear hb HB11 HG11 HGx11 g0' g1' g2' g3' g4'
  -- once more
  have HK12 := hid (HK3.out.below HB12.out)
  go_wp2_with fail
  refine (f9 a n c bs _ HN.out hle HK12.out.arg HZ.out).mono ?_
  rintro e w13 ⟨d13, Z13, rfl, ho13, hb⟩
  have HB13 := hid (HB12.out.trans (hb.mono HB12.out.size))
  have HG13 := hid (HG12.out.below hb)
  have HGx13 := hid (kept HGx12.out hb)
  have HV13 := hid ho13
  clear hb ho13 HB12 HG12 HGx12 HK12
  generalize w12.heap.size = S12 at *
  go_wp2_with fail
  refine (HIm.out d13 _ Z13 _ HZ.out hle HV13.out).mono ?_
  rintro e w14a ⟨hH, rfl, hh, hb⟩
  obtain ⟨w14, hw14⟩ : ∃ w14, w14 = w14a.alloc (.cells (clB hH) 36) := ⟨_, rfl⟩
  obtain ⟨hba, hbx⟩ := two_new hw14
  have hb2 := hb.trans (hba.mono hb.size)
  have HB14 := hid (HB13.out.trans (hb2.mono HB13.out.size))
  have HG14 := hid (HG13.out.below hb2)
  have HGx14 := hid (kept HGx13.out hb2)
  have HHx := hid hbx
  have HHh := hid (hh.out.2.below hba).has
  have HHs := hid (hh.out.1.trans HSW.out)
  have HZH : Hid (SmlB hH) := (HTt0.out hH hh.out.1 hh.out.2.ts).2.2
  clear hb hb2 hh hba hbx HB13 HG13 HGx13 HV13
  simp only [agB, clB] at hw14 ⊢
  go_upto_region 25 with fail
  rw [← hw14]
  clear hw14
  generalize w14a.heap.size = HBx at *
  have HK14 := hid (HK3.out.below HB14.out)
  obtain ⟨d0', d1', d2', d3', d4'⟩ := five HHx.out
  obtain ⟨e0', e1', e2', e3', e4'⟩ := five HK14.out.box
  have HEq := hid (f18 hH hW _ HHs.out.eF HHs.out.eT HHs.out.eL HHs.out.lq HHs.out.lt HHh.out HK14.out.ans HHs.out.sq HHs.out.st HZH.out)
  simp only [agB, clB] at HEq
  go_wp2_with fail
  refine HEq.out.mono ?_
  rintro e w15 ⟨rfl, hb⟩
  have HB15 := hid (HB14.out.trans (hb.mono HB14.out.size))
  have HG15 := hid (HG14.out.below hb)
  have HGx15 := hid (kept HGx14.out hb)
  clear hb HB14 HG14 HGx14 HK14 HHh HHx HEq d0' d1' d2' d3' d4' e0' e1' e2' e3' e4'
  obtain ⟨g0', g1', g2', g3', g4'⟩ := five HGx15.out
  go_wp2_with fail
  refine (HHd.out _ HG15.out).mono ?_
  rintro e w16 ⟨rfl, hb⟩
  have HB16 := hid (HB15.out.trans (hb.mono HB15.out.size))
  have HEnd := hid (HK3.out.below HB16.out).bel
  clear hb HB15 HG15
  go_wp2
  go_ret
  exact ⟨rfl, HEnd.out⟩
end Go.Proofs.YtjhdmghpklagkaaGreat.Mgb
