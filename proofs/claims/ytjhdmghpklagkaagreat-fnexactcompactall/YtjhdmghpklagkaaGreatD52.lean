/- Lists of blocks held, copies or merged ones. -/
import Derived.Test.YtjhdmghpklagkaaGreatD51
import Derived.Test.YtjhdmghpklagkaaGreatD40
import Derived.Test.YtjhdmghpklagkaaGreatD49
import Derived.Test.YtjhdmghpklagkaaGreatD48
namespace Go.Proofs.YtjhdmghpklagkaaGreat.Pln
open Go.RowKit
open Go.Proofs.YtjhdmghpklagkaaGreat.Smp (Sm HasS own_form ret_bool)
open Go.Proofs.YtjhdmghpklagkaaGreat.Srs (hid lt_at kept blk own_base own_below own_grown Q q0 HasQ SmlQ OwnO OwnG Own2 Fr own_fr tot mqs mqs_len mqs_get)
open Go.Proofs.YtjhdmghpklagkaaGreat.Stn (T t0 OwnT HasT SmlT mts mts_len mts_get mk set_same)
open Go.Proofs.YtjhdmghpklagkaaGreat.Blk
open Go.Proofs.YtjhdmghpklagkaaGreat.Mgb

theorem stox_below {M Y : Nat} {b : Option Addr} {d : Nat} {ts : List T} {w w' : World} (o : StoX M Y b d ts w) (hb : Below w.heap.size w w') : StoX M Y b d ts w' := by
  rcases o with h | ⟨k, e, f, o, r⟩
  · exact .inl h
  · exact .inr ⟨k, e, f, o.below hb, r⟩
set_option maxRecDepth 10000 in
set_option maxHeartbeats 8000000 in
theorem f23x (X : Nat) (a : Option Addr) (n c k : Nat) (R : List Bk) (L U : Nat → Nat) (w : World) (hn : R.length = n) (hb : n ≤ 1048576) (hk : k + mkK R n ≤ 100000000) (hr : RowK OwnX X a n c (mbs k R) L U w) (hsz : ∀ i, i < n → SmlB (R.getD i k0)) :
    Calls Tryz.prog 23 #[.slice a n c, .int .i64 k] w fun e w' => e = .returned (.int .i64 ((k + mkK R n : Nat) : Int)) ∧ Below w.heap.size w w' := by
  have HN := hid hn
  have HK := hid hk
  have HR := hid hr
  have HSz := hid hsz
  clear hn hk hr hsz
  go_enter Tryz.func23, Tryz.ntmps23
  go_wp2
  go_loopw [1, 5] (fun sk si wr => ∃ (i m : Nat), i ≤ n ∧ si = .int .i64 i ∧ sk = .int .i64 (m : Int) ∧ Hid (m = k + mkK R i) ∧ Hid (Below w.heap.size w wr)) (fun _ si _ => n - (intOf si).toNat)
  case atStart => exact ⟨0, k, Nat.zero_le _, rfl, rfl, rfl, Below.refl _ _⟩
  case round =>
    obtain ⟨i, m, hi, rfl, rfl, hm, HX⟩ := hrel
    by_cases hlt : i < n
    rotate_left
    · obtain rfl : i = n := by omega
      go_wp2
      go_ret
      exact ⟨by rw [← hm.out]; rfl, HX.out⟩
    have hrw := HR.out.below wayX HX.out
    obtain ⟨g, off, rfl, hbl, ⟨c0, c1, c2, c3, c4⟩, _⟩ := (hrw.has wayX).at2 i (by rw [mbs_len, HN.out]; exact hlt)
    have ho := hrw.each i hlt
    have HMs : Hid (mkK R (i + 1) = mkK R i + mkb (R.getD i k0)) := rfl
    have HMn := hid (mkK_mono R n (i + 1) hlt)
    have HSq := hid (HSz.out i hlt)
    rw [mbs_get k R i (by rw [HN.out]; exact hlt), ← hm.out] at c0 c1 c2 c3 c4 ho
    generalize R.getD i k0 = q at *
    obtain ⟨M, _, _, og, _, _, ot⟩ := ho.ex
    have N1 : Hid (m + mkb q ≤ 100000000) := by unfold Hid; have := hm.out; have := HK.out; have := HMn.out; have := HMs.out; omega
    have N2 := N1.out
    unfold mkb at N2
    simp only [mb, mqs_len, mts_len] at c0 c1 c2 c3 c4 og ot
    have HOG := hid og
    have HOT := hid ot
    have c2' : wr.cell? ⟨g, off + i * 5 + 2, none⟩ = some (.int .i64 ((m : Int) + 1 + 1)) := by rw [c2, show (m : Int) + 2 = (m : Int) + 1 + 1 by omega]
    clear hrw ho og ot c2
    have hq1 : q.qs.length ≤ 1048576 := HSq.out.1
    have hq2 : q.ts.length ≤ 1048576 := HSq.out.2.2.1
    have hN : m + 3 ≤ 100000000 := by omega
    have g0 : ((m : Int) != (m : Int)) = false := by simp
    have g1 : ((m : Int) + 1 != (m : Int) + 1) = false := by simp
    have g2 : ((m : Int) + 1 + 1 != (m : Int) + 1 + 1) = false := by simp
    obtain ⟨m3, hm3⟩ : ∃ m3 : Nat, m3 = m + 3 := ⟨_, rfl⟩
    have e3 : (m : Int) + 1 + 1 + 1 = (m3 : Int) := by omega
    have HM3 := hid hm3
    have hk3 : m3 + 2 * tot q.qs q.qs.length ≤ 100000000 := by omega
    rw [← hm3] at HOG HOT
    clear hm3
    go_wp2_with fail
    refine (Srs.held_ans (n := q.qs.length) (k := m3) rfl HOG.out hq1 hk3).mono ?_
    rintro e w2 ⟨rfl, hb2⟩
    have HX2 := hid (HX.out.trans (hb2.mono HX.out.size))
    have d4 := (hb2.cell (p := ⟨g, off + i * 5 + 4, none⟩) hbl).trans c4
    have HOT2 := hid (stox_below HOT.out hb2)
    clear hb2 c0 c1 c2' c3 c4 hbl HX HOT HOG e3 g0 g1 g2
    obtain ⟨m4, hm4⟩ : ∃ m4 : Nat, m4 = m3 + 2 * tot q.qs q.qs.length := ⟨_, rfl⟩
    have HM4 := hid hm4
    have hk4 : m4 + mk q.ts q.ts.length ≤ 100000000 := by have := HM3.out; omega
    rw [← hm4] at HOT2 ⊢
    clear hm4 hk3
    have hm5 : ¬ (m4 : Int) < 0 := by omega
    go_wp2_with fail
    refine (held_sto M (U i) q.b q.d m4 q.ts _ hq2 hk4 HOT2.out).mono ?_
    rintro e w3 ⟨rfl, hb3⟩
    have HX3 := hid (HX2.out.trans (hb3.mono HX2.out.size))
    clear hb3 d4 HX2 HOT2
    obtain ⟨m5, hm5e⟩ : ∃ m5 : Nat, m5 = m4 + mk q.ts q.ts.length := ⟨_, rfl⟩
    have HE5 : Hid (m5 = k + mkK R (i + 1)) := by unfold Hid; have h1 := hm.out; have h2 := HMs.out; unfold mkb at h2; have := HM3.out; have := HM4.out; omega
    have hm6 : ¬ (m5 : Int) < 0 := by omega
    rw [← hm5e]
    clear hm5e
    go_wp2
    go_roundw
    case rel => exact ⟨i + 1, m5, by omega, by go_num, rfl, HE5.out, HX3.out⟩
    case measure => simp [intOf]; omega
end Go.Proofs.YtjhdmghpklagkaaGreat.Pln
namespace Go.Proofs.YtjhdmghpklagkaaGreat.Pln
open Go.RowKit
open Go.Proofs.YtjhdmghpklagkaaGreat.Srs (q0)
open Go.Proofs.YtjhdmghpklagkaaGreat.Blk
open Go.Proofs.YtjhdmghpklagkaaGreat.Mgb
open Go.Proofs.YtjhdmghpklagkaaGreat.Shf (wid BadW)

theorem mu_range (R : List Bk) : mu R = ((List.range R.length).map fun i => (5 - (R.getD i k0).L).toNat).sum := by
  unfold mu
  congr 1
  apply List.ext_getElem
  · simp
  · intro i h1 h2
    simp at h1
    simp [h1]
def lvl (w : World) (p : Addr) (i : Nat) : Nat := match w.cell? ⟨p.block, p.off + i * 5 + 2, none⟩ with
  | some (.int .i64 L) => (5 - L).toNat
  | _ => 0
def mz (v : Value) (w : World) : Nat := match v with
  | .slice (some p) n _ => ((List.range n).map (lvl w p)).sum
  | _ => 0
theorem mz_eq {w : World} {a : Option Addr} {n c : Nat} {R : List Bk} (h : HasK w a R) (hn : R.length = n) : mz (.slice a n c) w = mu R := by
  subst hn
  rw [mu_range]
  by_cases h0 : R.length = 0
  · rw [h0]
    cases a <;> simp [mz]
  · obtain ⟨b, off, rfl, _⟩ := h.at2 0 (by omega)
    unfold mz
    simp only
    congr 1
    refine List.map_congr_left fun i hi => ?_
    obtain ⟨b', off', e, _, ⟨_, _, c2, _⟩, _⟩ := h.at2 i (List.mem_range.1 hi)
    cases e
    unfold lvl
    rw [c2]
theorem mbk_same {b : Int} {n : Nat} {bs d : List Bk} (s : SameK n bs d) (hn : bs.length = n) (hl : d.length = n) (g : GoodK b bs) (h0 : 0 < bs.length) : mbk b d = mbk b bs := by
  have eL : mxl d = mxl bs := by
    unfold mxl
    have key : ∀ k, k ≤ n → (d.take k).foldl (fun a h => max a h.L) 0 = (bs.take k).foldl (fun a h => max a h.L) 0 := by
      intro k
      induction k with
      | zero => intro _; rfl
      | succ k ih =>
        intro hk
        have h1 := lmK_next (bs := d) (show k < d.length by omega)
        have h2 := lmK_next (bs := bs) (show k < bs.length by omega)
        unfold lmK at h1 h2
        rw [h1, h2, ih (by omega), (s k (by omega)).eL]
    have := key n (Nat.le_refl _)
    rw [List.take_of_length_le (by omega), List.take_of_length_le (by omega)] at this
    exact this
  have eW : wdM b d = wdM b bs := by unfold wdM; rw [eL]
  have eS : srM d = srM bs := by
    unfold srM Hpl.shl
    rw [hl, hn, Hpl.sels_same s hn hl (fun i hi => (g.2.2 i (by rw [hn]; exact hi)).2.1) goodM_nil n (Nat.le_refl _)]
  have eF : frM b d = frM b bs := by unfold frM; rw [(s 0 (by omega)).eF, eW]
  have eT : toM b d = toM b bs := by unfold toM; rw [eF, eW]
  unfold mbk
  rw [eF, eT, eL, eS]
theorem gr_same {b L q : Int} {n : Nat} {A R : List Bk} {s e : Nat} (sk : SameK n A R) (hA : A.length = n) (hR : R.length = n) (r : Gr b L R s e q) : Gr b L A s e q := by
  have he := r.el
  refine ⟨r.se, by omega, fun i hi => ?_, fun i h1 h2 => ?_⟩
  · have := r.iff i (by omega)
    rw [(sk i (by omega)).eF] at this
    exact this
  · have := r.beh i h1 (by omega)
    rw [(sk i (by omega)).eF] at this
    exact this
theorem stp_same {b L q : Int} {n : Nat} {A R : List Bk} {s e : Nat} (sk : SameK n A R) (hA : A.length = n) (hR : R.length = n) (g : GoodK b A) (r : Stp b L q R s e) : Stp b L q A s e :=
  ⟨r.l2, r.l4, (cand_same sk hA hR g).1 r.cand, fun L' q' h1 h2 c => r.lev L' q' h1 h2 ((cand_same sk hA hR g).2 c), fun q' h c => r.fst q' h ((cand_same sk hA hR g).2 c), gr_same sk hA hR r.gr⟩
theorem step_same {b L q : Int} {n : Nat} {A R : List Bk} {s e : Nat} {hG : Bk} (sk : SameK n A R) (hA : A.length = n) (hR : R.length = n) (g : GoodK b A) (r : Stp b L q R s e) (hs : SameB (mbk b (grp (wid b L) q R)) hG) :
    SameK (s + 1 + (n - e)) (rpl s e (mbk b (grp (wid b L) q A)) A) (rpl s e hG R) ∧ GoodK b (rpl s e (mbk b (grp (wid b L) q A)) A) ∧ mu (rpl s e hG R) < mu R ∧ (∀ x, Cmp b (rpl s e (mbk b (grp (wid b L) q A)) A) x → Cmp b A x) := by
  have r' := stp_same sk hA hR g r
  obtain ⟨e1, e2⟩ := grp_same (W := wid b L) (q := q) sk hA hR
  have h0 : 0 < (grp (wid b L) q A).length := r'.cand.2.2.1
  have em := mbk_same e2 rfl e1 (good_filter g _) h0
  rw [em] at hs
  have hse := r.gr.se
  have hel := r.gr.el
  refine ⟨rpl_same hse (by omega) hA hR sk hs, rpl_good g r.l2 r.l4 r'.gr r'.cand, ?_, fun x hx => .step r' hx⟩
  refine rpl_mu r.l2 r.l4 r.gr r.cand ?_
  rw [hs.eL]
  exact (mbk_F g r.l2 r.l4 r'.gr r'.cand).2.2
end Go.Proofs.YtjhdmghpklagkaaGreat.Pln
namespace Go.Proofs.YtjhdmghpklagkaaGreat.Pln
open Go.RowKit
open Go.Proofs.YtjhdmghpklagkaaGreat.Srs (hid lt_at kept blk own_below Q q0 HasQ FitQ SmlQ OwnO OwnG Own2 pl Pl qOf)
open Go.Proofs.YtjhdmghpklagkaaGreat.Stn (T t0 OwnT HasT)
open Go.Proofs.YtjhdmghpklagkaaGreat.Blk
open Go.Proofs.YtjhdmghpklagkaaGreat.Mgb
open Go.Proofs.YtjhdmghpklagkaaGreat.Hpl
open Go.Proofs.YtjhdmghpklagkaaGreat.Shf (wid BadW)

theorem mg_fit {b : Int} {bs : List Bk} {hG : Bk} (g : GoodK b bs) (hf : FitK bs) (hk : okM b bs) (s : SameB (mbk b bs) hG) (ht : hG.ts = []) : FitB hG ∧ SmlB hG := by
  have hm : hG.qs.map pl = srM bs := by
    rw [← map_qof (srM bs)]
    have hl := s.lq
    apply List.ext_getElem
    · rw [List.length_map, List.length_map]; exact hl
    · intro i h1 h2
      rw [List.length_map] at h1
      have h3 := s.sq i (by rw [← hl]; exact h1)
      rw [List.getElem_map, List.getElem_map]
      have h4 : i < (mbk b bs).qs.length := by omega
      have e1 : hG.qs.getD i q0 = hG.qs[i] := by simp [h1]
      have e2 : (mbk b bs).qs.getD i q0 = (mbk b bs).qs[i] := by simp [h4]
      rw [e1, e2] at h3
      exact h3
  have hfit := shl_fit (x := 0) (y := 1000000000000) (ms := []) hm g.2.1 (fun i hi => ans_okm (g.2.2 i hi).2.1 (hf i))
  have hgd := hk.2.2.2
  have hhd := hgd.1
  unfold Blk.Head at hhd
  have hlen : hG.qs.length ≤ 200 := by have := hgd.2.1.1; have := s.lq; omega
  refine ⟨⟨⟨by rw [s.eF]; omega, by rw [s.eF]; omega⟩, ⟨by rw [s.eT]; omega, by rw [s.eT]; omega⟩, ⟨by rw [s.eL]; omega, by rw [s.eL]; omega⟩, hfit.1, by unfold maxLen; omega, fun i => by rw [ht]; simp only [List.getD_nil]; exact Stn.fit_t0, by rw [ht]; exact Nat.zero_le _⟩, ⟨by omega, hfit.2, by rw [ht]; exact Nat.zero_le _, fun i hi => by rw [ht] at hi; simp at hi⟩⟩
theorem row_cap {w : World} {base e size n m c : Nat} {a : Option Addr} {xs : List Value} (h : w.ownsRow base e size (.slice a n c) m xs) : n ≤ c := by
  rcases h.2 with ⟨h1, _⟩ | ⟨g, cap, cur, h1, _, _, h4, _⟩
  · simp only [Value.slice.injEq] at h1; omega
  · simp only [Value.slice.injEq] at h1; omega
theorem ownx_caps {X Y : Nat} {h : Bk} {w : World} (o : OwnX X Y h w) : h.ts.length ≤ h.d ∧ ∀ j, j < h.qs.length → (h.qs.getD j q0).s.length ≤ (h.qs.getD j q0).d := by
  obtain ⟨M, _, _, o1, _, _, o2⟩ := o.ex
  refine ⟨?_, fun j hj => row_cap (o1.own j hj).smp⟩
  rcases o2 with ⟨e, _, _⟩ | ⟨k, _, e, _⟩
  · rw [e]; exact Nat.zero_le _
  · omega
structure Shx (X : Nat) (a : Option Addr) (n c : Nat) (R : List Bk) (w : World) : Prop where
  ex : ∃ L U, RowK OwnX X a n c R L U w ∧ (∀ i, i < n → X ≤ L i) ∧ (∀ i j, i < n → j < n → i ≠ j → U i ≤ L j ∨ U j ≤ L i)
  fit : FitK R
  sml : SmlK R
theorem Shx.ofC {X : Nat} {a : Option Addr} {n c : Nat} {R : List Bk} {w : World} (h : Blk.Ans X a n c R w) (hf : FitK R) (hz : SmlK R) : Shx X a n c R w := by
  obtain ⟨L, U, h1, h2, h3⟩ := h.ex
  refine ⟨⟨L, U, ⟨h1.len, h1.row, fun i hi => .ofC (h1.each i hi), h1.off⟩, h2, fun i j hi hj hne => ?_⟩, hf, hz⟩
  rcases Nat.lt_or_gt_of_ne hne with e | e
  · exact .inl (h3 i j e hj)
  · exact .inr (h3 j i e hi)
theorem Shx.len {X : Nat} {a : Option Addr} {n c : Nat} {R : List Bk} {w : World} (h : Shx X a n c R w) : R.length = n := by
  obtain ⟨L, U, h1, _⟩ := h.ex
  exact h1.len
theorem Shx.has {X : Nat} {a : Option Addr} {n c : Nat} {R : List Bk} {w : World} (h : Shx X a n c R w) : HasK w a R := by
  obtain ⟨L, U, h1, _⟩ := h.ex
  exact h1.has wayX
theorem Shx.caps {X : Nat} {a : Option Addr} {n c : Nat} {R : List Bk} {w : World} (h : Shx X a n c R w) : n ≤ c ∧ ∀ i, i < n → (R.getD i k0).ts.length ≤ (R.getD i k0).d ∧ ∀ j, j < (R.getD i k0).qs.length → ((R.getD i k0).qs.getD j q0).s.length ≤ ((R.getD i k0).qs.getD j q0).d := by
  obtain ⟨L, U, h1, _⟩ := h.ex
  exact ⟨row_cap h1.row, fun i hi => ownx_caps (h1.each i hi)⟩
theorem Shx.below {X : Nat} {a : Option Addr} {n c : Nat} {R : List Bk} {w w' : World} (h : Shx X a n c R w) (hb : Below w.heap.size w w') : Shx X a n c R w' := by
  obtain ⟨L, U, h1, h2, h3⟩ := h.ex
  exact ⟨⟨L, U, h1.below wayX hb, h2, h3⟩, h.fit, h.sml⟩
theorem Shx.rpl {X g n c i j : Nat} {R : List Bk} {hG : Bk} {wr w3 w4 w5 : World} (h : Shx X (some ⟨g, 0, none⟩) n c R wr) (hX : X ≤ wr.heap.size) (hb : Below wr.heap.size wr w3) (ha : Am wr.heap.size hG w3) (hb2 : Below w3.heap.size w3 w4) (hg : w4.grownBy w5 (some g)) (hij : i < j) (hjn : j < n)
    (hr : w5.ownsRow X 36 5 (.slice (some ⟨g, 0, none⟩) (i + 1 + (n - j)) c) (i + 1 + (n - j)) (flatK (Pln.rpl i j hG R))) (hf : FitB hG) (hz : SmlB hG) : Shx X (some ⟨g, 0, none⟩) (i + 1 + (n - j)) c (Pln.rpl i j hG R) w5 := by
  obtain ⟨L, U, h1, h2, h3⟩ := h.ex
  have hl := h1.len
  have hget := rpl_get (s := i) (e := j) (h := hG) (bs := R) hij (by omega)
  have hlen := rpl_len (s := i) (e := j) (h := hG) (bs := R) hij (by omega)
  have hgw : g < wr.heap.size := (h1.row.lt g rfl).2
  have htop : ∀ k, k < n → U k ≤ wr.heap.size := fun k hk => (h1.each k hk).top
  have old : ∀ k, k < n → OwnX (L k) (U k) (R.getD k k0) w5 := fun k hk =>
    ownx_grown (((h1.each k hk).below hb).below hb2) hg (fun g' e => by cases e; exact h1.off g rfl k hk)
  have new : OwnX wr.heap.size w3.heap.size hG w5 :=
    ownx_grown ((OwnX.ofA ha hb.size).below hb2) hg (fun g' e => by cases e; exact .inl hgw)
  have hbs := hb.size
  refine ⟨⟨fun k => if k < i then L k else if k = i then wr.heap.size else L (k + j - i - 1), fun k => if k < i then U k else if k = i then w3.heap.size else U (k + j - i - 1), ⟨by rw [hlen, hl], hr, fun k hk => ?_, fun g' e k hk => ?_⟩, fun k hk => ?_, fun k m hk hm hne => ?_⟩, fun k => ?_, fun k hk => ?_⟩
  · rw [hget k]
    by_cases c1 : k < i
    · simp only [if_pos c1]; exact old k (by omega)
    · simp only [if_neg c1]
      by_cases c2 : k = i
      · simp only [if_pos c2]; exact new
      · simp only [if_neg c2]; exact old _ (by omega)
  · cases e
    by_cases c1 : k < i
    · simp only [if_pos c1]; exact h1.off g rfl k (by omega)
    · simp only [if_neg c1]
      by_cases c2 : k = i
      · simp only [if_pos c2]; exact .inl hgw
      · simp only [if_neg c2]; exact h1.off g rfl _ (by omega)
  · by_cases c1 : k < i
    · simp only [if_pos c1]; exact h2 k (by omega)
    · simp only [if_neg c1]
      by_cases c2 : k = i
      · simp only [if_pos c2]; exact hX
      · simp only [if_neg c2]; exact h2 _ (by omega)
  · have hold : ∀ p q, p < n → q < n → p ≠ q → U p ≤ L q ∨ U q ≤ L p := fun p q a b c => h3 p q a b c
    by_cases c1 : k < i
    · by_cases d1 : m < i
      · simp only [if_pos c1, if_pos d1]; exact hold k m (by omega) (by omega) hne
      · by_cases d2 : m = i
        · simp only [if_pos c1, if_neg d1, if_pos d2]; exact .inl (htop k (by omega))
        · simp only [if_pos c1, if_neg d1, if_neg d2]; exact hold k _ (by omega) (by omega) (by omega)
    · by_cases c2 : k = i
      · by_cases d1 : m < i
        · simp only [if_neg c1, if_pos c2, if_pos d1]; exact .inr (htop m (by omega))
        · by_cases d2 : m = i
          · omega
          · simp only [if_neg c1, if_pos c2, if_neg d1, if_neg d2]; exact .inr (htop _ (by omega))
      · by_cases d1 : m < i
        · simp only [if_neg c1, if_neg c2, if_pos d1]; exact hold _ m (by omega) (by omega) (by omega)
        · by_cases d2 : m = i
          · simp only [if_neg c1, if_neg c2, if_neg d1, if_pos d2]; exact .inl (htop _ (by omega))
          · simp only [if_neg c1, if_neg c2, if_neg d1, if_neg d2]; exact hold _ _ (by omega) (by omega) (by omega)
  · rw [hget k]
    by_cases c1 : k < i
    · rw [if_pos c1]; exact h.fit k
    · rw [if_neg c1]
      by_cases c2 : k = i
      · rw [if_pos c2]; exact hf
      · rw [if_neg c2]; exact h.fit _
  · rw [hlen, hl] at hk
    rw [hget k]
    by_cases c1 : k < i
    · rw [if_pos c1]; exact h.sml k (by omega)
    · rw [if_neg c1]
      by_cases c2 : k = i
      · rw [if_pos c2]; exact hz
      · rw [if_neg c2]; exact h.sml _ (by omega)
end Go.Proofs.YtjhdmghpklagkaaGreat.Pln
namespace Go.Proofs.YtjhdmghpklagkaaGreat.Pln
open Go.RowKit
open Go.Proofs.YtjhdmghpklagkaaGreat.Srs (hid lt_at kept q0)
open Go.Proofs.YtjhdmghpklagkaaGreat.Blk
open Go.Proofs.YtjhdmghpklagkaaGreat.Mgb
open Go.Proofs.YtjhdmghpklagkaaGreat.Shf (wid BadW)

def CpA (b : Int) (bs A : List Bk) : Prop := (¬ GoodK b bs ∧ A = []) ∨ (GoodK b bs ∧ Cmp b bs A)
structure GivesX (b : Int) (bs : List Bk) (w : World) (e : Ending) (w' : World) : Prop where
  ex : ∃ (a : Option Addr) (n c : Nat) (A R : List Bk), e = .returned (.slice a n c) ∧ CpA b bs A ∧ A.length = n ∧ SameK n A R ∧ Shx w.heap.size a n c R w'
  bel : Below w.heap.size w w'
theorem Shx.nil (X : Nat) (w : World) : Shx X none 0 0 [] w := ⟨⟨fun _ => 0, fun _ => 0, RowK.nil _ _ _ _, fun i hi => by omega, fun i j hi => by omega⟩, fun i => by simp only [List.getD_nil]; exact fit_k0, fun i hi => by simp at hi⟩
structure Lp (b : Int) (bs : List Bk) (X : Nat) (a : Option Addr) (n c : Nat) (A R : List Bk) (w : World) : Prop where
  shx : Shx X a n c R w
  len : A.length = n
  same : SameK n A R
  good : GoodK b A
  cmp : ∀ r, Cmp b A r → Cmp b bs r
theorem Lp.goodR {b : Int} {bs : List Bk} {X : Nat} {a : Option Addr} {n c : Nat} {A R : List Bk} {w : World} (h : Lp b bs X a n c A R w) : GoodK b R := h.same.good h.len h.shx.len h.good
theorem Lp.mz {b : Int} {bs : List Bk} {X : Nat} {a : Option Addr} {n c : Nat} {A R : List Bk} {w : World} (h : Lp b bs X a n c A R w) : Pln.mz (.slice a n c) w = mu R := mz_eq h.shx.has h.shx.len
set_option maxRecDepth 10000 in
set_option maxHeartbeats 8000000 in
theorem f22 (b : Int) (a : Option Addr) (n c : Nat) (bs : List Bk) (w : World) (hb0 : -9223372036854775808 ≤ b) (hb1 : b ≤ 9223372036854775807) (hn : bs.length = n) (hb : n ≤ 1048576) (hr : HasK w a bs) (hf : FitK bs) (hz : SmlK bs)
    (hcap : ∀ i, i < n → ∀ j, j < (bs.getD i k0).qs.length → ((bs.getD i k0).qs.getD j q0).d = ((bs.getD i k0).qs.getD j q0).s.length) :
    Calls Tryz.prog 22 #[.int .i64 b, .slice a n c] w (GivesX b bs w) := by
  have HN := hid hn
  have HR := hid hr
  have HF := hid hf
  have HZ := hid hz
  have HCp := hid hcap
  have H1 := hid (f37 b a n c bs w hb0 hb1 hn hb hr hf hz)
  clear hn hr hf hz hcap
  go_enter Tryz.func22, Tryz.ntmps22
  go_wp2_with fail
  refine H1.out.mono ?_
  rintro e w2 ⟨rfl, hb2⟩
  have HB2 := hid hb2
  clear hb2 H1
  cases hg : gdK b bs
  · have HNo : Hid (¬ GoodK b bs) := fun h => by rw [gdK_yes h] at hg; cases hg
    go_wp2
    go_ret
    exact ⟨⟨none, 0, 0, [], [], rfl, .inl ⟨HNo.out, rfl⟩, rfl, fun i hi => by omega, Shx.nil _ _⟩, HB2.out⟩
  have HGK := hid (gdK_iff.1 hg)
  clear hg
  have hn100 : n ≤ 100 := by rw [← HN.out]; exact HGK.out.2.1
  have HCc := hid (f45 a n c bs w2 HN.out hn100 (HR.out.below HB2.out) (fun i hi => good_cpb (HGK.out.2.2 i (by rw [HN.out]; exact hi)).2.1 (HZ.out i (by rw [HN.out]; exact hi)) (HCp.out i hi)))
  go_wp2_with fail
  refine HCc.out.mono ?_
  rintro e w3 ⟨a3, c3, R3, rfl, hA3, hs3, hb3⟩
  have HL3 : Hid (Lp b bs w2.heap.size a3 n c3 bs R3 w3) := by
    have hl3 : R3.length = n := by obtain ⟨L, U, h1, _⟩ := hA3.out.ex; exact h1.len
    exact ⟨Shx.ofC hA3.out (hs3.out.fit hl3 HF.out) (hs3.out.sml hl3 HN.out HZ.out), HN.out, hs3.out, HGK.out, fun r h => h⟩
  have HB3 := hid hb3
  clear hA3 hs3 hb3 HCc
  go_wp2
  go_loopw [5] (fun s5 wr => ∃ (a' : Option Addr) (n' c' : Nat) (A R : List Bk), s5 = .slice a' n' c' ∧ n' ≤ 100 ∧ Hid (Lp b bs w2.heap.size a' n' c' A R wr) ∧ Hid (Below w2.heap.size w2 wr)) (fun s5 wr => mz s5 wr)
  case atStart => exact ⟨a3, n, c3, bs, R3, rfl, hn100, HL3, HB3⟩
  case round =>
    clear HL3 HB3
    obtain ⟨a', n', c', A, R, rfl, hn', HL, HX⟩ := hrel
    have HPl := hid (f38 b a' n' c' R wr HL.out.goodR HL.out.shx.len HL.out.shx.caps.1 HL.out.shx.has HL.out.shx.fit HL.out.shx.sml HL.out.shx.caps.2)
    go_wp2_with fail
    refine HPl.out.mono ?_
    rintro e4 w4 ⟨s, t, hG, ok, rfl, hh, hb4⟩
    have HH := hid hh.out
    have HB4 := hid hb4
    clear hh hb4 HPl
    obtain ⟨F, TT, LL, qs, ga, gc, ts, gb, gd⟩ := hG
    simp only [ag7]
    obtain ⟨W5, hW5⟩ : ∃ W, W = w4.alloc (.cells #[.int .i64 s, .int .i64 t, .int .i64 F, .int .i64 TT, .int .i64 LL, .slice ga qs.length gc, .slice gb ts.length gd] 59) := ⟨_, rfl⟩
    obtain ⟨hba, hbx⟩ := two_new hW5
    have HBa := hid hba
    have HX5 := hid hbx
    clear hba hbx
    go_upto_region 5 with fail
    rw [← hW5]
    clear hW5
    cases ok
    · have HE : Hid (GivesX b bs w (.returned (.slice a' n' c')) W5) := by
        have hb5 : Below wr.heap.size wr W5 := HB4.out.trans (HBa.out.mono HB4.out.size)
        have hC : Cmp b A A := .done (fun L q h1 h2 cc => by
          rcases HH.out with ⟨h, _⟩ | ⟨_, _, _, h⟩
          · cases h
          · exact h L q h1 h2 ((cand_same HL.out.same HL.out.len HL.out.shx.len HL.out.good).2 cc))
        obtain ⟨L, U, h1, h2, h3⟩ := (HL.out.shx.below hb5).ex
        refine ⟨⟨a', n', c', A, R, rfl, .inr ⟨HGK.out, HL.out.cmp A hC⟩, HL.out.len, HL.out.same, ⟨⟨L, U, ⟨h1.len, Srs.own_base h1.row HB2.out.size, h1.each, h1.off⟩, fun i hi => Nat.le_trans HB2.out.size (h2 i hi), h3⟩, HL.out.shx.fit, HL.out.shx.sml⟩⟩, ?_⟩
        exact HB2.out.trans ((HX.out.trans (hb5.mono HX.out.size)).mono HB2.out.size)
      go_wp2
      go_ret
      exact HE.out
    obtain ⟨L, q, HY⟩ : ∃ L q, Hid (2 ≤ L ∧ L ≤ 4 ∧ PLy b L R s t q ⟨F, TT, LL, qs, ga, gc, ts, gb, gd⟩ wr.heap.size w4 ∧ ∀ L' q', 2 ≤ L' → L' < L → ¬ Cand b L' q' R) := by
      rcases HH.out with ⟨_, L, q, h⟩ | ⟨h, _⟩
      · exact ⟨L, q, h⟩
      · cases h
    have HSt : Hid (Stp b L q R s t) := ⟨HY.out.1, HY.out.2.1, HY.out.2.2.1.cand, HY.out.2.2.2, HY.out.2.2.1.fst, HY.out.2.2.1.gr⟩
    have HSs := hid (step_same HL.out.same HL.out.len HL.out.shx.len HL.out.good HSt.out HY.out.2.2.1.same)
    have hst : s < t := HSt.out.gr.se
    have htn : t < n' := by
      have h1 := ((cand_iff HL.out.goodR HY.out.1 HY.out.2.1 HSt.out.gr).1 HSt.out.cand).2.1
      rw [HL.out.shx.len] at h1
      exact h1
    obtain ⟨g, rfl⟩ : ∃ g, a' = some ⟨g, 0, none⟩ := by
      obtain ⟨L, U, h1, _⟩ := HL.out.shx.ex
      rcases h1.row.2 with ⟨_, h2⟩ | ⟨g, cap, cur, h2, _⟩
      · omega
      · simp only [Value.slice.injEq] at h2; exact ⟨g, h2.1⟩
    have HFt := hid (mg_fit (good_filter HL.out.goodR _) (fit_filter _ HL.out.shx.fit) HSt.out.cand.2.2 HY.out.2.2.1.same HY.out.2.2.1.own.ts)
    obtain ⟨x0, x1, x2, x3, x4, x5, x6⟩ := seven HX5.out
    obtain ⟨W6, hW6⟩ : ∃ W, W = W5.alloc (.cells #[.int .i64 F, .int .i64 TT, .int .i64 LL, .slice ga qs.length gc, .slice gb ts.length gd] 36) := ⟨_, rfl⟩
    obtain ⟨hba, hbx⟩ := two_new hW6
    have hb46 : Below w4.heap.size w4 W6 := HBa.out.trans (hba.mono HBa.out.size)
    have hbr6 : Below wr.heap.size wr W6 := HB4.out.trans (hb46.mono HB4.out.size)
    have HRp : Hid (Calls Tryz.prog 46 #[.slice (some ⟨g, 0, none⟩) n' c', .int .i64 s, .int .i64 t, .slice (some ⟨W5.heap.size, 0, none⟩) 1 1] W6 fun e w' => e = .returned (.slice (some ⟨g, 0, none⟩) (s + 1 + (n' - t)) c') ∧ w'.ownsRow w2.heap.size 36 5 (.slice (some ⟨g, 0, none⟩) (s + 1 + (n' - t)) c') (s + 1 + (n' - t)) (flatK (rpl s t ⟨F, TT, LL, qs, ga, gc, ts, gb, gd⟩ R)) ∧ W6.grownBy w' (some g)) := by
      obtain ⟨L, U, h1, _⟩ := (HL.out.shx.below hbr6).ex
      exact f46 g n' c' s t w2.heap.size W5.heap.size R ⟨F, TT, LL, qs, ga, gc, ts, gb, gd⟩ W6 h1.row h1.len hst htn hn' hbx
    have HB46 := hid hb46
    have HX2 : w2.heap.size ≤ wr.heap.size := HX.out.size
    clear hba hbx hb46 hbr6
    go_wp2_with fail
    rw [← hW6]
    clear hW6
    refine HRp.out.mono ?_
    rintro e7 w7 ⟨rfl, hr7, hg7⟩
    have HL7 : Hid (Lp b bs w2.heap.size (some ⟨g, 0, none⟩) (s + 1 + (n' - t)) c' (rpl s t (mbk b (grp (wid b L) q A)) A) (rpl s t ⟨F, TT, LL, qs, ga, gc, ts, gb, gd⟩ R) w7) :=
      ⟨HL.out.shx.rpl HX2 HB4.out HY.out.2.2.1.own HB46.out hg7 hst htn hr7 HFt.out.1 HFt.out.2, by rw [rpl_len hst (by rw [HL.out.len]; omega), HL.out.len], HSs.out.1, HSs.out.2.1, fun r hr => HL.out.cmp r (HSs.out.2.2.2 r hr)⟩
    have HX7 : Hid (Below w2.heap.size w2 w7) := by
      have h6 : Below w2.heap.size w2 W6 := HX.out.trans ((HB4.out.trans (HB46.out.mono HB4.out.size)).mono HX2)
      refine h6.grown hg7 h6.size (fun k hk => ?_)
      cases hk
      obtain ⟨L, U, h1, _⟩ := HL.out.shx.ex
      exact (h1.row.lt g rfl).1
    have HMz : Hid (mz (.slice (some ⟨g, 0, none⟩) (s + 1 + (n' - t)) c') w7 < mz (.slice (some ⟨g, 0, none⟩) n' c') wr) := by
      unfold Hid
      rw [HL7.out.mz, HL.out.mz]
      exact HSs.out.2.2.1
    have hn7 : s + 1 + (n' - t) ≤ 100 := by omega
    clear hr7 hg7 x0 x1 x2 x3 x4 x5 x6
    go_wp2
    go_roundw
    case rel => exact ⟨_, _, _, _, _, rfl, hn7, HL7, HX7⟩
    case measure => exact HMz.out
end Go.Proofs.YtjhdmghpklagkaaGreat.Pln
namespace Go.Proofs.YtjhdmghpklagkaaGreat.Pln
open Go.RowKit
open Go.Proofs.YtjhdmghpklagkaaGreat.Smp (own_form)
open Go.Proofs.YtjhdmghpklagkaaGreat.Srs (hid lt_at kept q0)
open Go.Proofs.YtjhdmghpklagkaaGreat.Blk

set_option maxHeartbeats 4000000 in
theorem f77 (a : Option Addr) (n c : Nat) (bs : List Bk) (w : World) (hn : bs.length = n) (hb : n ≤ 100) (hr : HasK w a bs) (hc : ∀ i, i < n → Cpb (bs.getD i k0)) :
    Calls Tryz.prog 77 #[.slice a n c] w fun e w' => ∃ (a' : Option Addr) (c' : Nat) (R : List Bk), e = .returned (.slice a' n c') ∧ Hid (R.length = n ∧ SameK n bs R ∧ HasK w' a' R ∧ n ≤ c') ∧ Below w.heap.size w w' := by
  obtain ⟨i0, hi, hz0, hz1, hz2⟩ := info_parts infoK
  have HN := hid hn
  have HR := hid hr
  have HC := hid hc
  clear hn hr hc
  go_enter Tryz.func77, Tryz.ntmps77
  go_wp2
  go_loopw [3, 8] (fun so si wr => ∃ (k c' : Nat) (a' : Option Addr) (R : List Bk) (L U : Nat → Nat), k ≤ n ∧ si = .int .i64 k ∧ so = .slice a' k c' ∧ Hid (RowK InB w.heap.size a' k c' R L U wr) ∧ Hid (SameK k bs R) ∧ Hid (Below w.heap.size w wr)) (fun _ si _ => n - (intOf si).toNat)
  case atStart => exact ⟨0, 0, none, [], fun _ => 0, fun _ => 0, Nat.zero_le _, rfl, rfl, RowK.nil _ _ _ _, fun i hi => by omega, Below.refl _ _⟩
  case round =>
    obtain ⟨k, c', a', R, L, U, hk, rfl, rfl, HO, HS, HX⟩ := hrel
    by_cases hlt : k < n
    rotate_left
    · obtain rfl : k = n := by omega
      have HE : Hid (R.length = k ∧ SameK k bs R ∧ HasK wr a' R ∧ k ≤ c') := ⟨HO.out.len, HS.out, HO.out.has wayIn, row_cap HO.out.row⟩
      go_wp2
      go_ret
      exact ⟨a', c', R, rfl, HE, HX.out⟩
    obtain ⟨b, off, rfl, hbl, hcc, t1⟩ := (HR.out.below HX.out).at2 k (by rw [HN.out]; exact hlt)
    obtain ⟨c0, c1, c2, c3, c4⟩ := hcc
    have HCq := hid (HC.out k hlt)
    have HQk : Hid (∀ q', SameB (bs.getD k k0) q' → SameK (k + 1) bs (R ++ [q'])) := by
      intro q' he i hi
      rw [getK_snoc, HO.out.len]
      by_cases e : i = k
      · rw [if_pos e, e]; exact he
      · rw [if_neg e]; exact HS.out i (by omega)
    generalize bs.getD k k0 = q at *
    have i1 : (k : Int) < (n : Int) := by omega
    have HW0 := hid ((Below.refl wr.heap.size wr).alloc (Nat.le_refl _) (.cells (clB q) 36))
    have HT1 := hid (t1.below HW0.out)
    have hX0 : w.heap.size ≤ wr.heap.size := HX.out.size
    simp only [clB] at HW0 HT1
    clear t1 hbl
    go_wp2_with fail
    refine (f116 q _ HT1.out HCq.out).mono ?_
    rintro e w4 ⟨h4, rfl, hs4, hi4, hb4⟩
    have HW4 : Hid (Below wr.heap.size wr w4) := HW0.out.trans (hb4.mono HW0.out.size)
    have HX4 := hid (HX.out.trans (HW4.out.mono hX0))
    have HI4 : Hid (InB wr.heap.size w4.heap.size h4 w4) := ⟨hi4.out.top, fun y hy => hi4.out.lies y ⟨hy.size, fun k h1 h2 => hy.same k (by have := HW0.out.size; omega) h2⟩⟩
    have HS4 := hid (HQk.out h4 hs4.out)
    have HO4 := hid (HO.out.below wayIn HW4.out)
    clear hs4 hi4 hb4 c0 c1 c2 c3 c4
    go_wp2_with (at_builtin; refine wpList_append_own_at _ rfl (.tmp 12) (.tmp 15) 26 rfl w.heap.size 36 i0 (.agg #[.int .i64 0, .int .i64 0, .int .i64 0, .slice none 0 0, .slice none 0 0]) 5 72 Tryz.underlying26 hi hz0 hz1 hz2 rfl (by decide) _ _ _ rfl (HO4.out.row.alloc _) ⟨w4.heap.size, 0, none⟩ 1 1 (clK h4) rfl rfl ?d1 ?d2 ?d3 ?d4 ?d5 ?_)
    case d1 => exact five_nw w4 _ _ _ _ _ _
    case d2 => (intro u hu; simp [clK] at hu; rcases hu with rfl | rfl | rfl | rfl | rfl <;> rfl)
    case d3 => unfold maxLen; omega
    case d4 => omega
    case d5 => have := HX4.out.size; simp; omega
    intro v8 w8 hown8 hgr8 _ hat8
    obtain ⟨a8, c8, rfl⟩ := own_form hown8
    have HX8 := hid ((HX4.out.alloc HX4.out.size (.cells (clB h4) 36)).grown hgr8 (by have := HX4.out.size; simp; omega) (fun j hj => (HO4.out.row.lt j hj).1))
    have HO8 : Hid (RowK InB w.heap.size a8 (k + 1) c8 (R ++ [h4]) (fun i => if i = k then wr.heap.size else L i) (fun i => if i = k then w4.heap.size else U i) w8) := by
      have hba := (Below.refl w4.heap.size w4).alloc (Nat.le_refl _) (.cells (clB h4) 36)
      refine HO.out.push wayIn (HW4.out.trans (hba.mono HW4.out.size)) (HI4.out.below hba) (fun g hg => .inl (HO.out.row.lt g hg).2) hgr8 ?_ (by rw [World.size_alloc]; exact hat8)
      rw [flatK_append]
      show _
      have e : flatK [h4] = clK h4 := by show clK h4 ++ [] = _; rw [List.append_nil]
      rw [e]
      exact hown8
    clear hown8 hgr8 hat8
    go_wp2
    go_roundw
    case rel => exact ⟨k + 1, c8, a8, R ++ [h4], _, _, by omega, by go_num, rfl, HO8, HS4, HX8⟩
    case measure => simp [intOf]; omega
end Go.Proofs.YtjhdmghpklagkaaGreat.Pln
