/- Lists of blocks marked, and held. -/
import Derived.Test.YtjhdmghpklagkaaGreatP51
import Derived.Test.YtjhdmghpklagkaaGreatP13
namespace Go.Proofs.YtjhdmghpklagkaaGreat.Stn
open Go.RowKit
open Go.Proofs.YtjhdmghpklagkaaGreat.Lab (Lb HasL)
open Go.Proofs.YtjhdmghpklagkaaGreat.Srs (hid blk Fr own_fr own_grown own_below)
end Go.Proofs.YtjhdmghpklagkaaGreat.Stn
namespace Go.Proofs.YtjhdmghpklagkaaGreat.Blk
open Go.RowKit
open Go.Proofs.YtjhdmghpklagkaaGreat.Lab (Lb HasL)
open Go.Proofs.YtjhdmghpklagkaaGreat.Smp (Sm HasS own_form ret_bool)
open Go.Proofs.YtjhdmghpklagkaaGreat.Srs (hid lt_at kept blk own_base own_below own_grown own_set set_else set_at Q q0 HasQ SmlQ OwnG Own2 Fr own_fr tot mqs mqs_len mqs_get)
open Go.Proofs.YtjhdmghpklagkaaGreat.Stn (T t0 OwnT HasT SmlT mts mts_len mts_get mk set_same)

def mkb (h : Bk) : Nat := 3 + 2 * tot h.qs h.qs.length + mk h.ts h.ts.length
def mb (k : Nat) (h : Bk) : Bk := ⟨(k : Int), (k : Int) + 1, (k : Int) + 2, mqs (k + 3) h.qs, h.a, h.c, mts (k + 3 + 2 * tot h.qs h.qs.length) h.ts, h.b, h.d⟩
def mkK (R : List Bk) : Nat → Nat
  | 0 => 0
  | i + 1 => mkK R i + mkb (R.getD i k0)
theorem mkK_mono (R : List Bk) : ∀ (k j : Nat), j ≤ k → mkK R j ≤ mkK R k := by
  intro k
  induction k with
  | zero => intro j h; rw [show j = 0 by omega]; exact Nat.le_refl _
  | succ k ih =>
    intro j h
    by_cases e : j = k + 1
    · rw [e]; exact Nat.le_refl _
    · have := ih j (by omega)
      simp only [mkK]; omega
def mbs (k : Nat) (R : List Bk) : List Bk := (List.range R.length).map fun j => mb (k + mkK R j) (R.getD j k0)
theorem mbs_len (k : Nat) (R : List Bk) : (mbs k R).length = R.length := by simp [mbs]
theorem mbs_get (k : Nat) (R : List Bk) (j : Nat) (h : j < R.length) : (mbs k R).getD j k0 = mb (k + mkK R j) (R.getD j k0) := by simp [mbs, h]
def halfK (k : Nat) (R : List Bk) (i : Nat) : List Bk := (mbs k R).take i ++ R.drop i
theorem halfK_len (k : Nat) (R : List Bk) (i : Nat) (h : i ≤ R.length) : (halfK k R i).length = R.length := by simp [halfK, mbs_len]; omega
theorem halfK_get (k : Nat) (R : List Bk) (i j : Nat) (h : i ≤ j) (hi : i ≤ R.length) : (halfK k R i).getD j k0 = R.getD j k0 := by
  unfold halfK
  rw [List.getD_eq_getElem?_getD, List.getD_eq_getElem?_getD, List.getElem?_append_right (by simp [mbs_len]; omega), List.getElem?_drop]
  congr 2
  simp [mbs_len]; omega
theorem halfK_set (k : Nat) (R : List Bk) (i : Nat) (h : i < R.length) : (halfK k R i).set i (mb (k + mkK R i) (R.getD i k0)) = halfK k R (i + 1) := by
  unfold halfK
  have hl : ((mbs k R).take i).length = i := by simp [mbs_len]; omega
  have hg : (mbs k R)[i]? = some (mb (k + mkK R i) (R.getD i k0)) := by
    rw [← mbs_get k R i h, List.getD_eq_getElem?_getD]
    have : i < (mbs k R).length := by rw [mbs_len]; exact h
    simp [this]
  rw [List.set_append_right _ _ (by omega), hl, Nat.sub_self, List.drop_eq_getElem_cons h, List.set_cons_zero, List.take_add_one, hg, List.append_assoc]
  rfl
theorem halfK_end (k : Nat) (R : List Bk) : halfK k R R.length = mbs k R := by
  unfold halfK
  rw [List.drop_eq_nil_of_le (Nat.le_refl _), List.append_nil, List.take_of_length_le (by rw [mbs_len]; exact Nat.le_refl _)]
theorem flatK_set3 (L : List Bk) (i : Nat) (q : Bk) (hi : i < L.length) (h3 : Value.slice q.a q.qs.length q.c = .slice (L.getD i k0).a (L.getD i k0).qs.length (L.getD i k0).c) (h4 : Value.slice q.b q.ts.length q.d = .slice (L.getD i k0).b (L.getD i k0).ts.length (L.getD i k0).d) : (((flatK L).set (i * 5) (.int .i64 q.F)).set (i * 5 + 1) (.int .i64 q.T)).set (i * 5 + 2) (.int .i64 q.L) = flatK (L.set i q) := by
  obtain ⟨g0, g1, g2, g3, g4⟩ := flatK_get L i hi
  rw [← flatK_set L i q hi]
  have e3 : ((((flatK L).set (i * 5) (.int .i64 q.F)).set (i * 5 + 1) (.int .i64 q.T)).set (i * 5 + 2) (.int .i64 q.L)).set (i * 5 + 3) (.slice q.a q.qs.length q.c) = (((flatK L).set (i * 5) (.int .i64 q.F)).set (i * 5 + 1) (.int .i64 q.T)).set (i * 5 + 2) (.int .i64 q.L) :=
    set_same (by rw [List.getElem?_set_ne (by omega), List.getElem?_set_ne (by omega), List.getElem?_set_ne (by omega), g3, h3])
  rw [e3]
  exact (set_same (by rw [List.getElem?_set_ne (by omega), List.getElem?_set_ne (by omega), List.getElem?_set_ne (by omega), g4, h4])).symm
theorem ownc_fr {X Y X' Y' : Nat} {h : Bk} {w x : World} (o : OwnC X Y h w) (hf : Fr X' Y' w x) (hd : Y' ≤ X ∨ Y ≤ X') : OwnC X Y h x := by
  obtain ⟨g, k, M, e1, e2, e3, e4, o1, o2, l1, l2, l3, l4, l5, l6⟩ := o.ex
  have lg := (o1.row.lt g rfl).1
  refine ⟨⟨g, k, M, e1, e2, e3, e4, ⟨o1.len, own_fr o1.row hf (by omega), fun i hi => ?_, o1.apt⟩, ⟨own_fr o2.row hf (by omega), ⟨o2.kin.len, fun i hi => ⟨(o2.kin.own i hi).ha, own_fr (o2.kin.own i hi).lab hf ?_⟩, o2.kin.off, o2.kin.dis⟩⟩, l1, l2, l3, l4, l5, l6⟩, Nat.le_trans o.top hf.size⟩
  · have p := o1.own i hi
    have q := l3 i hi
    have r := p.lo
    exact ⟨p.ha, p.hb, own_fr p.lab hf (by omega), own_fr p.smp hf (by omega), p.ne⟩
  · have h5 : M ≤ blk (h.ts.getD i t0).a := ((o2.kin.own i hi).lab.lt _ rfl).1
    have h6 := l6 i hi
    omega
structure Mb (X Y : Nat) (a : Option Addr) (n c k i : Nat) (R : List Bk) (L U : Nat → Nat) (w x : World) : Prop where
  row : x.ownsRow X 36 5 (.slice a n c) n (flatK (halfK k R i))
  done : ∀ j, j < i → OwnC (L j) (U j) (mb (k + mkK R j) (R.getD j k0)) x
  own : ∀ j, i ≤ j → j < n → OwnC (L j) (U j) (R.getD j k0) x
  fr : Fr X Y w x
theorem fr_trans {X Y X' Y' : Nat} {w x y : World} (h : Fr X Y w x) (g : Fr X' Y' x y) (h1 : X ≤ X') (h2 : Y' ≤ Y) : Fr X Y w y :=
  ⟨g.os.trans h.os, g.tape.trans h.tape, g.output.trans h.output, Nat.le_trans h.size g.size, fun k hk hne => (g.block k (Nat.lt_of_lt_of_le hk h.size) (by omega)).trans (h.block k hk hne)⟩
set_option maxRecDepth 10000 in
set_option maxHeartbeats 8000000 in
theorem f13 (X Y : Nat) (a : Option Addr) (n c k : Nat) (R : List Bk) (L U : Nat → Nat) (w : World) (hb : n ≤ 1048576) (hk : k + mkK R n ≤ 100000000) (ho : RowK OwnC X a n c R L U w) (hlo : ∀ i, i < n → X ≤ L i) (hord : ∀ i j, i < j → j < n → U i ≤ L j) (hY : ∀ i, i < n → U i ≤ Y) (hg : ∀ g, (Value.slice a n c).ownBlock = some g → g < Y) (hsz : ∀ i, i < n → SmlB (R.getD i k0)) :
    Calls Tryz.prog 13 #[.slice a n c, .int .i64 k] w fun e w' => e = .returned (.int .i64 ((k + mkK R n : Nat) : Int)) ∧ RowK OwnC X a n c (mbs k R) L U w' ∧ Fr X Y w w' := by
  have HN := hid ho.len
  have HK := hid hk
  have HOff := hid ho.off
  have HLo := hid hlo
  have HOr := hid hord
  have HY := hid hY
  have HGY := hid hg
  have HSz := hid hsz
  have H0 : Hid (Mb X Y a n c k 0 R L U w w) := ⟨ho.row, fun j hj => by omega, fun j _ hj => ho.each j hj, Fr.refl _ _ _⟩
  clear hk ho hlo hord hY hg hsz
  go_enter Tryz.func13, Tryz.ntmps13
  go_wp2
  go_loopw [1, 5] (fun sk si wr => ∃ (i m : Nat), i ≤ n ∧ si = .int .i64 i ∧ sk = .int .i64 (m : Int) ∧ Hid (m = k + mkK R i) ∧ Hid (Mb X Y a n c k i R L U w wr)) (fun _ si _ => n - (intOf si).toNat)
  case atStart => exact ⟨0, k, Nat.zero_le _, rfl, rfl, rfl, H0.out⟩
  case round =>
    obtain ⟨i, m, hi, rfl, rfl, hm, HM⟩ := hrel
    by_cases hlt : i < n
    rotate_left
    · obtain rfl : i = n := by omega
      have HX : Hid (RowK OwnC X a i c (mbs k R) L U wr ∧ Fr X Y w wr) := by
        have hl := HN.out
        have hr := HM.out.row
        rw [← hl] at hr
        rw [halfK_end, hl] at hr
        exact ⟨⟨(mbs_len k R).trans hl, hr, fun j hj => by rw [mbs_get k R j (by omega)]; exact HM.out.done j hj, HOff.out⟩, HM.out.fr⟩
      go_wp2
      go_ret
      exact ⟨by rw [← hm.out]; rfl, HX.out.1, HX.out.2⟩
    obtain ⟨g, rfl⟩ : ∃ g, a = some ⟨g, 0, none⟩ := by
      rcases HM.out.row.2 with ⟨_, h2⟩ | ⟨g, cap, cur, h1, _⟩
      · omega
      · simp only [Value.slice.injEq] at h1; exact ⟨g, h1.1⟩
    have hgY : g < Y := HGY.out g rfl
    have hXg : X ≤ g := (HM.out.row.lt g rfl).1
    have HOfg : Hid (∀ j, j < n → g < L j ∨ U j ≤ g) := fun j hj => HOff.out g rfl j hj
    have HL' : Hid ((halfK k R i).length = n) := by unfold Hid; rw [halfK_len k R i (by rw [HN.out]; exact hi), HN.out]
    obtain ⟨y0, y1, y2, y3, y4⟩ := flatK_get (halfK k R i) i (by rw [HL'.out]; exact hlt)
    have HHg := hid (halfK_get k R i i (Nat.le_refl _) (by rw [HN.out]; exact hi))
    rw [HHg.out] at y0 y1 y2 y3 y4
    have HHs := hid (halfK_set k R i (by rw [HN.out]; exact hlt))
    have HOi := hid (HM.out.own i (Nat.le_refl _) hlt)
    have HMs : Hid (mkK R (i + 1) = mkK R i + mkb (R.getD i k0)) := rfl
    have HMn := hid (mkK_mono R n (i + 1) hlt)
    have HSq := hid (HSz.out i hlt)
    have hLX := HLo.out i hlt
    have hUY := HY.out i hlt
    have hOg := HOfg.out i hlt
    have HB1 : Hid (∀ j, j < i → U j ≤ L i) := fun j hj => HOr.out j i hj hlt
    have HB2 : Hid (∀ j, i < j → j < n → U i ≤ L j) := fun j h1 h2 => HOr.out i j h1 h2
    have HQ0 : Hid (∀ j, j < i → OwnC (L j) (U j) (mb (k + mkK R j) (R.getD j k0)) wr) := HM.out.done
    have HQ1 : Hid (∀ j, i + 1 ≤ j → j < n → OwnC (L j) (U j) (R.getD j k0) wr) := fun j h1 h2 => HM.out.own j (by omega) h2
    have HF0 := hid HM.out.fr
    have HR0 := hid HM.out.row
    obtain ⟨q, hq⟩ : ∃ q, q = R.getD i k0 := ⟨_, rfl⟩
    have HQ := hid hq
    rw [← hq] at y0 y1 y2 y3 y4 HHg HHs HOi HMs HSq
    clear hq HM
    have N1 : Hid (m + mkb q ≤ 100000000) := by unfold Hid; have := hm.out; have := HK.out; have := HMn.out; have := HMs.out; omega
    have hN : m + 3 ≤ 100000000 := by have := N1.out; unfold mkb at this; omega
    have z0 := (HR0.out.cellAt (i * 5) (by omega)).trans y0
    have z1 := (HR0.out.cellAt (i * 5 + 1) (by omega)).trans y1
    have z2 := (HR0.out.cellAt (i * 5 + 2) (by omega)).trans y2
    have z3 := (HR0.out.cellAt (i * 5 + 3) (by omega)).trans y3
    have f0 := HR0.out.frozenAt (i * 5)
    have f1 := HR0.out.frozenAt (i * 5 + 1)
    have f2 := HR0.out.frozenAt (i * 5 + 2)
    obtain ⟨gs, ks, M, ea, eb, ec, ed, _⟩ := HOi.out.ex
    have hks : ks = ks := rfl
    rw [ea, ec] at y3 z3
    rw [eb, ed] at y4
    obtain ⟨w3, hw3⟩ : ∃ w3, w3 = ((wr.setCell ⟨g, i * 5, none⟩ (.int .i64 (m : Int))).setCell ⟨g, i * 5 + 1, none⟩ (.int .i64 ((m : Int) + 1))).setCell ⟨g, i * 5 + 2, none⟩ (.int .i64 ((m : Int) + 1 + 1)) := ⟨_, rfl⟩
    have H3 : Hid (w3.ownsRow X 36 5 (.slice (some ⟨g, 0, none⟩) n c) n (flatK (halfK k R (i + 1))) ∧ OwnC (L i) (U i) q w3 ∧ (∀ j, j < i → OwnC (L j) (U j) (mb (k + mkK R j) (R.getD j k0)) w3) ∧ (∀ j, i + 1 ≤ j → j < n → OwnC (L j) (U j) (R.getD j k0) w3) ∧ Fr X Y w w3 ∧ (flatK (halfK k R (i + 1)))[i * 5 + 4]? = some (.slice (some ⟨ks, 0, none⟩) q.ts.length q.ts.length)) := by
      rw [hw3]
      have s1 := HR0.out.stored (i * 5) (.int .i64 (m : Int))
      have s2 := s1.1.stored (i * 5 + 1) (.int .i64 ((m : Int) + 1))
      have s3 := s2.1.stored (i * 5 + 2) (.int .i64 ((m : Int) + 1 + 1))
      have tr : ∀ {j : Nat} {p : Bk}, j < n → OwnC (L j) (U j) p wr → OwnC (L j) (U j) p (((wr.setCell ⟨g, i * 5, none⟩ (.int .i64 (m : Int))).setCell ⟨g, i * 5 + 1, none⟩ (.int .i64 ((m : Int) + 1))).setCell ⟨g, i * 5 + 2, none⟩ (.int .i64 ((m : Int) + 1 + 1))) := fun {j p} hj hp =>
        ownc_grown (ownc_grown (ownc_grown hp s1.2 (fun g' e => by cases e; exact HOfg.out j hj)) s2.2 (fun g' e => by cases e; exact HOfg.out j hj)) s3.2 (fun g' e => by cases e; exact HOfg.out j hj)
      refine ⟨?_, tr hlt HOi.out, fun j hj => tr (by omega) (HQ0.out j hj), fun j h1 h2 => tr h2 (HQ1.out j h1 h2), ((HF0.out.grown s1.2 hXg hgY).grown s2.2 hXg hgY).grown s3.2 hXg hgY, ?_⟩
      rotate_left
      · rw [← HHs.out, ← hm.out, ← flatK_set3 (halfK k R i) i (mb m q) (by rw [HL'.out]; exact hlt) (by rw [HHg.out]; simp only [mb, mqs_len]) (by rw [HHg.out]; simp only [mb, mts_len]), List.getElem?_set_ne (by omega), List.getElem?_set_ne (by omega), List.getElem?_set_ne (by omega)]; exact y4
      have e : (((flatK (halfK k R i)).set (i * 5) (.int .i64 (m : Int))).set (i * 5 + 1) (.int .i64 ((m : Int) + 1))).set (i * 5 + 2) (.int .i64 ((m : Int) + 1 + 1)) = flatK (halfK k R (i + 1)) := by
        rw [← HHs.out, ← hm.out]
        have := flatK_set3 (halfK k R i) i (mb m q) (by rw [HL'.out]; exact hlt) (by rw [HHg.out]; simp only [mb, mqs_len]) (by rw [HHg.out]; simp only [mb, mts_len])
        rw [← this]
        simp only [mb]
        rw [show (m : Int) + 1 + 1 = (m : Int) + 2 by omega]
      rw [← e]; exact s3.1
    obtain ⟨m3, hm3⟩ : ∃ m3 : Nat, m3 = m + 3 := ⟨_, rfl⟩
    have e3 : (m : Int) + 1 + 1 + 1 = (m3 : Int) := by omega
    have HM3 := hid hm3
    clear hm3
    go_wp2_with fail
    rw [← hw3]
    clear hw3 z0 z1 z2 z3 f0 f1 f2 y0 y1 y2 y3 y4 e3 HR0 HQ0 HQ1 HF0
    obtain ⟨gs', ks', M', ea', eb', ec', ed', og, ot, l1, l2, l3, l4, l5, l6⟩ := H3.out.2.1.ex
    obtain rfl : gs' = gs := by rw [ea] at ea'; cases ea'; rfl
    obtain rfl : ks' = ks := by rw [eb] at eb'; cases eb'; rfl
    rw [ec'] at og
    have N2 := N1.out
    unfold mkb at N2
    have hm3' := HM3.out
    have HOG := hid og
    have HOT := hid ot
    have HL3 := hid l3
    have HL6 := hid l6
    have hq1 : q.qs.length ≤ 1048576 := HSq.out.1
    have hq2 : q.ts.length ≤ 1048576 := HSq.out.2.2.1
    have hk3 : m3 + 2 * tot q.qs q.qs.length ≤ 100000000 := by omega
    clear og ot l3 l6 hm3'
    refine (Srs.f31f (L i) M' gs' q.qs.length q.qs.length m3 q.qs _ hq1 hk3 HOG.out HL3.out).mono ?_
    rintro e w4 ⟨rfl, og4, hf4⟩
    have HR4 := hid (own_fr H3.out.1 hf4 (by omega))
    have z4 := (HR4.out.cellAt (i * 5 + 4) (by omega)).trans H3.out.2.2.2.2.2
    have HOT4 : Hid (OwnT M' ks' q.ts.length q.ts w4) := ⟨own_fr HOT.out.row hf4 (.inr l4), ⟨HOT.out.kin.len, fun j hj => ⟨(HOT.out.kin.own j hj).ha, own_fr (HOT.out.kin.own j hj).lab hf4 (.inr (HOT.out.kin.own j hj |>.lab.lt _ rfl).1)⟩, HOT.out.kin.off, HOT.out.kin.dis⟩⟩
    have HOG4 := hid og4
    have HF4 := hid hf4
    obtain ⟨m4, hm4⟩ : ∃ m4 : Nat, m4 = m3 + 2 * tot q.qs q.qs.length := ⟨_, rfl⟩
    have HM4 := hid hm4
    have hk4 : m4 + mk q.ts q.ts.length ≤ 100000000 := by have := HM3.out; omega
    rw [← hm4]
    clear hm4 og4 hf4 hk3
    go_wp2_with fail
    refine (Stn.f39f M' (U i) ks' q.ts.length m4 q.ts _ rfl hq2 hk4 HOT4.out l4 l5 HL6.out).mono ?_
    rintro e w5 ⟨rfl, ot5, hf5⟩
    have HE : Hid (m4 + mk q.ts q.ts.length = k + mkK R (i + 1)) := by unfold Hid; have h1 := hm.out; have h2 := HMs.out; unfold mkb at h2; have := HM3.out; have := HM4.out; omega
    have HM5 : Hid (Mb X Y (some ⟨g, 0, none⟩) n c k (i + 1) R L U w w5) := by
      refine ⟨own_fr HR4.out hf5 (by omega), fun j hj => ?_, fun j h1 h2 => ownc_fr (ownc_fr (H3.out.2.2.2.1 j h1 h2) HF4.out (.inl (by have := HB2.out j (by omega) h2; omega))) hf5 (.inl (HB2.out j (by omega) h2)), fr_trans (fr_trans H3.out.2.2.2.2.1 HF4.out hLX (by omega)) hf5 (by omega) hUY⟩
      by_cases e : j = i
      · subst e
        rw [← HQ.out, ← hm.out]
        have hge : ∀ t, t < q.qs.length → blk ((mqs (m + 3) q.qs).getD t q0).a = blk (q.qs.getD t q0).a ∧ blk ((mqs (m + 3) q.qs).getD t q0).b = blk (q.qs.getD t q0).b := fun t ht => by rw [mqs_get _ _ _ ht]; exact ⟨rfl, rfl⟩
        have hgt : ∀ t, t < q.ts.length → blk ((mts (m + 3 + 2 * tot q.qs q.qs.length) q.ts).getD t t0).a = blk (q.ts.getD t t0).a := fun t ht => by rw [mts_get _ _ _ ht]; rfl
        have og5 : OwnG (L j) gs' q.qs.length q.qs.length (mqs (m + 3) q.qs) w5 := by
          have h0 := HOG4.out
          rw [HM3.out] at h0
          have lg := (h0.row.lt gs' rfl).1
          refine ⟨h0.len, own_fr h0.row hf5 (.inl l2), fun t ht => ?_, h0.apt⟩
          have p := h0.own t ht
          have r := HL3.out t ht
          have r2 := hge t ht
          exact ⟨p.ha, p.hb, own_fr p.lab hf5 (.inl (by omega)), own_fr p.smp hf5 (.inl (by omega)), p.ne⟩
        have ot5' : OwnT M' ks' q.ts.length (mts (m + 3 + 2 * tot q.qs q.qs.length) q.ts) w5 := by
          have h0 := ot5
          rw [HM4.out, HM3.out] at h0
          exact h0
        refine ⟨⟨gs', ks', M', ea', eb', ?_, ?_, ?_, ?_, l1, l2, fun t ht => ?_, l4, l5, fun t ht => ?_⟩, Nat.le_trans H3.out.2.1.top (Nat.le_trans HF4.out.size hf5.size)⟩
        · simp only [mb, mqs_len]; exact ec'
        · simp only [mb, mts_len]; exact ed'
        · simp only [mb, mqs_len]; rw [ec']; exact og5
        · simp only [mb, mts_len]; exact ot5'
        · simp only [mb, mqs_len] at ht ⊢; rw [(hge t ht).1, (hge t ht).2]; exact HL3.out t ht
        · simp only [mb, mts_len] at ht ⊢; rw [hgt t ht]; exact HL6.out t ht
      · exact ownc_fr (ownc_fr (H3.out.2.2.1 j (by omega)) HF4.out (.inr (HB1.out j (by omega)))) hf5 (.inr (by have := HB1.out j (by omega); omega))
    obtain ⟨m5, hm5⟩ : ∃ m5 : Nat, m5 = m4 + mk q.ts q.ts.length := ⟨_, rfl⟩
    rw [← hm5]
    have HE5 : Hid (m5 = k + mkK R (i + 1)) := by unfold Hid; rw [hm5]; exact HE.out
    clear hm5 hf5 ot5 z4 HR4 H3 HOG4 HOT4 HF4
    go_wp2
    go_roundw
    case rel => exact ⟨i + 1, m5, by omega, by go_num, rfl, HE5.out, HM5.out⟩
    case measure => simp [intOf]; omega
end Go.Proofs.YtjhdmghpklagkaaGreat.Blk
namespace Go.Proofs.YtjhdmghpklagkaaGreat.Blk
open Go.RowKit
open Go.Proofs.YtjhdmghpklagkaaGreat.Smp (Sm HasS own_form ret_bool)
open Go.Proofs.YtjhdmghpklagkaaGreat.Srs (hid lt_at kept blk own_base own_below own_grown Q q0 HasQ SmlQ OwnG Own2 Fr own_fr tot mqs mqs_len mqs_get)
open Go.Proofs.YtjhdmghpklagkaaGreat.Stn (T t0 OwnT HasT SmlT mts mts_len mts_get mk set_same)
theorem ownq_g {g n : Nat} {qs : List Q} {w : World} (h : Srs.OwnQ g g n qs w) {X : Nat} (hx : X ≤ g) : OwnG X g n n qs w := by
  refine ⟨h.kin.len, own_base h.row hx, fun i hi => ?_, ⟨fun i hi => ?_, fun i j hi hj hne => ?_⟩⟩
  · have p := h.kin.own i hi
    have q := h.kin.off i hi
    exact ⟨p.ha, p.hb, own_base p.lab hx, own_base p.smp hx, by have := p.lt; omega⟩
  · have p := (h.kin.own i hi).lt
    have q := h.kin.off i hi
    constructor <;> omega
  · have p := (h.kin.own i hi).lt
    have p' := (h.kin.own j hj).lt
    rcases Nat.lt_or_gt_of_ne hne with e | e
    · have := h.kin.dis i j e hj; refine ⟨?_, ?_, ?_, ?_⟩ <;> omega
    · have := h.kin.dis j i e hi; refine ⟨?_, ?_, ?_, ?_⟩ <;> omega
theorem ownin_c {X Y : Nat} {h h' : Bk} {w : World} (o : OwnIn X Y h h' w) : OwnC X Y h' w := by
  obtain ⟨g, k, S, o1, h2, h3, h4⟩ := o
  refine ⟨⟨g, k, S, o1.ea, o1.eb, o1.ec.trans o1.lq.symm, o1.ed.trans o1.lt.symm, ?_, ?_, by have := o1.lo; have := o1.mid; omega, o1.mid.1, fun i hi => ?_, o1.mid.2, h2, fun i hi => h3 i (by rw [← o1.lt]; exact hi)⟩, h4⟩
  · rw [o1.lq, o1.ec]; exact ownq_g o1.oq o1.lo
  · rw [o1.lt]
    have t := o1.ot
    exact ⟨own_base t.row o1.mid.2, ⟨t.kin.len, fun i hi => (t.kin.own i hi).base o1.mid.2, t.kin.off, t.kin.dis⟩⟩
  · have hi' : i < h.qs.length := by rw [← o1.lq]; exact hi
    have p := (o1.oq.kin.own i hi').lt
    have q := o1.top i hi'
    constructor <;> omega
theorem ownk_row {R0 : Nat} {Z : Nat → Nat} {n : Nat} {bs d : List Bk} {w : World} (h : OwnK R0 Z n bs d w) : RowK OwnC R0 (some ⟨R0, 0, none⟩) n n d Z (fun i => Z (i + 1)) w :=
  ⟨h.kin.len, h.row, fun i hi => ownin_c (h.kin.own i hi), fun g e i hi => by cases e; exact .inl (h.kin.lo i (by omega))⟩
theorem zmono {R0 : Nat} {Z : Nat → Nat} {n : Nat} {bs d : List Bk} {w : World} (h : KinK R0 Z n bs d w) : ∀ (k j : Nat), j ≤ k → k ≤ n → Z j ≤ Z k := by
  intro k
  induction k with
  | zero => intro j h1 _; rw [show j = 0 by omega]; exact Nat.le_refl _
  | succ k ih =>
    intro j h1 h2
    by_cases e : j = k + 1
    · rw [e]; exact Nat.le_refl _
    · exact Nat.le_trans (ih j (by omega) (by omega)) (h.up k (by omega))
theorem ownk_cap {R0 : Nat} {Z : Nat → Nat} {n : Nat} {bs d : List Bk} {w : World} (h : OwnK R0 Z n bs d w) : ∀ j, j < n → ∀ i, i < (d.getD j k0).qs.length → ((d.getD j k0).qs.getD i q0).d = ((d.getD j k0).qs.getD i q0).s.length := by
  intro j hj i hi
  obtain ⟨g, k, S, o1, _⟩ := h.kin.own j hj
  exact (o1.sq i (by rw [← o1.lq]; exact hi)).2.2
end Go.Proofs.YtjhdmghpklagkaaGreat.Blk
namespace Go.Proofs.YtjhdmghpklagkaaGreat.Blk
open Go.RowKit
open Go.Proofs.YtjhdmghpklagkaaGreat.Smp (Sm HasS own_form ret_bool)
open Go.Proofs.YtjhdmghpklagkaaGreat.Srs (hid lt_at kept blk own_base own_below own_grown Q q0 HasQ SmlQ OwnG Own2 Fr own_fr tot)
open Go.Proofs.YtjhdmghpklagkaaGreat.Stn (T t0 OwnT HasT SmlT mk)

theorem SameK.trans {n : Nat} {bs d e : List Bk} (s : SameK n bs d) (r : SameK n bs e) : SameK n d e := fun i hi => (s i hi).trans (r i hi)
theorem totq_sameK {n : Nat} {qs d : List Q} (h : Srs.Same n qs d) : ∀ k, k ≤ n → Srs.tot d k = Srs.tot qs k := by
  intro k
  induction k with
  | zero => intro _; rfl
  | succ k ih =>
    intro hk
    have e := h k (by omega)
    simp only [Srs.pl, Prod.mk.injEq] at e
    simp only [Srs.tot]
    rw [ih (by omega), e.1, e.2]
theorem tott_sameK {n : Nat} {ts d : List T} (h : Stn.Same n ts d) : ∀ k, k ≤ n → Stn.tot d k = Stn.tot ts k := by
  intro k
  induction k with
  | zero => intro _; rfl
  | succ k ih =>
    intro hk
    have e := same_l (h k (by omega))
    simp only [Stn.tot]
    rw [ih (by omega), e.1]
theorem SameB.tk {h h' : Bk} (s : SameB h h') : Blk.tk h' = Blk.tk h := by
  unfold Blk.tk
  rw [s.lq, s.lt, totq_sameK s.sq _ (Nat.le_refl _), tott_sameK s.st _ (Nat.le_refl _)]
theorem SameK.totK {n : Nat} {bs d : List Bk} (s : SameK n bs d) : ∀ k, k ≤ n → Blk.totK d k = Blk.totK bs k := by
  intro k
  induction k with
  | zero => intro _; rfl
  | succ k ih => intro hk; simp only [Blk.totK]; rw [ih (by omega), (s k (by omega)).tk]
theorem mkK_tot (R : List Bk) : ∀ k, mkK R k ≤ 3 * k + 2 * totK R k := by
  intro k
  induction k with
  | zero => exact Nat.le_refl _
  | succ k ih =>
    simp only [mkK, totK]
    have : mkb (R.getD k k0) ≤ 3 + 2 * tk (R.getD k k0) := by unfold mkb tk mk; omega
    omega
theorem fr_belowK {X Y B : Nat} {w x : World} (h : Fr X Y w x) (hb : B ≤ X) (hs : B ≤ w.heap.size) : Below B w x := ⟨h.os, h.tape, h.output, h.size, fun k hk => h.block k (by omega) (.inl (by omega))⟩
theorem ownk_room {R0 : Nat} {Z : Nat → Nat} {n : Nat} {bs d : List Bk} {w : World} (h : OwnK R0 Z n bs d w) : ∀ j, j < n → (d.getD j k0).ts.length ≤ (d.getD j k0).d := fun j hj => by
  obtain ⟨_, _, _, _, _, _, e, _⟩ := ((ownk_row h).each j hj).ex
  omega
end Go.Proofs.YtjhdmghpklagkaaGreat.Blk
