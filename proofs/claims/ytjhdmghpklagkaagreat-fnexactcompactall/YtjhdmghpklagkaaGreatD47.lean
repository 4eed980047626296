/- Series and stones marked: what is written, and that nothing else is; stones held. -/
import Derived.Test.YtjhdmghpklagkaaGreatD23
import Derived.Test.YtjhdmghpklagkaaGreatD21
import Derived.Test.YtjhdmghpklagkaaGreatD28
import Derived.Test.YtjhdmghpklagkaaGreatD13
namespace Go.Proofs.YtjhdmghpklagkaaGreat.Srs
open Go.RowKit
open Go.Proofs.YtjhdmghpklagkaaGreat.Lab (Lb HasL)
open Go.Proofs.YtjhdmghpklagkaaGreat.Smp (Sm HasS)

structure Mf (X Y g n c k i : Nat) (qs : List Q) (w x : World) : Prop where
  row : x.ownsRow X 80 2 (.slice (some ⟨g, 0, none⟩) n c) n (flat qs)
  done : ∀ j, j < i → Own2 X (mq (k + 2 * tot qs j) (qs.getD j q0)) x
  own : ∀ j, i ≤ j → j < n → Own2 X (qs.getD j q0) x
  fr : Fr X Y w x
set_option maxHeartbeats 2000000 in
theorem f31f (X Y g n c k : Nat) (qs : List Q) (w : World) (hb : n ≤ 1048576) (hk : k + 2 * tot qs n ≤ 100000000) (ho : OwnG X g n c qs w) (hY : ∀ i, i < n → blk (qs.getD i q0).a < Y ∧ blk (qs.getD i q0).b < Y) :
    Calls Tryz.prog 31 #[.slice (some ⟨g, 0, none⟩) n c, .int .i64 k] w fun e w' => e = .returned (.int .i64 ((k + 2 * tot qs n : Nat) : Int)) ∧ OwnG X g n c (mqs k qs) w' ∧ Fr X Y w w' := by
  have HN := hid ho.len
  have HK := hid hk
  have HA := hid ho.apt
  have HY := hid hY
  have H0 : Hid (Mf X Y g n c k 0 qs w w) := ⟨ho.row, fun j hj => by omega, fun j _ hj => ho.own j hj, Fr.refl _ _ _⟩
  clear hk ho hY
  go_enter Tryz.func31, Tryz.ntmps31
  go_wp2
  go_loopw [1, 5] (fun sk si wr => ∃ (i m : Nat), i ≤ n ∧ si = .int .i64 i ∧ sk = .int .i64 (m : Int) ∧ Hid (m = k + 2 * tot qs i) ∧ Hid (Mf X Y g n c k i qs w wr)) (fun _ si _ => n - (intOf si).toNat)
  case atStart => exact ⟨0, k, Nat.zero_le _, rfl, rfl, rfl, H0.out⟩
  case round =>
    obtain ⟨i, m, hi, rfl, rfl, hm, HM⟩ := hrel
    by_cases hlt : i < n
    rotate_left
    · obtain rfl : i = n := by omega
      have HE : Hid (OwnG X g i c (mqs k qs) wr) := by
        have hl := HN.out
        refine ⟨(mqs_len k qs).trans hl, by rw [flat_mqs]; exact HM.out.row, fun j hj => by rw [mqs_get k qs j (by omega)]; exact HM.out.done j hj, ⟨fun j hj => ?_, fun j j' hj hj' hne => ?_⟩⟩
        · rw [mqs_get k qs j (by omega)]; exact HA.out.nea j hj
        · rw [mqs_get k qs j (by omega), mqs_get k qs j' (by omega)]; exact HA.out.dis j j' hj hj' hne
      have HB := hid HM.out.fr
      go_wp2
      go_ret
      exact ⟨by rw [← hm.out]; rfl, HE.out, HB.out⟩
    have HO := hid (HM.out.own i (Nat.le_refl _) hlt)
    obtain ⟨y0, y1⟩ := flat_get qs i (by rw [HN.out]; exact hlt)
    have c0 := (HM.out.row.cellAt (i * 2) (by omega)).trans y0
    have c1 := (HM.out.row.cellAt (i * 2 + 1) (by omega)).trans y1
    have HT : Hid (tot qs (i + 1) = tot qs i + (qs.getD i q0).l.length + (qs.getD i q0).s.length) := rfl
    have HTn := hid (tot_mono qs n (i + 1) hlt)
    have HDi := hid (fun j (h1 : j < n) (h2 : j ≠ i) => HA.out.dis j i h1 hlt h2)
    have HNi := hid (HA.out.nea i hlt)
    have HYi := hid (HY.out i hlt)
    rw [HO.out.ha] at c0
    rw [HO.out.hb] at c1
    obtain ⟨q, hq⟩ : ∃ q, q = qs.getD i q0 := ⟨_, rfl⟩
    have HQ := hid hq
    rw [← hq] at c0 c1 HO HT HDi HNi HYi
    clear hq y0 y1
    have hab := HO.out.ne
    have N1 : Hid (m + 2 * q.l.length + 2 * q.s.length ≤ 100000000) := by unfold Hid; have := hm.out; have := HK.out; have := HTn.out; have := HT.out; omega
    go_wp2_with fail
    refine (Lab.f58 (blk q.a) q.l.length q.c X m q.l _ rfl (by have := N1.out; omega) HO.out.lab).mono ?_
    rintro e w2 ⟨rfl, hl2, hg2⟩
    have HL2 := hid hl2
    have HR2 := hid (own_grown HM.out.row hg2 (Ne.symm HNi.out.1))
    have HS2 := hid (own_grown HO.out.smp hg2 (Ne.symm hab))
    have HD2 : Hid (∀ j, j < i → Own2 X (mq (k + 2 * tot qs j) (qs.getD j q0)) w2) := fun j h1 => (HM.out.done j h1).grown hg2 (HDi.out j (by omega) (by omega)).1 (HDi.out j (by omega) (by omega)).2.2.1
    have HA2 : Hid (∀ j, i + 1 ≤ j → j < n → Own2 X (qs.getD j q0) w2) := fun j h1 h2 => (HM.out.own j (by omega) h2).grown hg2 (HDi.out j h2 (by omega)).1 (HDi.out j h2 (by omega)).2.2.1
    have HB2 := hid (HM.out.fr.grown hg2 HO.out.lo.1 HYi.out.1)
    have d1 : w2.cell? ⟨g, i * 2 + 1, none⟩ = some (.slice (some ⟨blk q.b, 0, none⟩) q.s.length q.d) := by
      have e := hg2.block g (HM.out.row.lt g rfl).2 (fun e => HNi.out.1 (Option.some.inj e).symm)
      simp only [World.cell?, e]
      exact c1
    clear hg2 hl2 c0 c1
    go_wp2_with fail
    refine (Smp.f59 (blk q.b) q.d X (m + 2 * q.l.length) q.s _ (by have := N1.out; omega) HS2.out).mono ?_
    rintro e w3 ⟨rfl, hs3, hg3⟩
    have HM3 : Hid (Mf X Y g n c k (i + 1) qs w w3) := by
      refine ⟨own_grown HR2.out hg3 (Ne.symm HNi.out.2), fun j h1 => ?_, fun j h1 h2 => (HA2.out j h1 h2).grown hg3 (HDi.out j h2 (by omega)).2.1 (HDi.out j h2 (by omega)).2.2.2, HB2.out.grown hg3 HO.out.lo.2 HYi.out.2⟩
      by_cases e : j = i
      · rw [e, ← HQ.out, ← hm.out]
        exact ⟨HO.out.ha, HO.out.hb, by simp only [mq, Lab.markL_len]; exact own_grown HL2.out hg3 hab, by simp only [mq, Smp.markL_len]; exact hs3, hab⟩
      · exact (HD2.out j (by omega)).grown hg3 (HDi.out j (by omega) e).2.1 (HDi.out j (by omega) e).2.2.2
    have HE : Hid (m + 2 * q.l.length + 2 * q.s.length = k + 2 * tot qs (i + 1)) := by unfold Hid; have := hm.out; have := HT.out; omega
    clear hg3 hs3 d1 HM HR2 HS2 HA2 HD2 HB2 HL2
    go_wp2
    go_roundw
    case rel => exact ⟨i + 1, m + 2 * q.l.length + 2 * q.s.length, by omega, by go_num, by simp, HE.out, HM3.out⟩
    case measure => simp [intOf]; omega
end Go.Proofs.YtjhdmghpklagkaaGreat.Srs
namespace Go.Proofs.YtjhdmghpklagkaaGreat.Stn
open Go.RowKit
open Go.Proofs.YtjhdmghpklagkaaGreat.Lab (Lb HasL)
open Go.Proofs.YtjhdmghpklagkaaGreat.Srs (hid blk Fr own_fr own_grown own_below)

def mt (k : Nat) (q : T) : T := ⟨Lab.markL k q.l.length, q.a, q.c, (k + 2 * q.l.length : Nat), (k + 2 * q.l.length + 1 : Nat)⟩
def mk (ts : List T) (i : Nat) : Nat := 2 * tot ts i + 2 * i
def mts (k : Nat) (ts : List T) : List T := (List.range ts.length).map fun j => mt (k + mk ts j) (ts.getD j t0)
theorem mts_len (k : Nat) (ts : List T) : (mts k ts).length = ts.length := by simp [mts]
theorem mts_get (k : Nat) (ts : List T) (j : Nat) (h : j < ts.length) : (mts k ts).getD j t0 = mt (k + mk ts j) (ts.getD j t0) := by simp [mts, h]
theorem mk_succ (ts : List T) (i : Nat) : mk ts (i + 1) = mk ts i + 2 * (ts.getD i t0).l.length + 2 := by unfold mk; simp only [tot]; omega
def half (k : Nat) (ts : List T) (i : Nat) : List T := (mts k ts).take i ++ ts.drop i
theorem half_len (k : Nat) (ts : List T) (i : Nat) (h : i ≤ ts.length) : (half k ts i).length = ts.length := by simp [half, mts_len]; omega
theorem half_get (k : Nat) (ts : List T) (i j : Nat) (h : i ≤ j) (hi : i ≤ ts.length) : (half k ts i).getD j t0 = ts.getD j t0 := by
  unfold half
  rw [List.getD_eq_getElem?_getD, List.getD_eq_getElem?_getD, List.getElem?_append_right (by simp [mts_len]; omega), List.getElem?_drop]
  congr 2
  simp [mts_len]; omega
theorem half_set (k : Nat) (ts : List T) (i : Nat) (h : i < ts.length) : (half k ts i).set i (mt (k + mk ts i) (ts.getD i t0)) = half k ts (i + 1) := by
  unfold half
  have hl : ((mts k ts).take i).length = i := by simp [mts_len]; omega
  have hg : (mts k ts)[i]? = some (mt (k + mk ts i) (ts.getD i t0)) := by
    rw [← mts_get k ts i h, List.getD_eq_getElem?_getD]
    have : i < (mts k ts).length := by rw [mts_len]; exact h
    simp [this]
  rw [List.set_append_right _ _ (by omega), hl, Nat.sub_self, List.drop_eq_getElem_cons h, List.set_cons_zero, List.take_add_one, hg, List.append_assoc]
  rfl
theorem half_end (k : Nat) (ts : List T) : half k ts ts.length = mts k ts := by
  unfold half
  rw [List.drop_eq_nil_of_le (Nat.le_refl _), List.append_nil, List.take_of_length_le (by rw [mts_len]; exact Nat.le_refl _)]
structure Mf (X Y g n k i : Nat) (ts : List T) (w x : World) : Prop where
  row : x.ownsRow X 94 3 (.slice (some ⟨g, 0, none⟩) n n) n (flat (half k ts i))
  done : ∀ j, j < i → Own1 X (blk (ts.getD j t0).a) (mt (k + mk ts j) (ts.getD j t0)) x
  own : ∀ j, i ≤ j → j < n → Own1 X (blk (ts.getD j t0).a) (ts.getD j t0) x
  fr : Fr X Y w x
set_option maxHeartbeats 4000000 in
theorem f39f (X Y g n k : Nat) (ts : List T) (w : World) (hn : ts.length = n) (hb : n ≤ 1048576) (hk : k + mk ts n ≤ 100000000) (ho : OwnT X g n ts w) (hX : X ≤ g) (hg : g < Y) (hY : ∀ i, i < n → blk (ts.getD i t0).a < Y) :
    Calls Tryz.prog 39 #[.slice (some ⟨g, 0, none⟩) n n, .int .i64 k] w fun e w' => e = .returned (.int .i64 ((k + mk ts n : Nat) : Int)) ∧ OwnT X g n (mts k ts) w' ∧ Fr X Y w w' := by
  have HN := hid hn
  have HY := hid hY
  have HK := hid hk
  have HD := hid ho.kin.dis
  have HF := hid ho.kin.off
  have H0 : Hid (Mf X Y g n k 0 ts w w) := ⟨ho.row, fun j hj => by omega, fun j _ hj => ho.kin.own j hj, Fr.refl _ _ _⟩
  clear hn hY hk ho
  go_enter Tryz.func39, Tryz.ntmps39
  go_wp2
  go_loopw [1, 5] (fun sk si wr => ∃ (i m : Nat), i ≤ n ∧ si = .int .i64 i ∧ sk = .int .i64 (m : Int) ∧ Hid (m = k + mk ts i) ∧ Hid (Mf X Y g n k i ts w wr)) (fun _ si _ => n - (intOf si).toNat)
  case atStart => exact ⟨0, k, Nat.zero_le _, rfl, rfl, rfl, H0.out⟩
  case round =>
    obtain ⟨i, m, hi, rfl, rfl, hm, HM⟩ := hrel
    by_cases hlt : i < n
    rotate_left
    · obtain rfl : i = n := by omega
      have HX : Hid (OwnT X g i (mts k ts) wr ∧ Fr X Y w wr) := by
        have hl := HN.out
        have hr := HM.out.row
        rw [← hl] at hr
        rw [half_end, hl] at hr
        have key : ∀ j, j < i → Own1 X (blk ((mts k ts).getD j t0).a) ((mts k ts).getD j t0) wr ∧ blk ((mts k ts).getD j t0).a = blk (ts.getD j t0).a := fun j hj => by
          rw [mts_get k ts j (by omega)]; exact ⟨HM.out.done j hj, rfl⟩
        refine ⟨⟨hr, ⟨(mts_len k ts).trans hl, fun j hj => (key j hj).1, fun j hj => by rw [(key j hj).2]; exact HF.out j hj, fun j j' h1 h2 => by rw [(key j (by omega)).2, (key j' h2).2]; exact HD.out j j' h1 h2⟩⟩, HM.out.fr⟩
      go_wp2
      go_ret
      exact ⟨by rw [← hm.out]; rfl, HX.out.1, HX.out.2⟩
    have HO := hid (HM.out.own i (Nat.le_refl _) hlt)
    have row := HM.out.row
    have HL' : Hid ((half k ts i).length = n) := by unfold Hid; rw [half_len k ts i (by rw [HN.out]; exact hi), HN.out]
    obtain ⟨y0, y1, y2⟩ := flat_get (half k ts i) i (by rw [HL'.out]; exact hlt)
    have HHg := hid (half_get k ts i i (Nat.le_refl _) (by rw [HN.out]; exact hi))
    rw [HHg.out] at y0 y1 y2
    have c0 := (row.cellAt (i * 3) (by omega)).trans y0
    have HT := hid (mk_succ ts i)
    have HTn : Hid (mk ts (i + 1) ≤ mk ts n) := by unfold Hid mk; have := tot_mono ts n (i + 1) hlt; omega
    have HDi := hid (fun j (h1 : i < j) (h2 : j < n) => HD.out i j h1 h2)
    have HDj := hid (fun j (h1 : j < i) => HD.out j i h1 hlt)
    have HFi := hid (HF.out i hlt)
    have HYi := hid (HY.out i hlt)
    rw [HO.out.ha] at c0
    have HHs := hid (half_set k ts i (by rw [HN.out]; exact hlt))
    obtain ⟨q, hq⟩ : ∃ q, q = ts.getD i t0 := ⟨_, rfl⟩
    have HQ := hid hq
    rw [← hq] at c0 HO HT HDi HDj HFi HYi HHs HHg
    have HRow := hid row
    rw [← hq] at y0 y1 y2
    clear hq row
    have hlo : X ≤ blk q.a := (HO.out.lab.lt _ rfl).1
    generalize hga : blk q.a = ga at *
    have N1 : Hid (m + 2 * q.l.length + 2 ≤ 100000000) := by unfold Hid; have := hm.out; have := HK.out; have := HTn.out; have := HT.out; omega
    go_wp2_with fail
    refine (Lab.f58 ga q.l.length q.c X m q.l _ rfl (by have := N1.out; omega) HO.out.lab).mono ?_
    rintro e w2 ⟨rfl, hl2, hg2⟩
    have HL2 := hid hl2
    have HR2 := hid (own_grown HRow.out hg2 (by have := HFi.out; omega))
    have HA2 : Hid (∀ j, i + 1 ≤ j → j < n → Own1 X (blk (ts.getD j t0).a) (ts.getD j t0) w2) := fun j h1 h2 =>
      (HM.out.own j (by omega) h2).grown hg2 (by have := HDi.out j (by omega) h2; omega)
    have HB2 : Hid (∀ j, j < i → Own1 X (blk (ts.getD j t0).a) (mt (k + mk ts j) (ts.getD j t0)) w2) := fun j h1 =>
      (HM.out.done j h1).grown hg2 (by have := HDj.out j h1; omega)
    have HF2 := hid (HM.out.fr.grown hg2 hlo HYi.out)
    have d1 := (HR2.out.cellAt (i * 3 + 1) (by omega)).trans y1
    have d2 := (HR2.out.cellAt (i * 3 + 2) (by omega)).trans y2
    have f1 := HR2.out.frozenAt (i * 3 + 1)
    have f2 := HR2.out.frozenAt (i * 3 + 2)
    obtain ⟨M, hM⟩ : ∃ M, M = m + 2 * q.l.length := ⟨_, rfl⟩
    rw [← hM]
    have HE : Hid (M + 2 = k + mk ts (i + 1)) := by unfold Hid; have := hm.out; have := HT.out; omega
    have hM1 : M ≤ 99999999 := by have := N1.out; omega
    have HMq : Hid (mt (k + mk ts i) q = ⟨Lab.markL m q.l.length, q.a, q.c, (M : Int), (M : Int) + 1⟩) := by
      unfold Hid mt
      rw [← hm.out, ← hM]
      rfl
    have HM3 : Hid (∀ x, x = (w2.setCell ⟨g, i * 3 + 1, none⟩ (.int .i64 (M : Int))).setCell ⟨g, i * 3 + 2, none⟩ (.int .i64 ((M : Int) + 1)) → Mf X Y g n k (i + 1) ts w x) := by
      rintro x rfl
      have s1 := HR2.out.stored (i * 3 + 1) (.int .i64 (M : Int))
      have s2 := s1.1.stored (i * 3 + 2) (.int .i64 ((M : Int) + 1))
      refine ⟨?_, fun j h1 => ?_, fun j h1 h2 => ?_, ?_⟩
      · have e : ((flat (half k ts i)).set (i * 3 + 1) (.int .i64 (M : Int))).set (i * 3 + 2) (.int .i64 ((M : Int) + 1)) = flat (half k ts (i + 1)) := by
          rw [flat_set2 _ i _ _ (by rw [HL'.out]; exact hlt), HHg.out, ← HHs.out, HMq.out]
          rw [← flat_set _ i _ (by rw [HL'.out]; exact hlt), ← flat_set _ i _ (by rw [HL'.out]; exact hlt)]
          simp only [Lab.markL_len]
        rw [← e]; exact s2.1
      · by_cases e : j = i
        · rw [e, ← HQ.out, hga, HMq.out]
          have h0 : Own1 X ga ⟨Lab.markL m q.l.length, q.a, q.c, (M : Int), (M : Int) + 1⟩ w2 := ⟨HO.out.ha, by simp only [Lab.markL_len]; exact HL2.out⟩
          exact (h0.grown s1.2 (by have := HFi.out; omega)).grown s2.2 (by have := HFi.out; omega)
        · have hj := HF.out j (by omega)
          exact ((HB2.out j (by omega)).grown s1.2 (by omega)).grown s2.2 (by omega)
      · have hj := HF.out j h2
        exact ((HA2.out j h1 h2).grown s1.2 (by omega)).grown s2.2 (by omega)
      · exact (HF2.out.grown s1.2 hX hg).grown s2.2 hX hg
    clear hg2 hl2 y0 y1 y2 c0 HM HR2 HA2 HB2 HF2 HRow hM N1 HL2
    go_wp2
    go_roundw
    case rel => exact ⟨i + 1, M + 2, by omega, by go_num, by go_num, HE.out, HM3.out _ rfl⟩
    case measure => simp [intOf]; omega
end Go.Proofs.YtjhdmghpklagkaaGreat.Stn
namespace Go.Proofs.YtjhdmghpklagkaaGreat.Blk
open Go.RowKit
open Go.Proofs.YtjhdmghpklagkaaGreat.Lab (Lb HasL)
open Go.Proofs.YtjhdmghpklagkaaGreat.Srs (hid lt_at kept blk own_base own_below own_grown set_else set_at OwnG OwnG.below Q q0 HasQ SmlQ Fr own_fr)
open Go.Proofs.YtjhdmghpklagkaaGreat.Stn (T t0 OwnT HasT SmlT)

structure OwnC (X Y : Nat) (h : Bk) (w : World) : Prop where
  ex : ∃ g k M, h.a = some ⟨g, 0, none⟩ ∧ h.b = some ⟨k, 0, none⟩ ∧ h.c = h.qs.length ∧ h.d = h.ts.length ∧ OwnG X g h.qs.length h.c h.qs w ∧ OwnT M k h.ts.length h.ts w ∧ X ≤ M ∧ g < M ∧ (∀ i, i < h.qs.length → blk (h.qs.getD i q0).a < M ∧ blk (h.qs.getD i q0).b < M) ∧ M ≤ k ∧ k < Y ∧ (∀ i, i < h.ts.length → blk (h.ts.getD i t0).a < Y)
  top : Y ≤ w.heap.size
theorem OwnC.has {X Y : Nat} {h : Bk} {w : World} (o : OwnC X Y h w) : HasB w h := by
  obtain ⟨g, k, M, e1, e2, e3, e4, o1, o2, _⟩ := o.ex
  exact ⟨by rw [e1]; exact o1.has, by rw [e2]; exact o2.has⟩
theorem OwnC.below {X Y : Nat} {h : Bk} {w w' : World} (o : OwnC X Y h w) (hb : Below w.heap.size w w') : OwnC X Y h w' := by
  obtain ⟨g, k, M, e1, e2, e3, e4, o1, o2, r⟩ := o.ex
  exact ⟨⟨g, k, M, e1, e2, e3, e4, o1.below hb, o2.below hb, r⟩, Nat.le_trans o.top hb.size⟩
structure Cpb (h : Bk) : Prop where
  sml : SmlB h
  ne : ∀ i, i < h.qs.length → (h.qs.getD i q0).l ≠ [] ∧ (h.qs.getD i q0).s ≠ []
  cap : ∀ i, i < h.qs.length → (h.qs.getD i q0).d = (h.qs.getD i q0).s.length
  net : ∀ i, i < h.ts.length → (h.ts.getD i t0).l ≠ []
theorem own2_set {X : Nat} {q : Q} {w : World} (h : Srs.Own2 X q w) {p : Addr} (hp : p.block < X) (v : Value) : Srs.Own2 X q (w.setCell p v) :=
  ⟨h.ha, h.hb, Srs.own_set h.lab (by have := h.lo.1; omega) v, Srs.own_set h.smp (by have := h.lo.2; omega) v, h.ne⟩
theorem owng_set {X g n c : Nat} {qs : List Q} {w : World} (h : OwnG X g n c qs w) {p : Addr} (hp : p.block < X) (v : Value) : OwnG X g n c qs (w.setCell p v) :=
  ⟨h.len, Srs.own_set h.row (by have := (h.row.lt g rfl).1; omega) v, fun i hi => own2_set (h.own i hi) hp v, h.apt⟩
set_option maxRecDepth 10000 in
set_option maxHeartbeats 8000000 in
theorem f78 (h : Bk) (w : World) (hr : HasB w h) (hc : Cpb h) :
    Calls Tryz.prog 78 #[agB h] w fun e w' => ∃ h', e = .returned (agB h') ∧ Hid (SameB h h') ∧ Hid (OwnC w.heap.size w'.heap.size h' w') ∧ Below w.heap.size w w' := by
  obtain ⟨F, TT, LL, qs, a, c, ts, b, d⟩ := h
  obtain ⟨hz, hne, hcap, hnet⟩ := hc
  simp only at hne hcap hnet
  obtain ⟨W, hW⟩ : ∃ W, W = (w.alloc (.cells #[.int .i64 F, .int .i64 TT, .int .i64 LL, .slice a qs.length c, .slice b ts.length d] 36)).alloc Z5 := ⟨_, rfl⟩
  have HWb : Hid (Below w.heap.size w W ∧ W.heap[w.heap.size]? = some (.cells #[.int .i64 F, .int .i64 TT, .int .i64 LL, .slice a qs.length c, .slice b ts.length d] 36) ∧ W.heap[w.heap.size + 1]? = some Z5 ∧ W.heap.size = w.heap.size + 1 + 1) := by
    subst hW
    have h2 := heap_alloc_new (w.alloc (.cells #[.int .i64 F, .int .i64 TT, .int .i64 LL, .slice a qs.length c, .slice b ts.length d] 36)) Z5
    simp only [World.size_alloc] at h2
    exact ⟨((Below.refl w.heap.size w).alloc (Nat.le_refl _) _).alloc (by simp) _, (Below.heap_alloc _ _ w.heap.size (by simp)).trans (heap_alloc_new w _), h2, by simp⟩
  have hd2 : Below W.heap.size W W.drew := (Below.refl _ _).drew
  have hrW := hr.below HWb.out.1
  have HC1 := hid (Srs.f117 a qs.length c qs W.drew rfl hz.1 (hrW.1.below hd2) hne hz.2.1 hcap)
  have HC2 := fun x (hx : Below W.heap.size W x) => hid (Stn.f118 b ts.length d ts x rfl hz.2.2.1 (hrW.2.below hx) hnet hz.2.2.2)
  have HL0 : Hid (qs.length = qs.length) := rfl
  clear hr hz hne hcap hnet hrW
  simp only [agB, clB]
  go_enter Tryz.func78, Tryz.ntmps78
  obtain ⟨a0, a1, a2, a3, a4⟩ := five HWb.out.2.1
  obtain ⟨b0, b1, b2, b3, b4⟩ := five (kept HWb.out.2.1 hd2)
  go_wp2_with fail
  rw [← hW]
  clear hW
  go_region_with (first | (go_at_call 117; refine HC1.out.mono ?_; rintro e w4 ⟨qs4, rfl, ho4, hs4, hb4⟩; have hw4 : Below W.heap.size W w4 := hd2.trans (hb4.mono hd2.size); obtain ⟨p0, p1, p2, p3, p4⟩ := five (kept HWb.out.2.1 hw4)) | (go_at_call 118; refine (HC2 w4 hw4).out.mono ?_; rintro e w5 ⟨ts5, rfl, ho5, hs5, hb5⟩; have hw5 : Below W.heap.size W w5 := hw4.trans (hb5.mono hw4.size); obtain ⟨q0', q1', q2', q3', q4'⟩ := five (kept HWb.out.2.1 hw5); have r3 := five_frz (o := 3) (kept HWb.out.2.1 hw5); have r4 := five_frz (o := 4) (kept HWb.out.2.1 hw5)))
  all_goals
    have ho4' : OwnG W.heap.size W.heap.size qs.length qs.length qs4 w4 := ho4.out
    have l4 : W.heap.size ≤ w4.heap.size := hw4.size
    have HWs := hid HWb.out.2.2.2
    have hlt4 : W.heap.size < w4.heap.size := (ho4'.row.lt W.heap.size rfl).2
    have HTp4 : Hid (∀ i, i < qs.length → blk (qs4.getD i q0).a < w4.heap.size ∧ blk (qs4.getD i q0).b < w4.heap.size) := fun i hi => (ho4'.own i hi).hi
    have HTp5 : Hid (∀ i, i < ts.length → blk (ts5.getD i t0).a < w5.heap.size) := fun i hi => (ho5.out.kin.own i hi).lts
    have hlt5 : w4.heap.size < w5.heap.size := (ho5.out.row.lt w4.heap.size rfl).2
    obtain ⟨w6, hw6⟩ : ∃ w6, w6 = (w5.setCell ⟨w.heap.size, 3, none⟩ (.slice (some ⟨W.heap.size, 0, none⟩) qs.length qs.length)).setCell ⟨w.heap.size, 4, none⟩ (.slice (some ⟨w4.heap.size, 0, none⟩) ts.length ts.length) := ⟨_, rfl⟩
    have H6 : Hid (w6.heap[w.heap.size]? = some (.cells #[.int .i64 F, .int .i64 TT, .int .i64 LL, .slice (some ⟨W.heap.size, 0, none⟩) qs.length qs.length, .slice (some ⟨w4.heap.size, 0, none⟩) ts.length ts.length] 36) ∧ w6.heap[w.heap.size + 1]? = some Z5 ∧ OwnG W.heap.size W.heap.size qs.length qs.length qs4 w6 ∧ OwnT w4.heap.size w4.heap.size ts.length ts5 w6 ∧ Below w.heap.size w w6 ∧ w6.heap.size = w5.heap.size) := by
      have hWs := HWs.out
      rw [hw6]
      refine ⟨set_at (i := 4) (set_at (i := 3) (kept HWb.out.2.1 hw5)), set_else (set_else (kept HWb.out.2.2.1 hw5) (by simp only; omega)) (by simp only; omega), owng_set (owng_set (ho4'.below hb5) (by simp only; omega) _) (by simp only; omega) _, OwnT.set (OwnT.set ho5.out (by simp only; omega) _) (by simp only; omega) _, ?_, by simp⟩
      exact Below.setCell (p := ⟨w.heap.size, 4, none⟩) (Below.setCell (p := ⟨w.heap.size, 3, none⟩) (HWb.out.1.trans (hw5.mono HWb.out.1.size)) (Nat.le_refl _) _) (Nat.le_refl _) _
    rw [← hw6]
    have HS4 := hid hs4.out
    have HS5 := hid hs5.out
    clear hw6 ho4 ho5 hb4 hb5 hw4 hw5 hs4 hs5 p0 p1 p2 p3 p4 q0' q1' q2' q3' q4' r3 r4 a0 a1 a2 a3 a4 b0 b1 b2 b3 b4 HC1 HC2 ho4' hd2
    clear HWb
    generalize W.heap.size = S1 at *
    generalize w4.heap.size = S2 at *
    obtain ⟨c0, c1, c2, c3, c4⟩ := five H6.out.1
    obtain ⟨e0, e1, e2, e3, e4⟩ := five H6.out.2.1
    have u0 := five_frz (o := 0) H6.out.2.1
    have u1 := five_frz (o := 1) H6.out.2.1
    have u2 := five_frz (o := 2) H6.out.2.1
    have u3 := five_frz (o := 3) H6.out.2.1
    have u4 := five_frz (o := 4) H6.out.2.1
    have HF : Hid (∀ x, x = ((((w6.setCell ⟨w.heap.size + 1, 0, none⟩ (.int .i64 F)).setCell ⟨w.heap.size + 1, 1, none⟩ (.int .i64 TT)).setCell ⟨w.heap.size + 1, 2, none⟩ (.int .i64 LL)).setCell ⟨w.heap.size + 1, 3, none⟩ (.slice (some ⟨S1, 0, none⟩) qs.length qs.length)).setCell ⟨w.heap.size + 1, 4, none⟩ (.slice (some ⟨S2, 0, none⟩) ts.length ts.length) →
        x.heap[w.heap.size + 1]? = some (.cells #[.int .i64 F, .int .i64 TT, .int .i64 LL, .slice (some ⟨S1, 0, none⟩) qs.length qs.length, .slice (some ⟨S2, 0, none⟩) ts.length ts.length] 36) ∧ OwnG S1 S1 qs.length qs.length qs4 x ∧ OwnT S2 S2 ts.length ts5 x ∧ Below w.heap.size w x ∧ x.heap.size = w5.heap.size) := by
      rintro x rfl
      have hWs := HWs.out
      refine ⟨set_at (i := 4) (set_at (i := 3) (set_at (i := 2) (set_at (i := 1) (set_at (i := 0) H6.out.2.1)))), ?_, ?_, ?_, by have := H6.out.2.2.2.2.2; simpa using this⟩
      · exact owng_set (owng_set (owng_set (owng_set (owng_set H6.out.2.2.1 (by simp only; omega) _) (by simp only; omega) _) (by simp only; omega) _) (by simp only; omega) _) (by simp only; omega) _
      · exact OwnT.set (OwnT.set (OwnT.set (OwnT.set (OwnT.set H6.out.2.2.2.1 (by simp only; omega) _) (by simp only; omega) _) (by simp only; omega) _) (by simp only; omega) _) (by simp only; omega) _
      · exact Below.setCell (p := ⟨w.heap.size + 1, 4, none⟩) (Below.setCell (p := ⟨w.heap.size + 1, 3, none⟩) (Below.setCell (p := ⟨w.heap.size + 1, 2, none⟩) (Below.setCell (p := ⟨w.heap.size + 1, 1, none⟩) (Below.setCell (p := ⟨w.heap.size + 1, 0, none⟩) H6.out.2.2.2.2.1 (by simp only; omega) _) (by simp only; omega) _) (by simp only; omega) _) (by simp only; omega) _) (by simp only; omega) _
    have HL4 := hid H6.out.2.2.1.len
    have HL5 := hid H6.out.2.2.2.1.kin.len
    clear H6
    go_wp2
    revert HF
    generalize hwf : World.setCell _ _ _ = wf
    intro HF
    obtain ⟨k1, k2, k3, k4, k5⟩ := HF.out wf (by rw [← hwf])
    obtain ⟨y0, y1, y2, y3, y4⟩ := five k1
    have hres : ∃ h' : Bk, agB h' = .agg #[.int .i64 F, .int .i64 TT, .int .i64 LL, .slice (some ⟨S1, 0, none⟩) qs.length qs.length, .slice (some ⟨S2, 0, none⟩) ts.length ts.length] ∧ SameB ⟨F, TT, LL, qs, a, c, ts, b, d⟩ h' ∧ OwnC w.heap.size wf.heap.size h' wf := by
      refine ⟨⟨F, TT, LL, qs4, some ⟨S1, 0, none⟩, qs.length, ts5, some ⟨S2, 0, none⟩, ts.length⟩, ?_, ⟨rfl, rfl, rfl, HL4.out, HL5.out, HS4.out, HS5.out⟩, ⟨⟨S1, S2, S2, rfl, rfl, HL4.out.symm, HL5.out.symm, ?_, ?_, ?_, ?_, ?_, Nat.le_refl _, ?_, ?_⟩, Nat.le_refl _⟩⟩
      · simp only [agB, clB, HL4.out, HL5.out]
      · rw [show (⟨F, TT, LL, qs4, some ⟨S1, 0, none⟩, qs.length, ts5, some ⟨S2, 0, none⟩, ts.length⟩ : Bk).qs.length = qs.length from HL4.out]
        have hWs := HWs.out
        exact ⟨k2.len, own_base k2.row (by omega), fun i hi => ⟨(k2.own i hi).ha, (k2.own i hi).hb, own_base (k2.own i hi).lab (by omega), own_base (k2.own i hi).smp (by omega), (k2.own i hi).ne⟩, k2.apt⟩
      · rw [show (⟨F, TT, LL, qs4, some ⟨S1, 0, none⟩, qs.length, ts5, some ⟨S2, 0, none⟩, ts.length⟩ : Bk).ts.length = ts.length from HL5.out]; exact k3
      · have hWs := HWs.out; omega
      · omega
      · intro i hi; exact HTp4.out i (by rw [← HL4.out]; exact hi)
      · rw [k5]; exact hlt5
      · intro i hi; rw [k5]; exact HTp5.out i (by rw [← HL5.out]; exact hi)
    obtain ⟨h', he, hsm, hoc⟩ := hres
    have HH := hid (And.intro hsm hoc)
    clear hsm hoc HF k1 k2 k3 k5 HL4 HL5 HS4 HS5 HTp4 HTp5
    refine bodyPost_ret (v := .agg #[.int .i64 F, .int .i64 TT, .int .i64 LL, .slice (some ⟨S1, 0, none⟩) qs.length qs.length, .slice (some ⟨S2, 0, none⟩) ts.length ts.length]) (by simp [results, Tryz.results78, go_sem, y0, y1, y2, y3, y4]) rfl ?_
    exact ⟨h', congrArg Ending.returned he.symm, HH.out.1, HH.out.2, k4⟩
end Go.Proofs.YtjhdmghpklagkaaGreat.Blk
