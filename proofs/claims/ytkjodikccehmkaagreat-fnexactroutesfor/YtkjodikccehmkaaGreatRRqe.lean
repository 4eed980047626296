/- The walk of FnExactRoutesFor. -/
import Derived.Test.YtkjodikccehmkaaGreatRRqd
import Derived.Test.YtkjodikccehmkaaGreatRRop
namespace Go.Proofs.YtkjodikccehmkaaGreat.Rou
open Go.RowKit
open Go.Proofs.YtkjodikccehmkaaGreat.Lab (Lb HasL)
open Go.Proofs.YtkjodikccehmkaaGreat.Rwc

theorem mw_pl {q q' : T} (h : pl q' = pl q) : mw q' = mw q := by
  have h1 : q'.ms = q.ms := congrArg Pl.ms h
  have h2 : q'.ds = q.ds := congrArg Pl.ds h
  have h3 : q'.us = q.us := congrArg Pl.us h
  unfold mw; rw [h1, h2, h3]
theorem mtt_same {n : Nat} {ts ts' : List T} (h : Same n ts ts') : ∀ k, k ≤ n → mtt ts' k = mtt ts k
  | 0, _ => rfl
  | k + 1, hk => by
    have e := mtt_same h k (by omega)
    show mtt ts' k + _ = mtt ts k + _
    rw [e, mw_pl (h k (by omega))]

set_option maxRecDepth 20000 in
set_option maxHeartbeats 8000000 in
theorem walkFor (a la : Option Addr) (n c nl lc : Nat) (ts : List T) (l : List Lb) (w : World) (hn : ts.length = n) (hnl : l.length = nl) (hmax : n ≤ maxLen) (hmaxl : nl ≤ maxLen) (hf : Fit ts) (hfl : Lab.Fit l) (hr : Has w a ts) (hrl : HasL w la l) :
    Calls Tryz.prog 3 #[.slice a n c, .slice la nl lc] w fun e w' => e = .returned (.bool true) ∧ Below w.heap.size w w' := by
  have HN := hid hn
  have HNL := hid hnl
  have HF := hid hf
  have HFL := hid hfl
  have HX := hid hmax
  have HXL := hid hmaxl
  have HR := hid hr
  have RL := hid hrl
  clear hn hnl hf hfl hmax hmaxl hr hrl
  go_enter Tryz.func3, Tryz.ntmps3
  go_wp2_with fail
  refine (f4 a n c 1048576 ts _ (by omega) (by omega) HN.out HR.out HF.out HX.out).mono ?_
  rintro e w1 ⟨y, rfl, y0, y1, hy, hb⟩
  have HB1 := hid hb
  clear hb
  by_cases g0 : y < 0
  · go_wp2
    go_ret
    exact ⟨rfl, HB1.out⟩
  have h1 := hy (by omega)
  have hle : n ≤ 1048576 := by omega
  have htot : tot ts n ≤ 1048576 := by omega
  have HZ : Hid (Sml ts) := sml_tot (by rw [HN.out]; omega)
  clear h1 hy
  go_wp2_with fail
  refine (Lab.f5g la nl lc y l _ (by omega) (by omega) HNL.out (RL.out.below HB1.out) HFL.out HXL.out).mono ?_
  rintro e w2 ⟨u, rfl, hu, u0, u1, hb⟩
  have HB2 := hid (HB1.out.trans (hb.mono HB1.out.size))
  clear hb HB1
  by_cases g2 : u < 0
  · go_wp2
    go_ret
    exact ⟨rfl, HB2.out⟩
  have hlel := hu (by omega)
  clear hu
  go_wp2_with fail
  refine (f7 a n c ts _ HN.out hle (HR.out.below HB2.out) HZ.out).mono ?_
  rintro e w3 ⟨da, rfl, hs, ho, hb⟩
  have HB3 := hid (HB2.out.trans (hb.mono HB2.out.size))
  have La := hid ho.len
  have Sa := hid hs
  have Ca := hid ho.has
  clear hb ho hs HB2
  go_wp2_with fail
  refine (Lab.f8 la nl lc l _ HNL.out hlel (RL.out.below HB3.out)).mono ?_
  rintro e w4 ⟨rfl, ho, hb⟩
  have HB4 := hid (HB3.out.trans (hb.mono HB3.out.size))
  have Cb := hid (Lab.HasL.own ho)
  replace Ca := hid (Ca.out.below hb)
  clear hb ho HB3
  go_wp2_with fail
  refine (f6 _ _ n n nl nl da l _ La.out HNL.out hle (by omega) (Sa.out.sml HN.out La.out HZ.out) (Sa.out.fit La.out HF.out) HFL.out Ca.out Cb.out).mono ?_
  rw [rf_same Sa.out HN.out La.out l]
  rintro e w5 ⟨v8, rfl, ho, hb⟩
  have HB5 := hid (HB4.out.trans (hb.mono HB4.out.size))
  replace Ca := hid (Ca.out.below hb)
  replace Cb := hid (Cb.out.below hb)
  obtain ⟨R, hR⟩ : ∃ R, R = rfr ts l := ⟨_, rfl⟩
  have HRR := hid hR
  have hRl : R.length ≤ 1048576 := by rw [hR]; exact rf_len ts l
  rw [← hR] at ho
  clear hR
  obtain ⟨a8, c8, rfl⟩ := Anj.form ho
  have O8 := hid ho
  have B8 : Hid (∀ b, (Value.slice a8 R.length c8).ownBlock = some b → w4.heap.size ≤ b ∧ b < w5.heap.size) := fun b hb => ho.lt b hb
  clear hb ho HB4
  clear Ca Cb
  have HSZ : Hid (w.heap.size ≤ w5.heap.size) := HB5.out.size
  go_wp2_with fail
  refine (f7 a n c ts _ HN.out hle (HR.out.below HB5.out) HZ.out).mono ?_
  rintro e w6 ⟨dd, rfl, hs, ho, hb⟩
  have HB6 := hid (HB5.out.trans (hb.mono HB5.out.size))
  have Ld := hid ho.len
  have Sd := hid hs
  have Cd := hid ho.has
  replace O8 := hid (own_below O8.out hb)
  obtain ⟨Z, hZ⟩ := ho.kin
  have KI := hid hZ
  have RO := hid ho.row
  have TOP := hid hZ.top
  clear hZ
  clear hb ho hs HB5
  go_wp2_with fail
  refine (Lab.f8 la nl lc l _ HNL.out hlel (RL.out.below HB6.out)).mono ?_
  rintro e w7 ⟨rfl, ho, hb⟩
  have HB7 := hid (HB6.out.trans (hb.mono HB6.out.size))
  have Ce := hid (Lab.HasL.own ho)
  replace O8 := hid (own_below O8.out hb)
  replace Cd := hid (Cd.out.below hb)
  replace KI := hid (KI.out.below hb)
  replace RO := hid (own_below RO.out hb)
  have OL := hid ho
  clear hb ho HB6
  have g10lt : w6.heap.size < w7.heap.size := (OL.out.lt _ rfl).2
  have g9le : w5.heap.size ≤ w6.heap.size := by have := KI.out.low; have := KI.out.zle n 0 (Nat.zero_le _) (Nat.le_refl _); have := TOP.out; omega
  have b5 : w.heap.size ≤ w5.heap.size := HSZ.out
  go_wp2_with fail
  refine (f9 _ _ n n nl nl dd l _ Ld.out HNL.out hle (by omega) (Sd.out.sml HN.out Ld.out HZ.out) (Sd.out.fit Ld.out HF.out) HFL.out Cd.out Ce.out).mono ?_
  rw [rf_same Sd.out HN.out Ld.out l, ← HRR.out]
  rintro e w8 ⟨v11, rfl, ho, hb⟩
  have HB8 := hid (HB7.out.trans (hb.mono HB7.out.size))
  replace O8 := hid (own_below O8.out hb)
  replace Cd := hid (Cd.out.below hb)
  replace KI := hid (KI.out.below hb)
  replace RO := hid (own_below RO.out hb)
  replace Ce := hid (Ce.out.below hb)
  replace OL := hid (own_below OL.out hb)
  obtain ⟨a11, c11, rfl⟩ := Anj.form ho
  have O11 := hid ho
  have B11 : Hid (∀ b, (Value.slice a11 R.length c11).ownBlock = some b → w7.heap.size ≤ b ∧ b < w8.heap.size) := fun b hb => ho.lt b hb
  clear hb ho HB7
  go_wp2_with fail
  refine (Anj.eqX R _ hRl O11.out O8.out).mono ?_
  rintro e w9 ⟨rfl, hb⟩
  have HB9 := hid (HB8.out.trans (hb.mono HB8.out.size))
  replace O8 := hid (own_below O8.out hb)
  replace Cd := hid (Cd.out.below hb)
  replace KI := hid (KI.out.below hb)
  replace RO := hid (own_below RO.out hb)
  replace Ce := hid (Ce.out.below hb)
  replace OL := hid (own_below OL.out hb)
  replace O11 := hid (own_below O11.out hb)
  clear hb HB8
  go_wp2_with fail
  refine (f7 a n c ts _ HN.out hle (HR.out.below HB9.out) HZ.out).mono ?_
  rintro e w10 ⟨dg, rfl, hs, ho, hb⟩
  have HB10 := hid (HB9.out.trans (hb.mono HB9.out.size))
  have Lg := hid ho.len
  have Sg := hid hs
  have Cg := hid ho.has
  replace O8 := hid (own_below O8.out hb)
  replace Cd := hid (Cd.out.below hb)
  replace KI := hid (KI.out.below hb)
  replace RO := hid (own_below RO.out hb)
  replace Ce := hid (Ce.out.below hb)
  replace OL := hid (own_below OL.out hb)
  replace O11 := hid (own_below O11.out hb)
  clear hb ho hs HB9
  go_wp2_with fail
  refine (f11 _ _ n n n dd dg _ Ld.out Lg.out hle Cd.out Cg.out (Sd.out.trans' Sg.out) (Sd.out.sml HN.out Ld.out HZ.out)).mono ?_
  rintro e w11 ⟨rfl, hb⟩
  have HB11 := hid (HB10.out.trans (hb.mono HB10.out.size))
  replace O8 := hid (own_below O8.out hb)
  replace Cd := hid (Cd.out.below hb)
  replace KI := hid (KI.out.below hb)
  replace RO := hid (own_below RO.out hb)
  replace Ce := hid (Ce.out.below hb)
  replace OL := hid (own_below OL.out hb)
  replace O11 := hid (own_below O11.out hb)
  replace Cg := hid (Cg.out.below hb)
  clear hb HB10
  clear Cg Cd
  go_wp2_with fail
  refine (Lab.f8 la nl lc l _ HNL.out hlel (RL.out.below HB11.out)).mono ?_
  rintro e w12 ⟨rfl, ho, hb⟩
  have HB12 := hid (HB11.out.trans (hb.mono HB11.out.size))
  have Ch := hid (Lab.HasL.own ho)
  replace O8 := hid (own_below O8.out hb)
  replace KI := hid (KI.out.below hb)
  replace RO := hid (own_below RO.out hb)
  replace Ce := hid (Ce.out.below hb)
  replace OL := hid (own_below OL.out hb)
  replace O11 := hid (own_below O11.out hb)
  clear hb ho HB11
  go_wp2_with fail
  refine (Lab.f12 _ _ nl nl nl l _ HNL.out hlel Ce.out Ch.out).mono ?_
  rintro e w13 ⟨rfl, hb⟩
  have HB13 := hid (HB12.out.trans (hb.mono HB12.out.size))
  replace O8 := hid (own_below O8.out hb)
  replace KI := hid (KI.out.below hb)
  replace RO := hid (own_below RO.out hb)
  replace Ce := hid (Ce.out.below hb)
  replace OL := hid (own_below OL.out hb)
  replace O11 := hid (own_below O11.out hb)
  replace Ch := hid (Ch.out.below hb)
  clear hb HB12
  clear Ce Ch
  have ht9 := mtt_same Sd.out n (Nat.le_refl _)
  have ht8 := mtt_tot ts n
  have BN : Hid (w.heap.size ≤ w13.heap.size) := HB13.out.size
  go_wp2_with fail
  refine (f13 w5.heap.size w5.heap.size w6.heap.size n 1 Z dd _ hle (by rw [ht9]; omega) (Sd.out.sml HN.out Ld.out HZ.out) RO.out KI.out TOP.out).mono ?_
  rintro e w14 ⟨rfl, hfr⟩
  have HB14 := hid (Frw.below_fr HB13.out hfr b5 BN.out)
  replace O8 := hid (Frw.own_fr O8.out hfr (fun b hb => .inl (B8.out b hb).2))
  replace O11 := hid (Frw.own_fr O11.out hfr (fun b hb => .inr (by have := (B11.out b hb).1; omega)))
  replace OL := hid (Frw.own_fr OL.out hfr (fun b hb => .inr (by cases hb; exact Nat.le_refl _)))
  rw [ht9]
  obtain ⟨M, hM⟩ : ∃ M, M = 1 + mtt ts n := ⟨_, rfl⟩
  rw [← hM]
  have hMb : M ≤ 10000000 := by omega
  clear hM
  clear hfr RO KI HB13 ht9
  have BN15 : Hid (w.heap.size ≤ w14.heap.size) := HB14.out.size
  go_wp2_with fail
  refine (Lab.f14 w6.heap.size nl nl w6.heap.size M l _ HNL.out (by omega) OL.out).mono ?_
  rintro e w15 ⟨rfl, _, hg⟩
  have hfr := Frw.fr_of (X := w6.heap.size) (Y := w6.heap.size + 1) hg (fun b hb => by cases hb; omega)
  have HB15 := hid (Frw.below_fr HB14.out hfr (by omega) BN15.out)
  replace O8 := hid (Frw.own_fr O8.out hfr (fun b hb => .inl (by have := (B8.out b hb).2; omega)))
  replace O11 := hid (Frw.own_fr O11.out hfr (fun b hb => .inr (by have := (B11.out b hb).1; omega)))
  clear hfr hg OL HB14 BN15
  obtain ⟨M2, hM2⟩ : ∃ M2, M2 = M + 2 * nl := ⟨_, rfl⟩
  rw [← hM2]
  clear hM2
  have hM3 : ¬ (M2 : Int) < 0 := by omega
  go_wp2_with fail
  refine (Anj.eqX R _ hRl O11.out O8.out).mono ?_
  rintro e w16 ⟨rfl, hb⟩
  have HB16 := hid (HB15.out.trans (hb.mono HB15.out.size))
  replace O8 := hid (own_below O8.out hb)
  replace O11 := hid (own_below O11.out hb)
  clear hb HB15
  have BN17 : Hid (w.heap.size ≤ w16.heap.size) := HB16.out.size
  have BS17 : Hid (∀ b, (Value.slice a11 R.length c11).ownBlock = some b → b < w16.heap.size) := fun b hb => (O11.out.lt b hb).2
  go_wp2_with fail
  refine (Anj.markX 1 R _ (by omega) hRl O11.out).mono ?_
  rintro e w17 ⟨rfl, ho, hg⟩
  have hfr := Frw.fr_of (X := w7.heap.size) (Y := w16.heap.size) hg (fun b hb => ⟨(B11.out b hb).1, BS17.out b hb⟩)
  have HB17 := hid (Frw.below_fr HB16.out hfr (by omega) BN17.out)
  replace O8 := hid (Frw.own_fr O8.out hfr (fun b hb => .inl (by have := (B8.out b hb).2; omega)))
  replace O11 := hid ho
  clear hfr hg ho HB16 BN17 BS17
  go_wp2_with fail
  refine (Anj.heldX 1 R.length _ (by omega) hRl O11.out).mono ?_
  rintro e w18 ⟨rfl, hb⟩
  have HB18 := hid (HB17.out.trans (hb.mono HB17.out.size))
  replace O8 := hid (own_below O8.out hb)
  replace O11 := hid (own_below O11.out hb)
  clear hb HB17
  go_wp2_with fail
  refine (f7 a n c ts _ HN.out hle (HR.out.below HB18.out) HZ.out).mono ?_
  rintro e w19 ⟨di, rfl, hs, ho, hb⟩
  have HB19 := hid (HB18.out.trans (hb.mono HB18.out.size))
  have Li := hid ho.len
  have Si := hid hs
  have Ci := hid ho.has
  replace O8 := hid (own_below O8.out hb)
  replace O11 := hid (own_below O11.out hb)
  clear hb ho hs HB18
  go_wp2_with fail
  refine (Lab.f8 la nl lc l _ HNL.out hlel (RL.out.below HB19.out)).mono ?_
  rintro e w20 ⟨rfl, ho, hb⟩
  have HB20 := hid (HB19.out.trans (hb.mono HB19.out.size))
  have Cj := hid (Lab.HasL.own ho)
  replace O8 := hid (own_below O8.out hb)
  replace O11 := hid (own_below O11.out hb)
  replace Ci := hid (Ci.out.below hb)
  clear hb ho HB19
  go_wp2_with fail
  refine (f9 _ _ n n nl nl di l _ Li.out HNL.out hle (by omega) (Si.out.sml HN.out Li.out HZ.out) (Si.out.fit Li.out HF.out) HFL.out Ci.out Cj.out).mono ?_
  rw [rf_same Si.out HN.out Li.out l, ← HRR.out]
  rintro e w21 ⟨v15, rfl, ho, hb⟩
  have HB21 := hid (HB20.out.trans (hb.mono HB20.out.size))
  replace O8 := hid (own_below O8.out hb)
  replace O11 := hid (own_below O11.out hb)
  replace Ci := hid (Ci.out.below hb)
  replace Cj := hid (Cj.out.below hb)
  obtain ⟨a15, c15, rfl⟩ := Anj.form ho
  have O15 := hid ho
  have B15 : Hid (∀ b, (Value.slice a15 R.length c15).ownBlock = some b → w20.heap.size ≤ b ∧ b < w21.heap.size) := fun b hb => ho.lt b hb
  clear hb ho HB20
  clear Ci Cj
  go_wp2_with fail
  refine (Anj.eqX R _ hRl O15.out O8.out).mono ?_
  rintro e w22 ⟨rfl, hb⟩
  have HB22 := hid (HB21.out.trans (hb.mono HB21.out.size))
  replace O8 := hid (own_below O8.out hb)
  replace O11 := hid (own_below O11.out hb)
  replace O15 := hid (own_below O15.out hb)
  clear hb HB21
  go_wp2_with fail
  refine (Anj.heldX 1 R.length _ (by omega) hRl O11.out).mono ?_
  rintro e w23 ⟨rfl, hb⟩
  have HB23 := hid (HB22.out.trans (hb.mono HB22.out.size))
  replace O8 := hid (own_below O8.out hb)
  replace O11 := hid (own_below O11.out hb)
  replace O15 := hid (own_below O15.out hb)
  clear hb HB22
  go_wp2
  go_ret
  exact ⟨rfl, HB23.out⟩
end Go.Proofs.YtkjodikccehmkaaGreat.Rou
