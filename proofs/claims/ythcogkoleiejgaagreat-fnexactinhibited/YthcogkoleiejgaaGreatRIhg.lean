/- The walk of FnExactInhibited. -/
import Derived.Test.YthcogkoleiejgaaGreatRIhf
namespace Go.Proofs.YthcogkoleiejgaaGreat.Inh
open Go.RowKit
open Go.Proofs.YthcogkoleiejgaaGreat.Lab (Lb HasL)
open Go.Proofs.YthcogkoleiejgaaGreat.Rwc

set_option maxHeartbeats 8000000 in
theorem walkInh (a fa la : Option Addr) (n c m fc nl lc : Nat) (ts : List T) (fs : List Lss.T) (l : List Lb) (w : World) (hn : ts.length = n) (hm : fs.length = m) (hnl : l.length = nl) (hmax : n ≤ maxLen) (hmax' : m ≤ maxLen) (hmaxl : nl ≤ maxLen) (hf : Fit ts) (hff : Lss.Fit fs) (hfl : Lab.Fit l) (hr : Has w a ts) (hrf : Lss.Has w fa fs) (hrl : HasL w la l) :
    Calls Tryz.prog 3 #[.slice a n c, .slice fa m fc, .slice la nl lc] w fun e w' => e = .returned (.bool true) ∧ Below w.heap.size w w' := by
  have HN := hid hn
  have HM := hid hm
  have HNL := hid hnl
  have HF := hid hf
  have HFF := hid hff
  have HFL := hid hfl
  have HX := hid hmax
  have HX' := hid hmax'
  have HXL := hid hmaxl
  have HR := hid hr
  have RF := hid hrf
  have RL := hid hrl
  clear hn hm hnl hf hff hfl hmax hmax' hmaxl hr hrf hrl
  go_enter Tryz.func3, Tryz.ntmps3
  go_wp2_with fail
  refine (f4 a n c 1048576 ts _ (by omega) (by omega) HN.out HR.out HF.out HX.out).mono ?_
  rintro e w1 ⟨y, rfl, y0, y1, hy, hb⟩
  have HB1 := hid hb
  clear hb
  by_cases g0 : y < 0
  · go_wp2
    go_ret
    exact ⟨rfl, HB1.out⟩
  have h1 := hy (by omega)
  have hle : n ≤ 1048576 := by omega
  have HZ : Hid (Sml ts) := sml_tot (by rw [HN.out]; omega)
  clear h1 hy
  go_wp2_with fail
  refine (Lss.f5 fa m fc y fs _ (by omega) (by omega) HM.out (RF.out.below HB1.out) HFF.out HX'.out).mono ?_
  rintro e w2 ⟨z, rfl, z0, z1, hz, hb⟩
  have HB2 := hid (HB1.out.trans (hb.mono HB1.out.size))
  clear hb HB1
  by_cases g1 : z < 0
  · go_wp2
    go_ret
    exact ⟨rfl, HB2.out⟩
  obtain ⟨hle', hz2⟩ := hz (by omega)
  have HZ' := hid hz2
  clear hz hz2
  go_wp2_with fail
  refine (Lab.f24L z (by omega) (by omega) la nl lc l _ HNL.out (RL.out.below HB2.out) HFL.out HXL.out).mono ?_
  rintro e w3 ⟨u, rfl, hu, u0, u1, hb⟩
  have HB3 := hid (HB2.out.trans (hb.mono HB2.out.size))
  clear hb HB2
  by_cases g2 : u < 0
  · go_wp2
    go_ret
    exact ⟨rfl, HB3.out⟩
  have hlel := hu (by omega)
  clear hu
  go_wp2_with fail
  refine (f8 a n c ts _ HN.out hle (HR.out.below HB3.out) HZ.out).mono ?_
  rintro e w4 ⟨da, rfl, hs, ho, hb⟩
  have HB4 := hid (HB3.out.trans (hb.mono HB3.out.size))
  have La := hid ho.len
  have Sa := hid hs
  have Ca := hid ho.has
  clear hb ho hs HB3
  generalize w3.heap.size = X4 at *
  go_wp2_with fail
  refine (Lss.f9 fa m fc fs _ HM.out hle' (RF.out.below HB4.out) HZ'.out).mono ?_
  rintro e w5 ⟨db, rfl, hs, ho, hh, hb⟩
  have HB5 := hid (HB4.out.trans (hb.mono HB4.out.size))
  have Lb := hid ho
  have Sb := hid hs
  have Cb := hid hh
  replace Ca := hid (Ca.out.below hb)
  clear hb ho hs hh HB4
  generalize w4.heap.size = X5 at *
  go_wp2_with fail
  refine (Lab.f10 la nl lc l _ HNL.out hlel (RL.out.below HB5.out)).mono ?_
  rintro e w6 ⟨rfl, ho, hb⟩
  have HB6 := hid (HB5.out.trans (hb.mono HB5.out.size))
  have Cc := hid (Lab.HasL.own ho)
  replace Ca := hid (Ca.out.below hb)
  replace Cb := hid (Cb.out.below hb)
  clear hb ho HB5
  generalize w5.heap.size = X6 at *
  go_wp2_with fail
  refine (f7 _ _ _ n n m m nl nl da db l _ La.out Lb.out HNL.out hle hle' HXL.out (Sa.out.sml HN.out La.out HZ.out) (Sa.out.fit La.out HF.out) (Sb.out.fit Lb.out HFF.out) HFL.out Ca.out Cb.out Cc.out).mono ?_
  rw [inhR_same Sa.out HN.out La.out Sb.out HM.out Lb.out]
  rintro e w7 ⟨rfl, hb⟩
  have HB7 := hid (HB6.out.trans (hb.mono HB6.out.size))
  replace Ca := hid (Ca.out.below hb)
  replace Cb := hid (Cb.out.below hb)
  replace Cc := hid (Cc.out.below hb)
  clear hb HB6
  clear Ca Cb Cc La Lb Sa Sb
  obtain ⟨R, hR⟩ : ∃ R, R = inhR ts fs l := ⟨_, rfl⟩
  have HRR := hid hR
  rw [← hR]
  clear hR
  go_wp2_with fail
  refine (f8 a n c ts _ HN.out hle (HR.out.below HB7.out) HZ.out).mono ?_
  rintro e w8 ⟨dd, rfl, hs, ho, hb⟩
  have HB8 := hid (HB7.out.trans (hb.mono HB7.out.size))
  have Ld := hid ho.len
  have Sd := hid hs
  have Cd := hid ho.has
  clear hb ho hs HB7
  generalize w7.heap.size = X8 at *
  go_wp2_with fail
  refine (Lss.f9 fa m fc fs _ HM.out hle' (RF.out.below HB8.out) HZ'.out).mono ?_
  rintro e w9 ⟨de, rfl, hs, ho, hh, hb⟩
  have HB9 := hid (HB8.out.trans (hb.mono HB8.out.size))
  have Le := hid ho
  have Se := hid hs
  have Ce := hid hh
  replace Cd := hid (Cd.out.below hb)
  clear hb ho hs hh HB8
  generalize w8.heap.size = X9 at *
  go_wp2_with fail
  refine (Lab.f10 la nl lc l _ HNL.out hlel (RL.out.below HB9.out)).mono ?_
  rintro e w10 ⟨rfl, ho, hb⟩
  have HB10 := hid (HB9.out.trans (hb.mono HB9.out.size))
  have Cf := hid (Lab.HasL.own ho)
  replace Cd := hid (Cd.out.below hb)
  replace Ce := hid (Ce.out.below hb)
  clear hb ho HB9
  generalize w9.heap.size = X10 at *
  go_wp2_with fail
  refine (f11 _ _ _ n n m m nl nl dd de l _ Ld.out Le.out HNL.out hle hle' HXL.out (Sd.out.sml HN.out Ld.out HZ.out) (Sd.out.fit Ld.out HF.out) (Se.out.fit Le.out HFF.out) HFL.out Cd.out Ce.out Cf.out).mono ?_
  rw [inhR_same Sd.out HN.out Ld.out Se.out HM.out Le.out, ← HRR.out]
  rintro e w11 ⟨rfl, hb⟩
  have HB11 := hid (HB10.out.trans (hb.mono HB10.out.size))
  replace Cd := hid (Cd.out.below hb)
  replace Ce := hid (Ce.out.below hb)
  replace Cf := hid (Cf.out.below hb)
  clear hb HB10
  clear HRR
  have gR : (R != R) = false := by simp
  go_wp2_with fail
  refine (f8 a n c ts _ HN.out hle (HR.out.below HB11.out) HZ.out).mono ?_
  rintro e w12 ⟨dg, rfl, hs, ho, hb⟩
  have HB12 := hid (HB11.out.trans (hb.mono HB11.out.size))
  have Lg := hid ho.len
  have Sg := hid hs
  have Cg := hid ho.has
  replace Cd := hid (Cd.out.below hb)
  replace Ce := hid (Ce.out.below hb)
  replace Cf := hid (Cf.out.below hb)
  clear hb ho hs HB11
  generalize w11.heap.size = X12 at *
  go_wp2_with fail
  refine (f12 _ _ n n n dd dg _ Ld.out Lg.out hle Cd.out Cg.out (Sd.out.trans' Sg.out) (Sd.out.sml HN.out Ld.out HZ.out)).mono ?_
  rintro e w13 ⟨rfl, hb⟩
  have HB13 := hid (HB12.out.trans (hb.mono HB12.out.size))
  replace Cd := hid (Cd.out.below hb)
  replace Ce := hid (Ce.out.below hb)
  replace Cf := hid (Cf.out.below hb)
  replace Cg := hid (Cg.out.below hb)
  clear hb HB12
  clear Cd Cg
  go_wp2_with fail
  refine (Lss.f9 fa m fc fs _ HM.out hle' (RF.out.below HB13.out) HZ'.out).mono ?_
  rintro e w14 ⟨dh, rfl, hs, ho, hh, hb⟩
  have HB14 := hid (HB13.out.trans (hb.mono HB13.out.size))
  have Lh := hid ho
  have Sh := hid hs
  have Ch := hid hh
  replace Ce := hid (Ce.out.below hb)
  replace Cf := hid (Cf.out.below hb)
  clear hb ho hs hh HB13
  generalize w13.heap.size = X14 at *
  go_wp2_with fail
  refine (Lss.f13 _ _ m m m de dh _ Le.out Lh.out hle' Ce.out Ch.out (Se.out.trans' Sh.out) (Se.out.sml HM.out Le.out HZ'.out)).mono ?_
  rintro e w15 ⟨rfl, hb⟩
  have HB15 := hid (HB14.out.trans (hb.mono HB14.out.size))
  replace Ce := hid (Ce.out.below hb)
  replace Cf := hid (Cf.out.below hb)
  replace Ch := hid (Ch.out.below hb)
  clear hb HB14
  clear Ce Ch
  go_wp2_with fail
  refine (Lab.f10 la nl lc l _ HNL.out hlel (RL.out.below HB15.out)).mono ?_
  rintro e w16 ⟨rfl, ho, hb⟩
  have HB16 := hid (HB15.out.trans (hb.mono HB15.out.size))
  have Ci := hid (Lab.HasL.own ho)
  replace Cf := hid (Cf.out.below hb)
  clear hb ho HB15
  generalize w15.heap.size = X16 at *
  go_wp2_with fail
  refine (Lab.f14 _ _ nl nl nl l _ HNL.out hlel Cf.out Ci.out).mono ?_
  rintro e w17 ⟨rfl, hb⟩
  have HB17 := hid (HB16.out.trans (hb.mono HB16.out.size))
  replace Cf := hid (Cf.out.below hb)
  replace Ci := hid (Ci.out.below hb)
  clear hb HB16
  go_wp2
  go_ret
  exact ⟨rfl, HB17.out⟩
end Go.Proofs.YthcogkoleiejgaaGreat.Inh
