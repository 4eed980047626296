/- The walk of FnExactTrimSeries. -/
import Derived.Test.YtaekngadfajcaaaGreatRTre
namespace Go.Proofs.YtaekngadfajcaaaGreat.Trm
open Go.RowKit
open Go.Proofs.YtaekngadfajcaaaGreat.Lab (OfV)
open Go.Proofs.YtaekngadfajcaaaGreat.Srs (Q HasQ Vf q0 FitQ SmlQ tot sml_tot blk pl same_map tot_same fr_below mark_ans held_ans vals f4 f7 f10 f12)
open Go.Proofs.YtaekngadfajcaaaGreat.Ned (T HasT t0 f5 f8 f11 f13)

/-- Both arguments and the model's answer; nothing that came in is written. -/
structure Mkp (w : World) (a b : Option Addr) (qs : List Q) (ps : List T) (aW : Option Addr) (R : List Q) (x : World) : Prop where
  one : HasQ x a qs
  two : HasT x b ps
  ans : HasQ x aW R
  bel : Below w.heap.size w x
theorem Mkp.below {w : World} {a b : Option Addr} {qs : List Q} {ps : List T} {aW : Option Addr} {R : List Q} {x y : World} (g : Mkp w a b qs ps aW R x) (hb : Below x.heap.size x y) : Mkp w a b qs ps aW R y := ⟨g.one.below hb, g.two.below hb, g.ans.below hb, g.bel.trans (hb.mono g.bel.size)⟩
set_option maxHeartbeats 8000000 in
theorem walkTrim (a b : Option Addr) (n n' c c' : Nat) (qs : List Q) (ps : List T) (w : World) (hn : qs.length = n) (hn' : ps.length = n') (hmax : n ≤ maxLen) (hmax' : n' ≤ maxLen) (hr : HasQ w a qs) (hr' : HasT w b ps) (hf : FitQ qs) (hf' : Ned.FitT ps) :
    Calls Tryz.prog 3 #[.slice a n c, .slice b n' c'] w fun e w' => e = .returned (.bool true) ∧ Below w.heap.size w w' := by
  obtain ⟨val, hv⟩ := vals
  have HV := hid hv
  clear hv
  have HN := hid hn
  have HN' := hid hn'
  have HR := hid hr
  have HR' := hid hr'
  have HF := hid hf
  have HF' := hid hf'
  have HM := hid hmax
  have HM' := hid hmax'
  clear hn hn' hr hr' hf hf' hmax hmax'
  go_enter Tryz.func3, Tryz.ntmps3
  go_wp2_with fail
  refine (f4 a n c 1048576 qs _ (by omega) (by omega) HN.out HR.out HF.out HM.out).mono ?_
  rintro e w1 ⟨y, rfl, y0, y1, hy, hb1⟩
  have HB1 := hid hb1
  clear hb1
  by_cases hy0 : y < 0
  · go_wp2
    go_ret
    exact ⟨rfl, HB1.out⟩
  have hy' := hid (hy (by omega))
  have hb : n ≤ 1048576 := by have := hy'.out; omega
  have HT : Hid (tot qs n ≤ 1048576) := by have := hy'.out; unfold Hid; omega
  have HZ : Hid (SmlQ qs) := sml_tot (by rw [HN.out]; exact HT.out)
  clear hy hy'
  go_wp2_with fail
  refine (f5 b n' c' y ps _ (by omega) y1 HN'.out (HR'.out.below HB1.out) HF'.out HM'.out).mono ?_
  rintro e w2 ⟨z, rfl, z0, z1, hz, hb2⟩
  have HB2 := hid (HB1.out.trans (hb2.mono HB1.out.size))
  clear hb2 HB1
  by_cases hz0 : z < 0
  · go_wp2
    go_ret
    exact ⟨rfl, HB2.out⟩
  have hz' := hid (hz (by omega))
  have hb' : n' ≤ 1048576 := by have := hz'.out; omega
  have HT' : Hid (Ned.tot ps n' ≤ 1048576) := by have := hz'.out; unfold Hid; omega
  have HZ' : Hid (Ned.SmlT ps) := Ned.sml_tot (by rw [HN'.out]; exact HT'.out)
  clear hz hz'
  -- the model's answer
  go_wp2_with fail
  refine (f7 a n c qs _ HN.out hb (HR.out.below HB2.out) HZ.out).mono ?_
  rintro e w3 ⟨d3, rfl, hs3, ho3, hb3⟩
  have HB3 := hid (HB2.out.trans (hb3.mono HB2.out.size))
  have HL3 := hid ho3.kin.len
  have HS3 := hid hs3
  have HO3 := hid ho3.has
  clear hb3 ho3 hs3
  go_wp2_with fail
  refine (f8 b n' c' ps _ HN'.out hb' (HR'.out.below HB3.out) HZ'.out).mono ?_
  rintro e w4 ⟨d4, rfl, hs4, ho4, hb4⟩
  have HB4 := hid (HB3.out.trans (hb4.mono HB3.out.size))
  have HL4 := hid ho4.kin.len
  have HS4 := hid hs4
  have HO4 := hid ho4.has
  have HP4 := hid (HO3.out.below hb4)
  clear hb4 ho4 hs4 HO3
  go_wp2_with fail
  refine (f6 val HV.out _ _ n n n' n' d3 d4 _ HL3.out HL4.out HM.out hb' HP4.out HO4.out (HF.out.same HL3.out HS3.out.same) (HZ.out.same HN.out HL3.out HS3.out.same) (HF'.out.same HL4.out HS4.out.same)).mono ?_
  rw [trF_same HN.out HL3.out HS3.out.same, Ned.map_pl_same HN'.out HL4.out HS4.out.same]
  rintro e w5 ⟨aW, mW, cW, R5, rfl, ho5, hr5, hb5⟩
  have HK5 : Hid (Mkp w a b qs ps aW R5 w5) := by
    have hb := HB4.out.trans (hb5.mono HB4.out.size)
    exact ⟨HR.out.below hb, HR'.out.below hb, ho5.has, hb⟩
  have HR5 := hid hr5
  have HmW := hid ho5.len
  clear hb5 ho5 hr5 HB4 HB3 HB2 HO4 HP4 HL3 HL4 HS3 HS4
  -- the program's
  go_wp2_with fail
  refine (f7 a n c qs _ HN.out hb HK5.out.one HZ.out).mono ?_
  rintro e w6 ⟨d6, rfl, hs6, ho6, hb6⟩
  have HB6 := hid hb6
  have HO6 := hid ho6
  have HS6 := hid hs6
  have HL6 := hid ho6.kin.len
  have HY6 : Hid (∀ i, i < n → blk (d6.getD i q0).b < w6.heap.size) := fun i hi => (ho6.kin.own i hi).lts
  clear hb6 ho6 hs6
  go_wp2_with fail
  refine (f8 b n' c' ps _ HN'.out hb' (HK5.out.two.below HB6.out) HZ'.out).mono ?_
  rintro e w7 ⟨d7, rfl, hs7, ho7, hb7⟩
  have HB7 := hid (HB6.out.trans (hb7.mono HB6.out.size))
  have HO7 := hid ho7
  have HP7 := hid (HO6.out.below hb7)
  have HS7 := hid hs7
  have HL7 := hid ho7.kin.len
  have HY7 : Hid (∀ i, i < n' → Ned.blk (d7.getD i t0).a < w7.heap.size) := fun i hi => (ho7.kin.own i hi).lts
  have HC7 : Hid (∀ i, i < n' → (d7.getD i t0).c = (d7.getD i t0).l.length) := fun i hi => (hs7 i hi).2
  have HG7 : Hid (w6.heap.size < w7.heap.size) := (ho7.row.lt _ rfl).2
  have HSZ : Hid (w5.heap.size ≤ w6.heap.size ∧ w6.heap.size ≤ w7.heap.size) := ⟨HB6.out.size, hb7.size⟩
  clear hb7 ho7 hs7 HO6 HB6
  generalize w6.heap.size = Y at *
  go_wp2_with fail
  refine (f9 val HV.out _ _ n n n' n' d6 d7 _ HL6.out HL7.out HM.out hb' HP7.out.has HO7.out.has (HF.out.same HL6.out HS6.out.same) (HZ.out.same HN.out HL6.out HS6.out.same) (HF'.out.same HL7.out HS7.out.same)).mono ?_
  rw [trF_same HN.out HL6.out HS6.out.same, Ned.map_pl_same HN'.out HL7.out HS7.out.same]
  rintro e w8 ⟨aG, mG, cG, R8, rfl, ho8, hr8, hb8⟩
  have HB8 := hid (HB7.out.trans (hb8.mono HB7.out.size))
  have HO8 := hid (HO7.out.below hb8)
  have HP8 := hid (HP7.out.below hb8)
  have HG8 := hid ho8
  have HXX : Hid (w7.heap.size ≤ w8.heap.size) := hb8.size
  have HSm := hid (same_map hr8 HR5.out)
  have HTG := hid (ans_tot hr8 (by rw [HN.out]; exact HT.out))
  have hlG := hid ho8.len
  have hmm : mW = mG := by rw [← HmW.out, ← hlG.out]; exact HSm.out.1
  subst hmm
  have hb200 : mW ≤ 1048576 := by have := HTG.out.1; have := hlG.out; omega
  clear ho8 hr8 hb8 HO7 HP7 HB7
  generalize w7.heap.size = X at *
  -- alike
  have HK8 := hid (HK5.out.below HB8.out)
  go_wp2_with fail
  refine (f10 aG aW mW cG cW R8 R5 _ hlG.out HmW.out hb200 HG8.out.has HK8.out.ans (by rw [← hlG.out]; exact HSm.out.2) HTG.out.2.2).mono ?_
  rintro e w9 ⟨rfl, hb9⟩
  have HB9 := hid (HB8.out.trans (hb9.mono HB8.out.size))
  have HO9 := hid (HO8.out.below hb9)
  have HP9 := hid (HP8.out.below hb9)
  have HG9 := hid (HG8.out.below hb9)
  clear hb9 HB8 HO8 HP8 HG8 HK8
  -- what came in is as it was
  have HK9 := hid (HK5.out.below HB9.out)
  go_wp2_with fail
  refine (f7 a n c qs _ HN.out hb HK9.out.one HZ.out).mono ?_
  rintro e w10 ⟨d10, rfl, hs10, ho10, hb10⟩
  have HB10 := hid (HB9.out.trans (hb10.mono HB9.out.size))
  have HO10 := hid (HO9.out.below hb10)
  have HP10 := hid (HP9.out.below hb10)
  have HG10 := hid (HG9.out.below hb10)
  have HC10 := hid ho10.has
  have HL10 := hid ho10.kin.len
  have HS10 := hid (Srs.Same.trans HS6.out hs10)
  clear hb10 ho10 hs10 HB9 HO9 HP9 HG9 HK9
  go_wp2_with fail
  refine (f10 _ _ n n n d6 d10 _ HL6.out HL10.out hb HP10.out.has HC10.out HS10.out (HZ.out.same HN.out HL6.out HS6.out.same)).mono ?_
  rintro e w11 ⟨rfl, hb11⟩
  have HB11 := hid (HB10.out.trans (hb11.mono HB10.out.size))
  have HO11 := hid (HO10.out.below hb11)
  have HP11 := hid (HP10.out.below hb11)
  have HG11 := hid (HG10.out.below hb11)
  clear hb11 HB10 HO10 HP10 HG10 HC10 HL10 HS10
  have HK11 := hid (HK5.out.below HB11.out)
  go_wp2_with fail
  refine (f8 b n' c' ps _ HN'.out hb' HK11.out.two HZ'.out).mono ?_
  rintro e w12 ⟨d12, rfl, hs12, ho12, hb12⟩
  have HB12 := hid (HB11.out.trans (hb12.mono HB11.out.size))
  have HO12 := hid (HO11.out.below hb12)
  have HP12 := hid (HP11.out.below hb12)
  have HG12 := hid (HG11.out.below hb12)
  have HC12 := hid ho12.has
  have HL12 := hid ho12.kin.len
  have HS12 := hid (Ned.Same.two HS7.out hs12)
  clear hb12 ho12 hs12 HB11 HO11 HP11 HG11 HK11
  go_wp2_with fail
  refine (f11 _ _ n' n' n' d7 d12 _ HL7.out HL12.out hb' HO12.out.has HC12.out HS12.out (HZ'.out.same HN'.out HL7.out HS7.out.same)).mono ?_
  rintro e w13 ⟨rfl, hb13⟩
  have HB13 := hid (HB12.out.trans (hb13.mono HB12.out.size))
  have HO13 := hid (HO12.out.below hb13)
  have HP13 := hid (HP12.out.below hb13)
  have HG13 := hid (HG12.out.below hb13)
  clear hb13 HB12 HO12 HP12 HG12 HC12 HL12 HS12
  -- what came in is marked
  have HTa : Hid (tot d6 n = tot qs n) := tot_same HS6.out.same n (Nat.le_refl _)
  have HTb : Hid (Ned.tot d7 n' = Ned.tot ps n') := Ned.tot_same HS7.out.same n' (Nat.le_refl _)
  go_wp2_with fail
  refine (f12 w5.heap.size w5.heap.size Y n 1 d6 _ HL6.out hb (by rw [HTa.out]; have := HT.out; omega) HP13.out HY6.out).mono ?_
  rw [HTa.out]
  obtain ⟨kk, hkk⟩ : ∃ kk : Nat, kk = 1 + 2 * tot qs n := ⟨_, rfl⟩
  have hkb : kk ≤ 3000000 := by have := HT.out; omega
  rw [← hkk]
  clear hkk
  rintro e w14 ⟨rfl, hf14⟩
  have HB14 := hid (HB13.out.trans (fr_below hf14 (Nat.le_refl _) HB13.out.size))
  have HO14 := hid (HO13.out.fr hf14 (Nat.le_refl _))
  have HG14 := hid (HG13.out.fr hf14 (by have := HSZ.out; omega))
  clear hf14 HB13 HO13 HP13 HG13
  go_wp2_with fail
  refine (f13 Y Y X n' kk d7 _ hb' (by rw [HTb.out]; have := HT'.out; omega) HO14.out HC7.out (HZ'.out.same HN'.out HL7.out HS7.out.same) HG7.out HY7.out).mono ?_
  rintro e w15 ⟨⟨k2, rfl⟩, hf15⟩
  have hk3 : ¬ (k2 : Int) < 0 := by omega
  have HB15 := hid (HB14.out.trans (fr_below hf15 (by have := HSZ.out; omega) HB14.out.size))
  have HG15 := hid (HG14.out.fr hf15 (Nat.le_refl _))
  clear hf15 HB14 HO14 HG14
  have HK15 := hid (HK5.out.below HB15.out)
  go_wp2_with fail
  refine (f10 aG aW mW cG cW R8 R5 _ hlG.out HmW.out hb200 HG15.out.has HK15.out.ans (by rw [← hlG.out]; exact HSm.out.2) HTG.out.2.2).mono ?_
  rintro e w16 ⟨rfl, hb16⟩
  have HB16 := hid (HB15.out.trans (hb16.mono HB15.out.size))
  have HG16 := hid (HG15.out.below hb16)
  clear hb16 HB15 HG15 HK15
  -- what came out is marked, and held
  have HTm : Hid (1 + 2 * tot R8 mW ≤ 100000000) := by unfold Hid; rw [← hlG.out]; have := HTG.out.2.1; omega
  go_wp2_with fail
  obtain ⟨k4, hk4⟩ : ∃ k4 : Nat, k4 = 1 + 2 * tot R8 mW := ⟨_, rfl⟩
  have HK4 := hid hk4
  clear hk4
  have hk5 : ¬ (k4 : Int) < 0 := by omega
  refine (mark_ans HG16.out hb200 (k := 1) HTm.out).mono ?_
  rw [← HK4.out]
  rintro e w17 ⟨rfl, ho17, hb17⟩
  have HB17 := hid (HB16.out.trans (hb17.mono (by have := HSZ.out; omega)))
  have HG17 := hid ho17
  clear ho17 hb17 HB16 HG16
  go_wp2_with fail
  refine (held_ans hlG.out HG17.out hb200 (k := 1) HTm.out).mono ?_
  rw [← HK4.out]
  rintro e w18 ⟨rfl, hb18⟩
  have HB18 := hid (HB17.out.trans (hb18.mono HB17.out.size))
  have HG18 := hid (HG17.out.below hb18)
  clear hb18 HB17 HG17
  -- once more
  have HK18 := hid (HK5.out.below HB18.out)
  go_wp2_with fail
  refine (f7 a n c qs _ HN.out hb HK18.out.one HZ.out).mono ?_
  rintro e w19 ⟨d19, rfl, hs19, ho19, hb19⟩
  have HB19 := hid (HB18.out.trans (hb19.mono HB18.out.size))
  have HG19 := hid (HG18.out.below hb19)
  have HO19 := hid ho19.has
  have HL19 := hid ho19.kin.len
  have HS19 := hid hs19
  clear hb19 ho19 hs19 HB18 HG18 HK18
  have HK19 := hid (HK5.out.below HB19.out)
  go_wp2_with fail
  refine (f8 b n' c' ps _ HN'.out hb' HK19.out.two HZ'.out).mono ?_
  rintro e w20 ⟨d20, rfl, hs20, ho20, hb20⟩
  have HB20 := hid (HB19.out.trans (hb20.mono HB19.out.size))
  have HG20 := hid (HG19.out.below hb20)
  have HO20 := hid (HO19.out.below hb20)
  have HP20 := hid ho20.has
  have HL20 := hid ho20.kin.len
  have HS20 := hid hs20
  clear hb20 ho20 hs20 HB19 HG19 HO19 HK19
  go_wp2_with fail
  refine (f9 val HV.out _ _ n n n' n' d19 d20 _ HL19.out HL20.out HM.out hb' HO20.out HP20.out (HF.out.same HL19.out HS19.out.same) (HZ.out.same HN.out HL19.out HS19.out.same) (HF'.out.same HL20.out HS20.out.same)).mono ?_
  rw [trF_same HN.out HL19.out HS19.out.same, Ned.map_pl_same HN'.out HL20.out HS20.out.same]
  rintro e w21 ⟨aH, mH, cH, R21, rfl, ho21, hr21, hb21⟩
  have HB21 := hid (HB20.out.trans (hb21.mono HB20.out.size))
  have HG21 := hid (HG20.out.below hb21)
  have HH21 := hid ho21.has
  have hlH := hid ho21.len
  have HSm2 := hid (same_map hr21 HR5.out)
  have HZH := hid (ans_tot hr21 (by rw [HN.out]; exact HT.out)).2.2
  have hmH : mW = mH := by rw [← HmW.out, ← hlH.out]; exact HSm2.out.1
  subst hmH
  clear ho21 hr21 hb21 HB20 HG20 HO20 HP20
  have HK21 := hid (HK5.out.below HB21.out)
  go_wp2_with fail
  refine (f10 aH aW mW cH cW R21 R5 _ hlH.out HmW.out hb200 HH21.out HK21.out.ans (by rw [← hlH.out]; exact HSm2.out.2) HZH.out).mono ?_
  rintro e w22 ⟨rfl, hb22⟩
  have HB22 := hid (HB21.out.trans (hb22.mono HB21.out.size))
  have HG22 := hid (HG21.out.below hb22)
  clear hb22 HB21 HG21 HK21 HH21
  go_wp2_with fail
  refine (held_ans hlG.out HG22.out hb200 (k := 1) HTm.out).mono ?_
  rw [← HK4.out]
  rintro e w23 ⟨rfl, hb23⟩
  have HB23 := hid (HB22.out.trans (hb23.mono HB22.out.size))
  have HEnd := hid (HK5.out.below HB23.out).bel
  clear hb23 HB22 HG22
  go_wp2
  go_ret
  exact ⟨rfl, HEnd.out⟩
end Go.Proofs.YtaekngadfajcaaaGreat.Trm
