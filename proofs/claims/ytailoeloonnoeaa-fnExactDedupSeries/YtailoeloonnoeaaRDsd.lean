/- The walk of FnExactDedupSeries. -/
import Derived.Test.YtailoeloonnoeaaRDsc
namespace Go.Proofs.Ytailoeloonnoeaa.Srs
open Go.RowKit
open Go.Proofs.Ytailoeloonnoeaa.Lab (Lb HasL cmpList)
open Go.Proofs.Ytailoeloonnoeaa.Smp (Sm HasS mrg)

theorem ds_good {R : List Q} {L : List Pl} {x : ByteArray} {gap : Int} (h : R.map pl = dsL L x gap) : GoodQ R := by
  have := dsL_good L x gap
  rw [← h, ← gdQ_pl] at this
  exact gdQ_iff.1 this
theorem ds_tot {R : List Q} {L : List Pl} {x : ByteArray} {gap : Int} (h : R.map pl = dsL L x gap) : R.length ≤ 200 ∧ tot R R.length ≤ 1048576 ∧ SmlQ R := by
  have hg := ds_good h
  have h1 := hg.1
  refine ⟨h1, by have := tot_good hg R.length (Nat.le_refl _); omega, fun i hi => ?_⟩
  have h2 := okq_mem hg (get_mem' hi)
  have h3 : (R.getD i q0).l.length ≤ 20 := (good_goodP h2.1.1).1
  have h4 : (R.getD i q0).s.length ≤ 2000 := (show Smp.GoodP (R.getD i q0).s from of_decide_eq_true h2.2.1).1
  exact ⟨by omega, by omega⟩
theorem ds_same {R K : List Q} {T : List Pl} (h1 : R.map pl = T) (h2 : K.map pl = T) : R.length = K.length ∧ Same R.length R K := by
  have e : R.map pl = K.map pl := h1.trans h2.symm
  have hl : R.length = K.length := by simpa using congrArg List.length e
  refine ⟨hl, fun i hi => ?_⟩
  have hk : i < K.length := by omega
  have := congrArg (fun L => L[i]?) e
  simp only [List.getElem?_map, List.getElem?_eq_getElem hi, List.getElem?_eq_getElem hk, Option.map_some, Option.some.injEq] at this
  simp [List.getD_eq_getElem?_getD, hi, hk, this]
/-- The argument and the model's answer; nothing that came in is written. -/
structure Dkp (w : World) (a : Option Addr) (qs : List Q) (aW : Option Addr) (R : List Q) (x : World) : Prop where
  one : HasQ x a qs
  ans : HasQ x aW R
  bel : Below w.heap.size w x
theorem Dkp.below {w : World} {a : Option Addr} {qs : List Q} {aW : Option Addr} {R : List Q} {x y : World} (g : Dkp w a qs aW R x) (hb : Below x.heap.size x y) : Dkp w a qs aW R y := ⟨g.one.below hb, g.ans.below hb, g.bel.trans (hb.mono g.bel.size)⟩
set_option maxHeartbeats 8000000 in
theorem walkDedupS (a : Option Addr) (n c : Nat) (qs : List Q) (x : ByteArray) (gap : Int) (w : World) (hn : qs.length = n) (hmax : n ≤ maxLen) (hr : HasQ w a qs) (hf : FitQ qs) (hx : x.size ≤ maxLen) :
    Calls Try.prog 3 #[.slice a n c, .string x, .int .i64 gap] w fun e w' => e = .returned (.bool true) ∧ Below w.heap.size w w' := by
  have HN := hid hn
  have HR := hid hr
  have HF := hid hf
  have HM := hid hmax
  have HXm := hid hx
  unfold maxLen at hx
  clear hn hr hf hmax
  by_cases hbig : x.size ≤ 1048576
  rotate_left
  · have hbig' : (1048576 : Int) < (x.size : Int) := by omega
    go_enter Try.func3, Try.ntmps3
    go_wp2
    go_ret
    exact ⟨rfl, Below.refl _ _⟩
  have hbig' : ¬ (1048576 : Int) < (x.size : Int) := by omega
  go_enter Try.func3, Try.ntmps3
  go_wp2_with fail
  refine (f4 a n c 1048576 qs _ (by omega) (by omega) HN.out HR.out HF.out HM.out).mono ?_
  rintro e w1 ⟨y, rfl, y0, y1, hy, hb1⟩
  have HB1 := hid hb1
  clear hb1
  by_cases hy0 : y < 0
  · go_wp2
    go_ret
    exact ⟨rfl, HB1.out⟩
  have hy' := hid (hy (by omega))
  have hb : n ≤ 1048576 := by have := hy'.out; omega
  have HT : Hid (tot qs n ≤ 1048576) := by have := hy'.out; unfold Hid; omega
  have HZ : Hid (SmlQ qs) := sml_tot (by rw [HN.out]; exact HT.out)
  clear hy hy' hx
  -- the model's answer
  go_wp2_with fail
  refine (f6 a n c qs _ HN.out hb (HR.out.below HB1.out) HZ.out).mono ?_
  rintro e w3 ⟨d3, rfl, hs3, ho3, hb3⟩
  have HB3 := hid (HB1.out.trans (hb3.mono HB1.out.size))
  have HL3 := hid ho3.kin.len
  have HS3 := hid hs3
  have HO3 := hid ho3.has
  clear hb3 ho3 hs3
  have HSp := hid (f5 (some ⟨w1.heap.size, 0, none⟩) n n d3 x gap w3 HL3.out hb HO3.out (HF.out.same HL3.out HS3.out.same) (HZ.out.same HN.out HL3.out HS3.out.same) HXm.out)
  rw [map_pl_same HN.out HL3.out HS3.out.same] at HSp
  go_wp2_with fail
  refine HSp.out.mono ?_
  rintro e w5 ⟨aW, mW, cW, R5, rfl, ho5, hr5, hb5⟩
  have HK5 : Hid (Dkp w a qs aW R5 w5) := by
    have hb := HB3.out.trans (hb5.mono HB3.out.size)
    exact ⟨HR.out.below hb, ho5.has, hb⟩
  have HR5 := hid hr5
  have HmW := hid ho5.len
  clear hb5 ho5 hr5 HB3 HO3 HL3 HS3 HSp
  -- the program's
  go_wp2_with fail
  refine (f6 a n c qs _ HN.out hb HK5.out.one HZ.out).mono ?_
  rintro e w6 ⟨d6, rfl, hs6, ho6, hb6⟩
  have HB6 := hid hb6
  have HO6 := hid ho6
  have HS6 := hid hs6
  have HL6 := hid ho6.kin.len
  have HY6 : Hid (∀ i, i < n → blk (d6.getD i q0).b < w6.heap.size) := fun i hi => (ho6.kin.own i hi).lts
  have HSZ : Hid (w5.heap.size ≤ w6.heap.size) := hb6.size
  clear hb6 ho6 hs6
  have HIm := hid (f7 (some ⟨w5.heap.size, 0, none⟩) n n d6 x gap w6 HL6.out hb HO6.out.has (HF.out.same HL6.out HS6.out.same) (HZ.out.same HN.out HL6.out HS6.out.same) (HS6.out.room HL6.out) HXm.out)
  rw [map_pl_same HN.out HL6.out HS6.out.same] at HIm
  go_wp2_with fail
  refine HIm.out.mono ?_
  rintro e w8 ⟨aG, mG, cG, R8, rfl, ho8, hr8, hb8⟩
  have HB8 := hid (HB6.out.trans (hb8.mono HB6.out.size))
  have HP8 := hid (HO6.out.below hb8)
  have HG8 := hid ho8
  have HSm := hid (ds_same hr8 HR5.out)
  have HTG := hid (ds_tot hr8)
  have hlG := hid ho8.len
  have hmm : mW = mG := by rw [← HmW.out, ← hlG.out]; exact HSm.out.1.symm
  subst hmm
  have hb200 : mW ≤ 1048576 := by have := HTG.out.1; have := hlG.out; omega
  clear ho8 hr8 hb8 HO6 HB6 HIm
  generalize w6.heap.size = X at *
  -- alike
  have HK8 := hid (HK5.out.below HB8.out)
  go_wp2_with fail
  refine (f8 aG aW mW cG cW R8 R5 _ hlG.out HmW.out hb200 HG8.out.has HK8.out.ans (by rw [← hlG.out]; exact HSm.out.2) HTG.out.2.2).mono ?_
  rintro e w9 ⟨rfl, hb9⟩
  have HB9 := hid (HB8.out.trans (hb9.mono HB8.out.size))
  have HP9 := hid (HP8.out.below hb9)
  have HG9 := hid (HG8.out.below hb9)
  clear hb9 HB8 HP8 HG8 HK8
  -- what came in is as it was
  have HK9 := hid (HK5.out.below HB9.out)
  go_wp2_with fail
  refine (f6 a n c qs _ HN.out hb HK9.out.one HZ.out).mono ?_
  rintro e w10 ⟨d10, rfl, hs10, ho10, hb10⟩
  have HB10 := hid (HB9.out.trans (hb10.mono HB9.out.size))
  have HP10 := hid (HP9.out.below hb10)
  have HG10 := hid (HG9.out.below hb10)
  have HC10 := hid ho10.has
  have HL10 := hid ho10.kin.len
  have HS10 := hid (Same.trans HS6.out hs10)
  clear hb10 ho10 hs10 HB9 HP9 HG9 HK9
  go_wp2_with fail
  refine (f8 _ _ n n n d6 d10 _ HL6.out HL10.out hb HP10.out.has HC10.out HS10.out (HZ.out.same HN.out HL6.out HS6.out.same)).mono ?_
  rintro e w13 ⟨rfl, hb11⟩
  have HB13 := hid (HB10.out.trans (hb11.mono HB10.out.size))
  have HP13 := hid (HP10.out.below hb11)
  have HG13 := hid (HG10.out.below hb11)
  clear hb11 HB10 HP10 HG10 HC10 HL10 HS10
  -- what came in is marked
  have HTa : Hid (tot d6 n = tot qs n) := tot_same HS6.out.same n (Nat.le_refl _)
  go_wp2_with fail
  refine (f9 w5.heap.size w5.heap.size X n 1 d6 _ HL6.out hb (by rw [HTa.out]; have := HT.out; omega) HP13.out HY6.out).mono ?_
  rw [HTa.out]
  obtain ⟨kk, hkk⟩ : ∃ kk : Nat, kk = 1 + 2 * tot qs n := ⟨_, rfl⟩
  have hkb : kk ≤ 3000000 := by have := HT.out; omega
  rw [← hkk]
  clear hkk
  have hk3 : ¬ (kk : Int) < 0 := by omega
  rintro e w15 ⟨rfl, hf14⟩
  have HB15 := hid (HB13.out.trans (fr_below hf14 (Nat.le_refl _) HB13.out.size))
  have HG15 := hid (HG13.out.fr hf14 (Nat.le_refl _))
  clear hf14 HB13 HP13 HG13
  have HK15 := hid (HK5.out.below HB15.out)
  go_wp2_with fail
  refine (f8 aG aW mW cG cW R8 R5 _ hlG.out HmW.out hb200 HG15.out.has HK15.out.ans (by rw [← hlG.out]; exact HSm.out.2) HTG.out.2.2).mono ?_
  rintro e w16 ⟨rfl, hb16⟩
  have HB16 := hid (HB15.out.trans (hb16.mono HB15.out.size))
  have HG16 := hid (HG15.out.below hb16)
  clear hb16 HB15 HG15 HK15
  -- what came out is marked, and held
  have HTm : Hid (1 + 2 * tot R8 mW ≤ 100000000) := by unfold Hid; rw [← hlG.out]; have := HTG.out.2.1; omega
  go_wp2_with fail
  obtain ⟨k4, hk4⟩ : ∃ k4 : Nat, k4 = 1 + 2 * tot R8 mW := ⟨_, rfl⟩
  have HK4 := hid hk4
  clear hk4
  have hk5 : ¬ (k4 : Int) < 0 := by omega
  refine (mark_ans HG16.out hb200 (k := 1) HTm.out).mono ?_
  rw [← HK4.out]
  rintro e w17 ⟨rfl, ho17, hb17⟩
  have HB17 := hid (HB16.out.trans (hb17.mono HSZ.out))
  have HG17 := hid ho17
  clear ho17 hb17 HB16 HG16
  go_wp2_with fail
  refine (held_ans hlG.out HG17.out hb200 (k := 1) HTm.out).mono ?_
  rw [← HK4.out]
  rintro e w18 ⟨rfl, hb18⟩
  have HB18 := hid (HB17.out.trans (hb18.mono HB17.out.size))
  have HG18 := hid (HG17.out.below hb18)
  clear hb18 HB17 HG17
  -- once more
  have HK18 := hid (HK5.out.below HB18.out)
  go_wp2_with fail
  refine (f6 a n c qs _ HN.out hb HK18.out.one HZ.out).mono ?_
  rintro e w19 ⟨d19, rfl, hs19, ho19, hb19⟩
  have HB19 := hid (HB18.out.trans (hb19.mono HB18.out.size))
  have HG19 := hid (HG18.out.below hb19)
  have HO19 := hid ho19.has
  have HL19 := hid ho19.kin.len
  have HS19 := hid hs19
  clear hb19 ho19 hs19 HB18 HG18 HK18
  have HIm := hid (f7 (some ⟨w18.heap.size, 0, none⟩) n n d19 x gap w19 HL19.out hb HO19.out (HF.out.same HL19.out HS19.out.same) (HZ.out.same HN.out HL19.out HS19.out.same) (HS19.out.room HL19.out) HXm.out)
  rw [map_pl_same HN.out HL19.out HS19.out.same] at HIm
  go_wp2_with fail
  refine HIm.out.mono ?_
  rintro e w21 ⟨aH, mH, cH, R21, rfl, ho21, hr21, hb21⟩
  have HB21 := hid (HB19.out.trans (hb21.mono HB19.out.size))
  have HG21 := hid (HG19.out.below hb21)
  have HH21 := hid ho21.has
  have hlH := hid ho21.len
  have HSm2 := hid (ds_same hr21 HR5.out)
  have HZH := hid (ds_tot hr21).2.2
  have hmH : mW = mH := by rw [← HmW.out, ← hlH.out]; exact HSm2.out.1.symm
  subst hmH
  clear ho21 hr21 hb21 HB19 HG19 HO19 HIm
  have HK21 := hid (HK5.out.below HB21.out)
  go_wp2_with fail
  refine (f8 aH aW mW cH cW R21 R5 _ hlH.out HmW.out hb200 HH21.out HK21.out.ans (by rw [← hlH.out]; exact HSm2.out.2) HZH.out).mono ?_
  rintro e w22 ⟨rfl, hb22⟩
  have HB22 := hid (HB21.out.trans (hb22.mono HB21.out.size))
  have HG22 := hid (HG21.out.below hb22)
  clear hb22 HB21 HG21 HK21 HH21
  go_wp2_with fail
  refine (held_ans hlG.out HG22.out hb200 (k := 1) HTm.out).mono ?_
  rw [← HK4.out]
  rintro e w23 ⟨rfl, hb23⟩
  have HB23 := hid (HB22.out.trans (hb23.mono HB22.out.size))
  have HEnd := hid (HK5.out.below HB23.out).bel
  clear hb23 HB22 HG22
  go_wp2
  go_ret
  exact ⟨rfl, HEnd.out⟩
end Go.Proofs.Ytailoeloonnoeaa.Srs
