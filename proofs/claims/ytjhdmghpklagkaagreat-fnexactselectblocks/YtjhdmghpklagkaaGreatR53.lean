/- The walk of FnExactSelectBlocks. -/
import Derived.Test.YtjhdmghpklagkaaGreatR51
import Derived.Test.YtjhdmghpklagkaaGreatR52
namespace Go.Proofs.YtjhdmghpklagkaaGreat.Blk
open Go.RowKit
open Go.Proofs.YtjhdmghpklagkaaGreat.Srs (hid lt_at kept blk own_base own_below own_grown Q q0 HasQ SmlQ OwnO OwnG Own2 Fr own_fr tot pl Pl same_mapJ mark_ans held_ans)
open Go.Proofs.YtjhdmghpklagkaaGreat.Stn (T t0)
open Go.Proofs.YtjhdmghpklagkaaGreat.Pat (Mt HasM goodM FitM)
open Go.Proofs.YtjhdmghpklagkaaGreat.Hpl (selK selK_tot selK_same)

/-- The arguments, and the model's answer. -/
structure Ks (w : World) (a : Option Addr) (bs : List Bk) (am : Option Addr) (ms : List Mt) (aW : Option Addr) (R : List Q) (x : World) : Prop where
  arg : HasK x a bs
  mat : HasM x am ms
  ans : HasQ x aW R
  bel : Below w.heap.size w x
theorem Ks.below {w : World} {a : Option Addr} {bs : List Bk} {am : Option Addr} {ms : List Mt} {aW : Option Addr} {R : List Q} {x y : World} (g : Ks w a bs am ms aW R x) (hb : Below x.heap.size x y) : Ks w a bs am ms aW R y := ⟨g.arg.below hb, g.mat.below hb, g.ans.below hb, g.bel.trans (hb.mono g.bel.size)⟩
set_option maxHeartbeats 8000000 in
theorem walkSelectBs (b : Int) (a : Option Addr) (n c : Nat) (bs : List Bk) (am : Option Addr) (nm cm : Nat) (ms : List Mt) (x y : Int) (w : World) (hb0 : -9223372036854775808 ≤ b) (hb1 : b ≤ 9223372036854775807) (hx0 : -9223372036854775808 ≤ x) (hx1 : x ≤ 9223372036854775807) (hy0 : -9223372036854775808 ≤ y) (hy1 : y ≤ 9223372036854775807) (hn : bs.length = n) (hmax : n ≤ maxLen) (hr : HasK w a bs) (hf : FitK bs) (hnm : ms.length = nm) (hm : HasM w am ms) (hfm : FitM ms) (hmx : nm ≤ maxLen) :
    Calls Tryz.prog 6 #[.int .i64 b, .slice a n c, .slice am nm cm, .int .i64 x, .int .i64 y] w fun e w' => e = .returned (.bool true) ∧ Below w.heap.size w w' := by
  have HN := hid hn
  have HR := hid hr
  have HF := hid hf
  have HM := hid hmax
  have HNm := hid hnm
  have HMt := hid hm
  have HFm := hid hfm
  have HMx := hid hmx
  clear hn hr hf hmax hnm hm hfm hmx
  have HTt0 : Hid (∀ R : List Q, R.map pl = selK b bs ms x y → R.length ≤ 200 ∧ tot R R.length ≤ 1048576 ∧ SmlQ R) := fun R h => selK_tot h
  have HSp : Hid (∀ (d : List Bk) (R0 : Nat) (Z : Nat → Nat) (am' : Option Addr) (cm' : Nat) (w' : World), SmlK bs → n ≤ 1048576 → OwnK R0 Z n bs d w' → HasM w' am' ms → Calls Tryz.prog 25 #[.int .i64 b, .slice (some ⟨R0, 0, none⟩) n n, .slice am' nm cm', .int .i64 x, .int .i64 y] w' (GivesQ w' (selK b bs ms x y))) := by
    intro d R0 Z am' cm' w' hz hle o hmm
    have hcall := Hpl.f25 b _ n n d am' cm' ms x y w' hb0 hb1 o.kin.len hle o.has (o.kin.same.fit o.kin.len HF.out) (o.kin.same.sml o.kin.len HN.out hz) hmm HFm.out (by rw [HNm.out]; exact HMx.out)
    rw [HNm.out, selK_same o.kin.same HN.out o.kin.len] at hcall
    exact hcall
  have HIm : Hid (∀ (d : List Bk) (R0 : Nat) (Z : Nat → Nat) (am' : Option Addr) (cm' : Nat) (w' : World), SmlK bs → n ≤ 1048576 → OwnK R0 Z n bs d w' → HasM w' am' ms → Calls Tryz.prog 27 #[.int .i64 b, .slice (some ⟨R0, 0, none⟩) n n, .slice am' nm cm', .int .i64 x, .int .i64 y] w' (GivesQ w' (selK b bs ms x y))) := by
    intro d R0 Z am' cm' w' hz hle o hmm
    have hcall := Hpl.f27 b _ n n d am' cm' ms x y w' hb0 hb1 hx0 hx1 hy0 hy1 o.kin.len hle o.has (o.kin.same.fit o.kin.len HF.out) (o.kin.same.sml o.kin.len HN.out hz) hmm HFm.out (by rw [HNm.out]; exact HMx.out) (fun i hi => ⟨ownk_room o i hi, fun j hj => Nat.le_of_eq (ownk_cap o i hi j hj).symm⟩)
    rw [HNm.out, selK_same o.kin.same HN.out o.kin.len] at hcall
    exact hcall
  generalize selK b bs ms x y = sel at *
  go_enter Tryz.func6, Tryz.ntmps6
  go_wp2_with fail
  refine (f7 a n c 1048576 bs _ (by omega) (by omega) HN.out HR.out HF.out HM.out).mono ?_
  rintro e w1 ⟨yy, rfl, y0, y1, hy, hb⟩
  have HB1 := hid hb
  have HR1 := hid (HR.out.below hb)
  clear hb
  by_cases g0 : yy < 0
  · go_wp2
    go_ret
    exact ⟨rfl, HB1.out⟩
  have h1 := hy (by omega)
  have hle : n ≤ 1048576 := by omega
  have HTt : Hid (totK bs n ≤ 1048576) := by unfold Hid; omega
  have HZ : Hid (SmlK bs) := sml_totK (by rw [HN.out]; exact HTt.out)
  clear h1 hy
  go_wp2_with fail
  refine (Srs.f24t am nm cm yy ms _ (by omega) (by omega) HNm.out (HMt.out.below HB1.out) HFm.out HMx.out).mono ?_
  rintro e w1b ⟨zz, rfl, z0, hzz, hb⟩
  have HB1b := hid (HB1.out.trans (hb.mono HB1.out.size))
  have HR1b := hid (HR1.out.below hb)
  clear hb HB1 HR1
  by_cases g1 : zz < 0
  · go_wp2
    go_ret
    exact ⟨rfl, HB1b.out⟩
  have hbn := hzz (by omega)
  clear hzz
  -- the model
  go_wp2_with fail
  refine (f9 a n c bs _ HN.out hle HR1b.out HZ.out).mono ?_
  rintro e w2a ⟨d2, Z2, rfl, ho, hb⟩
  have HB2a := hid (HB1b.out.trans (hb.mono HB1b.out.size))
  have HO2a := hid ho
  clear hb ho HB1b HR1b
  generalize w1b.heap.size = X1 at *
  go_wp2_with fail
  refine (Pat.f26 am nm cm ms _ HNm.out hbn (HMt.out.below HB2a.out)).mono ?_
  rintro e w2 ⟨rfl, hm2, hb⟩
  have HB2 := hid (HB2a.out.trans (hb.mono HB2a.out.size))
  have HO2 := hid (HO2a.out.below hb)
  have HM2 := hid (Pat.HasM.own hm2)
  clear hb hm2 HB2a HO2a
  go_wp2_with fail
  refine (HSp.out d2 X1 Z2 _ _ _ HZ.out hle HO2.out HM2.out).mono ?_
  rintro e w3 ⟨aW, mW, cW, R5, rfl, hoW, hr5, hb⟩
  have HK3 : Hid (Ks w a bs am ms aW R5 w3) := by
    have hb' := HB2.out.trans (hb.mono HB2.out.size)
    exact ⟨HR.out.below hb', HMt.out.below hb', hoW.has, hb'⟩
  have HR5 := hid hr5
  have HmW := hid hoW.len
  clear hb hoW hr5 HO2 HB2 HM2
  -- the program
  go_wp2_with fail
  refine (f9 a n c bs _ HN.out hle HK3.out.arg HZ.out).mono ?_
  rintro e w4a ⟨d4, Z4, rfl, ho4, hb⟩
  have HB4a := hid hb
  have HO4a := hid ho4
  have hS : w3.heap.size < w4a.heap.size := (ho4.row.lt w3.heap.size rfl).2
  clear hb ho4
  go_wp2_with fail
  refine (Pat.f26 am nm cm ms _ HNm.out hbn (HK3.out.below HB4a.out).mat).mono ?_
  rintro e w4 ⟨rfl, hm4, hb⟩
  have HB4 := hid (HB4a.out.trans (hb.mono (Nat.le_of_lt hS)))
  have HO4 := hid (HO4a.out.below hb)
  have HP4 := hid hm4
  have hSm : w4a.heap.size < w4.heap.size := (hm4.lt w4a.heap.size rfl).2
  have HTop4 : Hid (∀ i, i < n → Z4 (i + 1) ≤ w4a.heap.size) := fun i hi => Nat.le_trans (zmono HO4a.out.kin n (i + 1) hi (Nat.le_refl _)) HO4a.out.kin.top
  clear hb hm4 HB4a HO4a
  generalize w4a.heap.size = Sa at *
  go_wp2_with fail
  refine (HIm.out d4 _ Z4 _ _ _ HZ.out hle HO4.out (Pat.HasM.own HP4.out)).mono ?_
  rintro e w5 ⟨aG, mG, cG, R8, rfl, ho8, hr8, hb⟩
  have HB5 : Hid (Below w3.heap.size w3 w5) := HB4.out.trans (hb.mono (by omega))
  have HO5 := hid (HO4.out.below hb)
  have HP5 := hid (own_below HP4.out hb)
  have HG5 := hid ho8
  have HS54 : Hid (Sa < w4.heap.size ∧ w4.heap.size ≤ w5.heap.size) := ⟨hSm, hb.size⟩
  have HSm := hid (same_mapJ hr8 HR5.out)
  have hlG := hid ho8.len
  have h8t := HTt0.out R8 hr8
  have HTG : Hid (tot R8 R8.length ≤ 1048576) := h8t.2.1
  have HLG : Hid (R8.length ≤ 200) := h8t.1
  have HZG : Hid (SmlQ R8) := h8t.2.2
  have hmm : mW = mG := by rw [← HmW.out, ← hlG.out]; exact HSm.out.1
  subst hmm
  have HZ4m := hid (zmono HO4.out.kin)
  have HZ4l := hid HO4.out.kin.lo
  have HD4l := hid HO4.out.kin.len
  have HD4s := hid HO4.out.kin.same
  have HTD : Hid (1 + mkK d4 n ≤ 10000000) := by
    unfold Hid
    have h1 := mkK_tot d4 n
    have h2 := HD4s.out.totK n (Nat.le_refl _)
    have h3 := HTt.out
    omega
  have HD4z : Hid (SmlK d4) := HD4s.out.sml HD4l.out HN.out HZ.out
  have hb200 : mW ≤ 1048576 := by have := HLG.out; have := hlG.out; omega
  clear ho8 hr8 hb HB4 HO4 HP4 h8t
  generalize w4.heap.size = S4 at *
  -- alike
  have HK5 := hid (HK3.out.below HB5.out)
  go_wp2_with fail
  refine (Srs.f28 aG aW mW cG cW R8 R5 _ hlG.out HmW.out hb200 HG5.out.has HK5.out.ans (by rw [← hlG.out]; exact HSm.out.2) HZG.out).mono ?_
  rintro e w6 ⟨rfl, hb⟩
  have HB6 := hid (HB5.out.trans (hb.mono HB5.out.size))
  have HO6 := hid (HO5.out.below hb)
  have HP6 := hid (own_below HP5.out hb)
  have HG6 := hid (HG5.out.below hb)
  have HK6 := hid (HK5.out.below hb)
  clear hb HB5 HO5 HG5 HK5 HP5
  -- the argument is as it was
  go_wp2_with fail
  refine (f9 a n c bs _ HN.out hle HK6.out.arg HZ.out).mono ?_
  rintro e w7 ⟨d7, Z7, rfl, ho7, hb⟩
  have HB7 := hid (HB6.out.trans (hb.mono HB6.out.size))
  have HO7 := hid (HO6.out.below hb)
  have HP7 := hid (own_below HP6.out hb)
  have HG7 := hid (HG6.out.below hb)
  have HV7 := hid ho7
  clear hb ho7 HB6 HO6 HG6 HK6 HP6
  generalize w6.heap.size = S6 at *
  go_wp2_with fail
  refine (f12 _ _ n n n d4 d7 _ HD4l.out HV7.out.kin.len hle HO7.out.has HV7.out.has (HD4s.out.trans HV7.out.kin.same) HD4z.out).mono ?_
  rintro e w8 ⟨rfl, hb⟩
  have HB8 := hid (HB7.out.trans (hb.mono HB7.out.size))
  have HO8 := hid (HO7.out.below hb)
  have HP8 := hid (own_below HP7.out hb)
  have HG8 := hid (HG7.out.below hb)
  clear hb HB7 HO7 HG7 HP7 HV7
  -- the matchers are as they were
  go_wp2_with fail
  refine (Pat.f26 am nm cm ms _ HNm.out hbn (HK3.out.below HB8.out).mat).mono ?_
  rintro e w8a ⟨rfl, hm8, hb⟩
  have HB8a := hid (HB8.out.trans (hb.mono HB8.out.size))
  have HO8a := hid (HO8.out.below hb)
  have HP8a := hid (own_below HP8.out hb)
  have HG8a := hid (HG8.out.below hb)
  have HM8 := hid (Pat.HasM.own hm8)
  clear hb hm8 HB8 HO8 HP8 HG8
  go_wp2_with fail
  refine (Pat.f29 _ _ nm nm nm ms _ HNm.out hbn (Pat.HasM.own HP8a.out) HM8.out).mono ?_
  rintro e w8b ⟨rfl, hb⟩
  have HB8 := hid (HB8a.out.trans (hb.mono HB8a.out.size))
  have HO8 := hid (HO8a.out.below hb)
  have HP8 := hid (own_below HP8a.out hb)
  have HG8 := hid (HG8a.out.below hb)
  clear hb HB8a HO8a HP8a HG8a HM8
  -- what came in is marked
  have hs8 : w3.heap.size ≤ w8b.heap.size := HB8.out.size
  go_wp2_with fail
  refine (f13 w3.heap.size Sa _ n n 1 d4 Z4 (fun i => Z4 (i + 1)) _ hle (by have := HTD.out; omega) (ownk_row HO8.out) (fun i hi => Nat.le_of_lt (HZ4l.out i (by omega))) (fun i j hij hj => HZ4m.out j (i + 1) (by omega) (by omega)) HTop4.out (fun g e => by cases e; exact hS) (fun i hi => HD4z.out i (by rw [HD4l.out]; exact hi))).mono ?_
  rintro e w9 ⟨rfl, _, hf9⟩
  have HB9a := hid (HB8.out.trans (fr_belowK hf9 (Nat.le_refl _) hs8))
  have HG9a := hid (HG8.out.fr hf9 (by have := HS54.out; omega))
  have HP9a := hid (own_fr HP8.out hf9 (.inr (Nat.le_refl _)))
  clear hf9 HB8 HO8 HG8 HP8
  obtain ⟨k1, hk1⟩ : ∃ k1 : Nat, k1 = 1 + mkK d4 n := ⟨_, rfl⟩
  have hk1b : k1 ≤ 10000000 := by rw [hk1]; exact HTD.out
  rw [← hk1]
  clear hk1
  go_wp2_with fail
  refine (Srs.f30 Sa nm Sa k1 _ _ hbn (by omega) HP9a.out).mono ?_
  rintro e w9b ⟨rfl, hg9⟩
  have HB9 := hid (HB9a.out.trans (grown_belowK hg9 (Nat.le_of_lt hS) HB9a.out.size))
  have HG9 := hid (HG9a.out.aside hg9 HS54.out.1)
  clear hg9 HB9a HG9a HP9a
  obtain ⟨k1', hk1'⟩ : ∃ k2 : Nat, k2 = k1 + 3 * nm := ⟨_, rfl⟩
  rw [← hk1']
  clear hk1'
  have hk2 : ¬ (k1' : Int) < 0 := by omega
  have HK9 := hid (HK3.out.below HB9.out)
  go_wp2_with fail
  refine (Srs.f28 aG aW mW cG cW R8 R5 _ hlG.out HmW.out hb200 HG9.out.has HK9.out.ans (by rw [← hlG.out]; exact HSm.out.2) HZG.out).mono ?_
  rintro e w10 ⟨rfl, hb⟩
  have HB10 := hid (HB9.out.trans (hb.mono HB9.out.size))
  have HG10 := hid (HG9.out.below hb)
  clear hb HB9 HG9 HK9
  -- what came out is marked, and held
  have HTm : Hid (1 + 2 * tot R8 mW ≤ 100000000) := by unfold Hid; rw [← hlG.out]; have := HTG.out; omega
  go_wp2_with fail
  obtain ⟨k4, hk4⟩ : ∃ k4 : Nat, k4 = 1 + 2 * tot R8 mW := ⟨_, rfl⟩
  have HK4 := hid hk4
  clear hk4
  have hk5 : ¬ (k4 : Int) < 0 := by omega
  refine (mark_ans HG10.out hb200 (k := 1) HTm.out).mono ?_
  rw [← HK4.out]
  rintro e w11 ⟨rfl, ho11, hb⟩
  have HB11 := hid (HB10.out.trans (hb.mono (by have := HS54.out; omega)))
  have HG11 := hid ho11
  clear hb ho11 HB10 HG10
  go_wp2_with fail
  refine (held_ans hlG.out HG11.out hb200 (k := 1) HTm.out).mono ?_
  rw [← HK4.out]
  rintro e w12 ⟨rfl, hb⟩
  have HB12 := hid (HB11.out.trans (hb.mono HB11.out.size))
  have HG12 := hid (HG11.out.below hb)
  clear hb HB11 HG11
  -- once more
  have HK12 := hid (HK3.out.below HB12.out)
  go_wp2_with fail
  refine (f9 a n c bs _ HN.out hle HK12.out.arg HZ.out).mono ?_
  rintro e w13a ⟨d13, Z13, rfl, ho13, hb⟩
  have HB13a := hid (HB12.out.trans (hb.mono HB12.out.size))
  have HG13a := hid (HG12.out.below hb)
  have HV13 := hid ho13
  clear hb ho13 HB12 HG12 HK12
  generalize w12.heap.size = S12 at *
  go_wp2_with fail
  refine (Pat.f26 am nm cm ms _ HNm.out hbn (HK3.out.below HB13a.out).mat).mono ?_
  rintro e w13 ⟨rfl, hm13, hb⟩
  have HB13 := hid (HB13a.out.trans (hb.mono HB13a.out.size))
  have HG13 := hid (HG13a.out.below hb)
  have HP13 := hid (HV13.out.below hb)
  have HM13 := hid (Pat.HasM.own hm13)
  clear hb hm13 HB13a HG13a HV13
  go_wp2_with fail
  refine (HIm.out d13 _ Z13 _ _ _ HZ.out hle HP13.out HM13.out).mono ?_
  rw [← HR5.out]
  rintro e w14 ⟨aH, mH, cH, RH, rfl, hoH, hrH, hb⟩
  have HB14 := hid (HB13.out.trans (hb.mono HB13.out.size))
  have HG14 := hid (HG13.out.below hb)
  have HHh := hid hoH.has
  have hlH := hid hoH.len
  have HSm2 := hid (same_mapJ hrH (rfl : R5.map pl = R5.map pl))
  have HZH : Hid (SmlQ RH) := (HTt0.out RH (hrH.trans HR5.out)).2.2
  have hmH : mW = mH := by rw [← HmW.out, ← hlH.out]; exact HSm2.out.1
  subst hmH
  clear hoH hrH hb HB13 HG13 HP13 HM13
  have HK14 := hid (HK3.out.below HB14.out)
  go_wp2_with fail
  refine (Srs.f28 aH aW mW cH cW RH R5 _ hlH.out HmW.out hb200 HHh.out HK14.out.ans (by rw [← hlH.out]; exact HSm2.out.2) HZH.out).mono ?_
  rintro e w15 ⟨rfl, hb⟩
  have HB15 := hid (HB14.out.trans (hb.mono HB14.out.size))
  have HG15 := hid (HG14.out.below hb)
  clear hb HB14 HG14 HK14 HHh
  go_wp2_with fail
  refine (held_ans hlG.out HG15.out hb200 (k := 1) HTm.out).mono ?_
  rw [← HK4.out]
  rintro e w16 ⟨rfl, hb⟩
  have HB16 := hid (HB15.out.trans (hb.mono HB15.out.size))
  have HEnd := hid (HK3.out.below HB16.out).bel
  clear hb HB15 HG15
  go_wp2
  go_ret
  exact ⟨rfl, HEnd.out⟩
end Go.Proofs.YtjhdmghpklagkaaGreat.Blk
