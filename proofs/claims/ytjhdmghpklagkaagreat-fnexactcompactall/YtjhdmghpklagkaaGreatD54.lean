/- The walk of FnExactCompactAll. -/
import Derived.Test.YtjhdmghpklagkaaGreatD53
import Derived.Test.YtjhdmghpklagkaaGreatD50
namespace Go.Proofs.YtjhdmghpklagkaaGreat.Pln
open Go.RowKit
open Go.Proofs.YtjhdmghpklagkaaGreat.Srs (hid lt_at kept blk own_below Q q0 HasQ SmlQ OwnO Fr own_fr tot)
open Go.Proofs.YtjhdmghpklagkaaGreat.Blk
open Go.Proofs.YtjhdmghpklagkaaGreat.Mgb
open Go.Proofs.YtjhdmghpklagkaaGreat.Stn (T t0)
open Go.Proofs.YtjhdmghpklagkaaGreat.Shf (wid BadW)

theorem Shx.fr {X Y g : Nat} {a : Option Addr} {n c : Nat} {R : List Bk} {w x : World} (h : Shx X a n c R w) (hf : Fr g Y w x) (hY : Y ≤ X) : Shx X a n c R x := by
  obtain ⟨L, U, h1, h2, h3⟩ := h.ex
  refine ⟨⟨L, U, ⟨h1.len, row_fr h1.row hf (fun g' hg => .inr (Nat.le_trans hY (h1.row.lt g' hg).1)), fun i hi => ownx_fr (h1.each i hi) hf (.inl (Nat.le_trans hY (h2 i hi))), h1.off⟩, h2, h3⟩, h.fit, h.sml⟩
structure Kc2 (w : World) (a : Option Addr) (bs : List Bk) (aW : Option Addr) (R : List Bk) (x : World) : Prop where
  arg : HasK x a bs
  ans : HasK x aW R
  bel : Below w.heap.size w x
theorem Kc2.below {w : World} {a : Option Addr} {bs : List Bk} {aW : Option Addr} {R : List Bk} {x y : World} (g : Kc2 w a bs aW R x) (hb : Below x.heap.size x y) : Kc2 w a bs aW R y := ⟨g.arg.below hb, g.ans.below hb, g.bel.trans (hb.mono g.bel.size)⟩
set_option maxRecDepth 10000 in
set_option maxHeartbeats 8000000 in
theorem walkCompact (b : Int) (a : Option Addr) (n c : Nat) (bs : List Bk) (w : World) (hb0 : -9223372036854775808 ≤ b) (hb1 : b ≤ 9223372036854775807) (hn : bs.length = n) (hmax : n ≤ maxLen) (hr : HasK w a bs) (hf : FitK bs) :
    Calls Tryz.prog 5 #[.int .i64 b, .slice a n c] w fun e w' => e = .returned (.bool true) ∧ Below w.heap.size w w' := by
  have HN := hid hn
  have HR := hid hr
  have HF := hid hf
  have HM := hid hmax
  clear hn hr hf hmax
  have HSp : Hid (∀ (d : List Bk) (R0 : Nat) (Z : Nat → Nat) (w' : World), SmlK bs → n ≤ 1048576 → OwnK R0 Z n bs d w' → Calls Tryz.prog 21 #[.int .i64 b, .slice (some ⟨R0, 0, none⟩) n n] w' (GivesY b bs w')) := by
    intro d R0 Z w' hz hle o
    refine (f21 b _ n n d w' hb0 hb1 o.kin.len hle o.has (o.kin.same.fit o.kin.len HF.out) (o.kin.same.sml o.kin.len HN.out hz) (fun i hi j hj => ownk_cap o i hi j hj)).mono ?_
    rintro e w'' ⟨a', n', c', A, R, rfl, hp, l1, l2, s2, hh, hz2, hb⟩
    obtain ⟨A', p1, p2, p3⟩ := hp.same o.kin.same HN.out o.kin.len
    rw [l1] at p2 p3
    exact ⟨a', n', c', A', R, rfl, p1, p2, l2, fun i hi => (p3 i hi).symm.trans (s2 i hi), hh, hz2, hb⟩
  have HIm : Hid (∀ (d : List Bk) (R0 : Nat) (Z : Nat → Nat) (w' : World), SmlK bs → n ≤ 1048576 → OwnK R0 Z n bs d w' → Calls Tryz.prog 22 #[.int .i64 b, .slice (some ⟨R0, 0, none⟩) n n] w' (GivesX b bs w')) := by
    intro d R0 Z w' hz hle o
    refine (f22 b _ n n d w' hb0 hb1 o.kin.len hle o.has (o.kin.same.fit o.kin.len HF.out) (o.kin.same.sml o.kin.len HN.out hz) (fun i hi j hj => ownk_cap o i hi j hj)).mono ?_
    rintro e w'' ⟨⟨a', n', c', A, R, rfl, hp, l1, s2, hx⟩, hb⟩
    obtain ⟨A', p1, p2, p3⟩ := hp.same o.kin.same HN.out o.kin.len
    rw [l1] at p2 p3
    exact ⟨⟨a', n', c', A', R, rfl, p1, p2, fun i hi => (p3 i hi).symm.trans (s2 i hi), hx⟩, hb⟩
  go_enter Tryz.func5, Tryz.ntmps5
  go_wp2_with fail
  refine (f7 a n c 1048576 bs _ (by omega) (by omega) HN.out HR.out HF.out HM.out).mono ?_
  rintro e w1 ⟨yy, rfl, y0, y1, hy, hb⟩
  have HB1 := hid hb
  have HR1 := hid (HR.out.below hb)
  clear hb
  by_cases g0 : yy < 0
  · go_wp2
    go_ret
    exact ⟨rfl, HB1.out⟩
  have h1 := hy (by omega)
  have hle : n ≤ 1048576 := by omega
  have HTt : Hid (totK bs n ≤ 1048576) := by unfold Hid; omega
  have HZ : Hid (SmlK bs) := sml_totK (by rw [HN.out]; exact HTt.out)
  clear h1 hy
  go_wp2_with fail
  refine (f9 a n c bs _ HN.out hle HR1.out HZ.out).mono ?_
  rintro e w2 ⟨d2, Z2, rfl, ho, hb⟩
  have HB2 := hid (HB1.out.trans (hb.mono HB1.out.size))
  have HO2 := hid ho
  clear hb ho HB1 HR1
  generalize w1.heap.size = X1 at *
  go_wp2_with fail
  refine (HSp.out d2 X1 Z2 _ HZ.out hle HO2.out).mono ?_
  rintro e w3 ⟨aW, nW, cW, A, RW, rfl, hp, lA, lW, sW, hW, zW, hb⟩
  have HK3 : Hid (Kc2 w a bs aW RW w3) := by
    have hb' := HB2.out.trans (hb.mono HB2.out.size)
    exact ⟨HR.out.below hb', hW, hb'⟩
  have HPl := hid hp
  have HLA := hid lA
  have HLW := hid lW
  have HSW := hid sW
  have hsl : nW ≤ 100 := by rw [← lA]; exact hp.each.1
  have HGe : Hid (∀ i, i < nW → GoodB (A.getD i k0)) := fun i hi => HPl.out.each.2 i (by rw [HLA.out]; exact hi)
  clear hb hW hp lA lW sW zW HO2 HB2 HSp
  go_wp2_with fail
  refine (f9 a n c bs _ HN.out hle HK3.out.arg HZ.out).mono ?_
  rintro e w4 ⟨d4, Z4, rfl, ho4, hb⟩
  have HB4 := hid hb
  have HO4 := hid ho4
  have hS : w3.heap.size < w4.heap.size := (ho4.row.lt w3.heap.size rfl).2
  have HTop4 : Hid (∀ i, i < n → Z4 (i + 1) ≤ w4.heap.size) := fun i hi => Nat.le_trans (zmono ho4.kin n (i + 1) hi (Nat.le_refl _)) ho4.kin.top
  clear hb ho4
  go_wp2_with fail
  refine (HIm.out d4 _ Z4 _ HZ.out hle HO4.out).mono ?_
  rintro e w5 ⟨⟨aG, nG, cG, A', RG, rfl, hp, lA', sG, hx⟩, hb⟩
  obtain rfl : A' = A := hp.one HPl.out
  obtain rfl : nG = nW := by rw [← lA', ← HLA.out]
  have HB5 : Hid (Below w3.heap.size w3 w5) := HB4.out.trans (hb.mono (by omega))
  have HO5 := hid (HO4.out.below hb)
  have HG5 := hid hx
  have HSm : Hid (SameK nG RG RW) := sG.trans HSW.out
  have HMk : Hid (1 + mkK RG nG ≤ 100000000) := by
    unfold Hid
    have := mkK_good sG HGe.out nG (Nat.le_refl _)
    omega
  have hle2 : nG ≤ 1048576 := by omega
  clear hp lA' sG hx
  have HZ4m := hid (zmono HO4.out.kin)
  have HZ4l := hid HO4.out.kin.lo
  have HD4l := hid HO4.out.kin.len
  have HD4s := hid HO4.out.kin.same
  have HTD : Hid (1 + mkK d4 n ≤ 10000000) := by
    unfold Hid
    have h1 := mkK_tot d4 n
    have h2 := HD4s.out.totK n (Nat.le_refl _)
    have h3 := HTt.out
    omega
  have HD4z : Hid (SmlK d4) := HD4s.out.sml HD4l.out HN.out HZ.out
  clear hb HB4 HO4
  generalize w4.heap.size = S4 at *
  have HK5 := hid (HK3.out.below HB5.out)
  go_wp2_with fail
  refine (f12 aG aW nG cG cW RG RW _ HG5.out.len HLW.out hle2 HG5.out.has HK5.out.ans HSm.out HG5.out.sml).mono ?_
  rintro e w6 ⟨rfl, hb⟩
  have HB6 := hid (HB5.out.trans (hb.mono HB5.out.size))
  have HO6 := hid (HO5.out.below hb)
  have HG6 := hid (HG5.out.below hb)
  have HK6 := hid (HK5.out.below hb)
  clear hb HB5 HG5 HK5 HO5
  go_wp2_with fail
  refine (f9 a n c bs _ HN.out hle HK6.out.arg HZ.out).mono ?_
  rintro e w7 ⟨d7, Z7, rfl, ho7, hb⟩
  have HB7 := hid (HB6.out.trans (hb.mono HB6.out.size))
  have HO7 := hid (HO6.out.below hb)
  have HG7 := hid (HG6.out.below hb)
  have HV7 := hid ho7
  clear hb ho7 HB6 HO6 HG6 HK6
  generalize w6.heap.size = S6 at *
  go_wp2_with fail
  refine (f12 _ _ n n n d4 d7 _ HD4l.out HV7.out.kin.len hle HO7.out.has HV7.out.has (HD4s.out.trans HV7.out.kin.same) HD4z.out).mono ?_
  rintro e w8 ⟨rfl, hb⟩
  have HB8 := hid (HB7.out.trans (hb.mono HB7.out.size))
  have HO8 := hid (HO7.out.below hb)
  have HG8 := hid (HG7.out.below hb)
  clear hb HB7 HO7 HG7 HV7
  have hs8 : w3.heap.size ≤ w8.heap.size := HB8.out.size
  go_wp2_with fail
  refine (f13 w3.heap.size S4 _ n n 1 d4 Z4 (fun i => Z4 (i + 1)) _ hle (by have := HTD.out; omega) (ownk_row HO8.out) (fun i hi => Nat.le_of_lt (HZ4l.out i (by omega))) (fun i j hij hj => HZ4m.out j (i + 1) (by omega) (by omega)) HTop4.out (fun g e => by cases e; exact hS) (fun i hi => HD4z.out i (by rw [HD4l.out]; exact hi))).mono ?_
  rintro e w9 ⟨rfl, _, hf9⟩
  have HB9 := hid (HB8.out.trans (fr_belowK hf9 (Nat.le_refl _) hs8))
  have HG9 := hid (HG8.out.fr hf9 (Nat.le_refl _))
  clear hf9 HB8 HO8 HG8
  obtain ⟨k1, hk1⟩ : ∃ k1 : Nat, k1 = 1 + mkK d4 n := ⟨_, rfl⟩
  rw [← hk1]
  clear hk1
  have hk2 : ¬ (k1 : Int) < 0 := by omega
  have HK9 := hid (HK3.out.below HB9.out)
  go_wp2_with fail
  refine (f12 aG aW nG cG cW RG RW _ HG9.out.len HLW.out hle2 HG9.out.has HK9.out.ans HSm.out HG9.out.sml).mono ?_
  rintro e w10 ⟨rfl, hb⟩
  have HB10 := hid (HB9.out.trans (hb.mono HB9.out.size))
  have HG10 := hid (HG9.out.below hb)
  clear hb HB9 HG9 HK9
  obtain ⟨k4, hk4⟩ : ∃ k4 : Nat, k4 = 1 + mkK RG nG := ⟨_, rfl⟩
  have HK4 := hid hk4
  have hk5 : ¬ (k4 : Int) < 0 := by omega
  clear hk4
  obtain ⟨L, U, o10, l10, s10⟩ := HG10.out.ex
  have HMd := hid (f13x S4 w10.heap.size aG nG cG 1 RG L U w10 hle2 HMk.out o10 l10 s10 (fun i hi => (o10.each i hi).top) (fun g hg => (o10.row.lt g hg).2) (fun i hi => HG10.out.sml i (by rw [HG10.out.len]; exact hi)))
  have HHd : Hid (∀ z, RowK OwnX S4 aG nG cG (mbs 1 RG) L U z → Calls Tryz.prog 23 #[.slice aG nG cG, .int .i64 ((1 : Nat) : Int)] z fun e w' => e = .returned (.int .i64 (k4 : Int)) ∧ Below z.heap.size z w') := by
    intro z hz
    have := f23x S4 aG nG cG 1 RG L U z HG10.out.len hle2 HMk.out hz (fun i hi => HG10.out.sml i (by rw [HG10.out.len]; exact hi))
    rw [← HK4.out] at this
    exact this
  rw [← HK4.out] at HMd
  clear o10 l10 s10
  go_wp2_with fail
  refine HMd.out.mono ?_
  rintro e w11 ⟨rfl, o11, hf11⟩
  have HB11 := hid (HB10.out.trans (fr_belowK hf11 (by omega) HB10.out.size))
  have HG11 := hid o11
  clear hf11 o11 HB10 HG10 HMd
  go_wp2_with fail
  refine (HHd.out _ HG11.out).mono ?_
  rintro e w12 ⟨rfl, hb⟩
  have HB12 := hid (HB11.out.trans (hb.mono HB11.out.size))
  have HG12 := hid (HG11.out.below wayX hb)
  clear hb HB11 HG11
  have HK12 := hid (HK3.out.below HB12.out)
  go_wp2_with fail
  refine (f9 a n c bs _ HN.out hle HK12.out.arg HZ.out).mono ?_
  rintro e w13 ⟨d13, Z13, rfl, ho13, hb⟩
  have HB13 := hid (HB12.out.trans (hb.mono HB12.out.size))
  have HG13 := hid (HG12.out.below wayX hb)
  have HV13 := hid ho13
  clear hb ho13 HB12 HG12 HK12
  generalize w12.heap.size = S12 at *
  go_wp2_with fail
  refine (HIm.out d13 _ Z13 _ HZ.out hle HV13.out).mono ?_
  rintro e w14 ⟨⟨aH, nH, cH, A2, RH, rfl, hp, lA2, sH, hx⟩, hb⟩
  obtain rfl : A2 = A' := hp.one HPl.out
  obtain rfl : nH = nG := by rw [← lA2, ← HLA.out]
  have HB14 := hid (HB13.out.trans (hb.mono HB13.out.size))
  have HG14 := hid (HG13.out.below wayX hb)
  have HH14 := hid hx
  have HSh : Hid (SameK nH RH RW) := sH.trans HSW.out
  clear hb hp lA2 sH hx HB13 HG13 HV13
  generalize w13.heap.size = S13 at *
  have HK14 := hid (HK3.out.below HB14.out)
  go_wp2_with fail
  refine (f12 aH aW nH cH cW RH RW _ HH14.out.len HLW.out hle2 HH14.out.has HK14.out.ans HSh.out HH14.out.sml).mono ?_
  rintro e w15 ⟨rfl, hb⟩
  have HB15 := hid (HB14.out.trans (hb.mono HB14.out.size))
  have HG15 := hid (HG14.out.below wayX hb)
  clear hb HB14 HG14 HK14 HH14
  go_wp2_with fail
  refine (HHd.out _ HG15.out).mono ?_
  rintro e w16 ⟨rfl, hb⟩
  have HB16 := hid (HB15.out.trans (hb.mono HB15.out.size))
  have HEnd := hid (HK3.out.below HB16.out).bel
  clear hb HB15 HG15
  go_wp2
  go_ret
  exact ⟨rfl, HEnd.out⟩
end Go.Proofs.YtjhdmghpklagkaaGreat.Pln
