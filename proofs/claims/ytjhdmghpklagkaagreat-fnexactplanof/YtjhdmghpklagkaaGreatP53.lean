/- The walk of FnExactPlanOf. -/
import Derived.Test.YtjhdmghpklagkaaGreatP50
import Derived.Test.YtjhdmghpklagkaaGreatP52
namespace Go.Proofs.YtjhdmghpklagkaaGreat.Pln
open Go.RowKit
open Go.Proofs.YtjhdmghpklagkaaGreat.Srs (hid lt_at kept blk own_below Q q0 HasQ SmlQ OwnO Fr own_fr tot)
open Go.Proofs.YtjhdmghpklagkaaGreat.Blk
open Go.Proofs.YtjhdmghpklagkaaGreat.Mgb
open Go.Proofs.YtjhdmghpklagkaaGreat.Stn (T t0)
open Go.Proofs.YtjhdmghpklagkaaGreat.Ino (eqO markO heldO below_drewN)
open Go.Proofs.YtjhdmghpklagkaaGreat.Shf (wid BadW)

theorem okM_same {b : Int} {n : Nat} {bs d : List Bk} (s : SameK n bs d) (hn : bs.length = n) (hl : d.length = n) (g : GoodK b bs) : okM b d ↔ okM b bs := by
  have hgd : GoodK b d := s.good hn hl g
  have eL : mxl d = mxl bs := by
    unfold mxl
    have key : ∀ k, k ≤ n → (d.take k).foldl (fun a h => max a h.L) 0 = (bs.take k).foldl (fun a h => max a h.L) 0 := by
      intro k
      induction k with
      | zero => intro _; rfl
      | succ k ih =>
        intro hk
        have h1 := lmK_next (bs := d) (show k < d.length by omega)
        have h2 := lmK_next (bs := bs) (show k < bs.length by omega)
        unfold lmK at h1 h2
        rw [h1, h2, ih (by omega), (s k (by omega)).eL]
    have := key n (Nat.le_refl _)
    rw [List.take_of_length_le (by omega), List.take_of_length_le (by omega)] at this
    exact this
  have eW : wdM b d = wdM b bs := by unfold wdM; rw [eL]
  have eS : srM d = srM bs := by
    unfold srM Hpl.shl
    rw [hl, hn, Hpl.sels_same s hn hl (fun i hi => (g.2.2 i (by rw [hn]; exact hi)).2.1) goodM_nil n (Nat.le_refl _)]
  by_cases h0 : 0 < bs.length
  · have eF : frM b d = frM b bs := by unfold frM; rw [(s 0 (by omega)).eF, eW]
    have eT : toM b d = toM b bs := by unfold toM; rw [eF, eW]
    have eB : mbk b d = mbk b bs := by unfold mbk; rw [eF, eT, eL, eS]
    unfold okM InM
    rw [eL, eT, eB, hl, hn]
    refine ⟨fun h => ⟨h.1, h.2.1, fun i hi => ?_, h.2.2.2⟩, fun h => ⟨h.1, h.2.1, fun i hi => ?_, h.2.2.2⟩⟩
    · have := h.2.2.1 i hi; rw [(s i hi).eT] at this; exact this
    · rw [(s i hi).eT]; exact h.2.2.1 i hi
  · exact ⟨fun h => absurd h.1 (by omega), fun h => absurd h.1 h0⟩
theorem grp_same {W q : Int} {n : Nat} {bs d : List Bk} (s : SameK n bs d) (hn : bs.length = n) (hl : d.length = n) : (grp W q d).length = (grp W q bs).length ∧ SameK (grp W q bs).length (grp W q bs) (grp W q d) := by
  have key : ∀ k, k ≤ n → (grpK W q d k).length = (grpK W q bs k).length ∧ SameK (grpK W q bs k).length (grpK W q bs k) (grpK W q d k) := by
    intro k
    induction k with
    | zero => intro _; exact ⟨by simp [grpK, grp], fun i hi => by simp [grpK, grp] at hi⟩
    | succ k ih =>
      intro hk
      obtain ⟨e1, e2⟩ := ih (by omega)
      have hs := s k (by omega)
      rw [grpK_next (by omega), grpK_next (by omega), hs.eF]
      by_cases h : (bs.getD k k0).F / W = q
      · rw [if_pos h, if_pos h]
        refine ⟨by simp [e1], fun i hi => ?_⟩
        simp only [List.length_append, List.length_singleton] at hi
        by_cases e : i = (grpK W q bs k).length
        · rw [e]
          have a1 : (grpK W q bs k ++ [bs.getD k k0]).getD (grpK W q bs k).length k0 = bs.getD k k0 := by simp [List.getD]
          have a2 : (grpK W q d k ++ [d.getD k k0]).getD (grpK W q bs k).length k0 = d.getD k k0 := by rw [← e1]; simp [List.getD]
          rw [a1, a2]; exact hs
        · have a1 : (grpK W q bs k ++ [bs.getD k k0]).getD i k0 = (grpK W q bs k).getD i k0 := by simp [List.getD, List.getElem?_append_left (show i < (grpK W q bs k).length by omega)]
          have a2 : (grpK W q d k ++ [d.getD k k0]).getD i k0 = (grpK W q d k).getD i k0 := by simp [List.getD, List.getElem?_append_left (show i < (grpK W q d k).length by omega)]
          rw [a1, a2]; exact e2 i (by omega)
      · rw [if_neg h, if_neg h, List.append_nil, List.append_nil]
        exact ⟨e1, e2⟩
  have := key n (Nat.le_refl _)
  rw [← hn, grpK_end] at this
  rw [show bs.length = d.length by omega, grpK_end] at this
  exact this
theorem cand_same {b L q : Int} {n : Nat} {bs d : List Bk} (s : SameK n bs d) (hn : bs.length = n) (hl : d.length = n) (g : GoodK b bs) : Cand b L q d ↔ Cand b L q bs := by
  obtain ⟨e1, e2⟩ := grp_same (W := wid b L) (q := q) s hn hl
  unfold Cand
  rw [okM_same e2 rfl e1 (good_filter g _)]
  refine and_congr ⟨?_, ?_⟩ (and_congr ?_ Iff.rfl)
  · rintro ⟨j, hj, k1, k2⟩
    have := s j (by omega)
    exact ⟨j, by omega, by rw [← this.eL]; exact k1, by rw [← this.eF]; exact k2⟩
  · rintro ⟨j, hj, k1, k2⟩
    have := s j (by omega)
    exact ⟨j, by omega, by rw [this.eL]; exact k1, by rw [this.eF]; exact k2⟩
  · by_cases h0 : 0 < n
    · rw [hl, hn, (s (n - 1) (by omega)).eF]
    · obtain rfl : n = 0 := by omega
      rw [List.eq_nil_of_length_eq_zero hn, List.eq_nil_of_length_eq_zero hl]
theorem idx_same {W q : Int} {n : Nat} {bs d : List Bk} (s : SameK n bs d) (hn : bs.length = n) (hl : d.length = n) : idx W q d = idx W q bs := by
  unfold idx
  rw [hl, hn]
  refine List.filter_congr fun i hi => ?_
  rw [(s i (List.mem_range.1 hi)).eF]
theorem ans_same {b : Int} {n : Nat} {bs d : List Bk} (s : SameK n bs d) (hn : bs.length = n) (hl : d.length = n) (g : GoodK b bs) {z : List Nat} (h : Ans b d z) : Ans b bs z := by
  rcases h with ⟨h1, h2⟩ | ⟨L, q, h1, h2, h3, h4, h5, h6⟩
  · exact .inl ⟨h1, fun L q k1 k2 c => h2 L q k1 k2 ((cand_same s hn hl g).2 c)⟩
  · exact .inr ⟨L, q, h1, h2, (cand_same s hn hl g).1 h3, fun L' q' k1 k2 c => h4 L' q' k1 k2 ((cand_same s hn hl g).2 c), fun q' k c => h5 q' k ((cand_same s hn hl g).2 c), by rw [h6, idx_same s hn hl]⟩
theorem PlA.same {b : Int} {n : Nat} {bs d : List Bk} (s : SameK n bs d) (hn : bs.length = n) (hl : d.length = n) {r : List Int} (h : PlA b d r) : PlA b bs r := by
  rcases h with ⟨g, h⟩ | ⟨g, z, hz, h⟩
  · exact .inl ⟨fun g' => g (s.good hn hl g'), h⟩
  · have g' := s.symm.good hl hn g
    exact .inr ⟨g', z, ans_same s hn hl g' hz, h⟩
theorem int_fr {X Y g : Nat} {v : Value} {r : List Int} {w x : World} (h : Ino.Own w X v r) (hf : Fr g Y w x) (hY : Y ≤ X) : Ino.Own x X v r := by
  rcases h.form with ⟨rfl, rfl⟩ | ⟨u, c, rfl⟩
  · exact Ino.Own.nil _ _
  · exact own_fr h hf (.inr (Nat.le_trans hY (h.lt u rfl).1))
structure Kp (w : World) (a : Option Addr) (bs : List Bk) (X : Nat) (v : Value) (r : List Int) (x : World) : Prop where
  arg : HasK x a bs
  ans : Ino.Own x X v r
  bel : Below w.heap.size w x
theorem Kp.below {w : World} {a : Option Addr} {bs : List Bk} {X : Nat} {v : Value} {r : List Int} {x y : World} (g : Kp w a bs X v r x) (hb : Below x.heap.size x y) : Kp w a bs X v r y := ⟨g.arg.below hb, g.ans.below hb, g.bel.trans (hb.mono g.bel.size)⟩
set_option maxRecDepth 10000 in
set_option maxHeartbeats 8000000 in
theorem walkPlan (b : Int) (a : Option Addr) (n c : Nat) (bs : List Bk) (w : World) (hb0 : -9223372036854775808 ≤ b) (hb1 : b ≤ 9223372036854775807) (hn : bs.length = n) (hmax : n ≤ maxLen) (hr : HasK w a bs) (hf : FitK bs) :
    Calls Tryz.prog 3 #[.int .i64 b, .slice a n c] w fun e w' => e = .returned (.bool true) ∧ Below w.heap.size w w' := by
  have HN := hid hn
  have HR := hid hr
  have HF := hid hf
  have HM := hid hmax
  clear hn hr hf hmax
  have HSp : Hid (∀ (d : List Bk) (R0 : Nat) (Z : Nat → Nat) (w' : World), SmlK bs → n ≤ 1048576 → OwnK R0 Z n bs d w' → Calls Tryz.prog 8 #[.int .i64 b, .slice (some ⟨R0, 0, none⟩) n n] w' (GivesP b bs w')) := by
    intro d R0 Z w' hz hle o
    refine (f8 b _ n n d w' hb0 hb1 o.kin.len hle o.has (o.kin.same.fit o.kin.len HF.out) (o.kin.same.sml o.kin.len HN.out hz)).mono ?_
    rintro e w'' ⟨r, v, rfl, hp, ho, hb⟩
    exact ⟨r, v, rfl, hp.same o.kin.same HN.out o.kin.len, ho, hb⟩
  have HIm : Hid (∀ (d : List Bk) (R0 : Nat) (Z : Nat → Nat) (w' : World), SmlK bs → n ≤ 1048576 → OwnK R0 Z n bs d w' → Calls Tryz.prog 10 #[.int .i64 b, .slice (some ⟨R0, 0, none⟩) n n] w' (GivesP b bs w')) := by
    intro d R0 Z w' hz hle o
    refine (f10 b _ n n d w' hb0 hb1 o.kin.len hle (Nat.le_refl _) o.has (o.kin.same.fit o.kin.len HF.out) (o.kin.same.sml o.kin.len HN.out hz) (fun i hi => ⟨ownk_room o i hi, fun j hj => Nat.le_of_eq (ownk_cap o i hi j hj).symm⟩)).mono ?_
    rintro e w'' ⟨r, v, rfl, hp, ho, hb⟩
    exact ⟨r, v, rfl, hp.same o.kin.same HN.out o.kin.len, ho, hb⟩
  go_enter Tryz.func3, Tryz.ntmps3
  go_wp2_with fail
  refine (f7 a n c 1048576 bs _ (by omega) (by omega) HN.out HR.out HF.out HM.out).mono ?_
  rintro e w1 ⟨yy, rfl, y0, y1, hy, hb⟩
  have HB1 := hid hb
  have HR1 := hid (HR.out.below hb)
  clear hb
  by_cases g0 : yy < 0
  · go_wp2
    go_ret
    exact ⟨rfl, HB1.out⟩
  have h1 := hy (by omega)
  have hle : n ≤ 1048576 := by omega
  have HTt : Hid (totK bs n ≤ 1048576) := by unfold Hid; omega
  have HZ : Hid (SmlK bs) := sml_totK (by rw [HN.out]; exact HTt.out)
  clear h1 hy
  go_wp2_with fail
  refine (f9 a n c bs _ HN.out hle HR1.out HZ.out).mono ?_
  rintro e w2 ⟨d2, Z2, rfl, ho, hb⟩
  have HB2 := hid (HB1.out.trans (hb.mono HB1.out.size))
  have HO2 := hid ho
  clear hb ho HB1 HR1
  generalize w1.heap.size = X1 at *
  go_wp2_with fail
  refine (HSp.out d2 X1 Z2 _ HZ.out hle HO2.out).mono ?_
  rintro e w3 ⟨r, v0, rfl, hp, hoW, hb⟩
  have HK3 : Hid (Kp w a bs w2.heap.size v0 r w3) := by
    have hb' := HB2.out.trans (hb.mono HB2.out.size)
    exact ⟨HR.out.below hb', hoW, hb'⟩
  have HPl := hid hp
  have hsl : r.length ≤ 1048576 := Nat.le_trans hp.len (by decide)
  have hq : (((1 : Int) + (r.length : Int)) != (1 : Int) + (r.length : Int)) = false := by simp
  have hq2 : ¬ (1 : Int) + (r.length : Int) < 0 := by omega
  clear hb hoW hp HO2 HB2 HSp
  generalize w2.heap.size = X2 at *
  go_wp2_with fail
  refine (f9 a n c bs _ HN.out hle HK3.out.arg HZ.out).mono ?_
  rintro e w4 ⟨d4, Z4, rfl, ho4, hb⟩
  have HB4 := hid hb
  have HO4 := hid ho4
  have hS : w3.heap.size < w4.heap.size := (ho4.row.lt w3.heap.size rfl).2
  have HTop4 : Hid (∀ i, i < n → Z4 (i + 1) ≤ w4.heap.size) := fun i hi => Nat.le_trans (zmono ho4.kin n (i + 1) hi (Nat.le_refl _)) ho4.kin.top
  clear hb ho4
  go_wp2_with fail
  refine (HIm.out d4 _ Z4 _ HZ.out hle HO4.out).mono ?_
  rintro e w5 ⟨r', r0, rfl, hp, hoG, hb⟩
  obtain rfl : r' = r := hp.one HPl.out
  have HB5 : Hid (Below w3.heap.size w3 w5) := HB4.out.trans (hb.mono (by omega))
  have HO5 := hid (HO4.out.below hb)
  have HG5 := hid hoG
  have HZ4m := hid (zmono HO4.out.kin)
  have HZ4l := hid HO4.out.kin.lo
  have HD4l := hid HO4.out.kin.len
  have HD4s := hid HO4.out.kin.same
  have HTD : Hid (1 + mkK d4 n ≤ 10000000) := by
    unfold Hid
    have h1 := mkK_tot d4 n
    have h2 := HD4s.out.totK n (Nat.le_refl _)
    have h3 := HTt.out
    omega
  have HD4z : Hid (SmlK d4) := HD4s.out.sml HD4l.out HN.out HZ.out
  clear hb hp hoG HB4 HO4
  generalize w4.heap.size = S4 at *
  have HK5 := hid (HK3.out.below HB5.out)
  go_wp2_with fail
  refine (eqO hsl HG5.out HK5.out.ans).mono ?_
  rintro e w6 ⟨rfl, q6, hq6⟩
  have hb : Below w5.heap.size w5 w6 := by rw [hq6]; exact below_drewN (Below.refl _ _) _
  have HB6 := hid (HB5.out.trans (hb.mono HB5.out.size))
  have HO6 := hid (HO5.out.below hb)
  have HG6 := hid (HG5.out.below hb)
  have HK6 := hid (HK5.out.below hb)
  clear hb hq6 HB5 HG5 HK5 HO5
  go_wp2_with fail
  refine (f9 a n c bs _ HN.out hle HK6.out.arg HZ.out).mono ?_
  rintro e w7 ⟨d7, Z7, rfl, ho7, hb⟩
  have HB7 := hid (HB6.out.trans (hb.mono HB6.out.size))
  have HO7 := hid (HO6.out.below hb)
  have HG7 := hid (HG6.out.below hb)
  have HV7 := hid ho7
  clear hb ho7 HB6 HO6 HG6 HK6
  generalize w6.heap.size = S6 at *
  go_wp2_with fail
  refine (f12 _ _ n n n d4 d7 _ HD4l.out HV7.out.kin.len hle HO7.out.has HV7.out.has (HD4s.out.trans HV7.out.kin.same) HD4z.out).mono ?_
  rintro e w8 ⟨rfl, hb⟩
  have HB8 := hid (HB7.out.trans (hb.mono HB7.out.size))
  have HO8 := hid (HO7.out.below hb)
  have HG8 := hid (HG7.out.below hb)
  clear hb HB7 HO7 HG7 HV7
  have hs8 : w3.heap.size ≤ w8.heap.size := HB8.out.size
  go_wp2_with fail
  refine (f13 w3.heap.size S4 _ n n 1 d4 Z4 (fun i => Z4 (i + 1)) _ hle (by have := HTD.out; omega) (ownk_row HO8.out) (fun i hi => Nat.le_of_lt (HZ4l.out i (by omega))) (fun i j hij hj => HZ4m.out j (i + 1) (by omega) (by omega)) HTop4.out (fun g e => by cases e; exact hS) (fun i hi => HD4z.out i (by rw [HD4l.out]; exact hi))).mono ?_
  rintro e w9 ⟨rfl, _, hf9⟩
  have HB9 := hid (HB8.out.trans (fr_belowK hf9 (Nat.le_refl _) hs8))
  have HG9 : Hid (Ino.Own w9 S4 r0 r') := int_fr HG8.out hf9 (Nat.le_refl _)
  clear hf9 HB8 HO8 HG8
  obtain ⟨k1, hk1⟩ : ∃ k1 : Nat, k1 = 1 + mkK d4 n := ⟨_, rfl⟩
  rw [← hk1]
  clear hk1
  have hk2 : ¬ (k1 : Int) < 0 := by omega
  have HK9 := hid (HK3.out.below HB9.out)
  go_wp2_with fail
  refine (eqO hsl HG9.out HK9.out.ans).mono ?_
  rintro e w10 ⟨rfl, q10, hq10⟩
  have hb : Below w9.heap.size w9 w10 := by rw [hq10]; exact below_drewN (Below.refl _ _) _
  have HB10 := hid (HB9.out.trans (hb.mono HB9.out.size))
  have HG10 := hid (HG9.out.below hb)
  clear hb hq10 HB9 HG9 HK9
  go_wp2_with fail
  refine (markO 1 (by decide) (by decide) hsl HG10.out).mono ?_
  rintro e w11 ⟨rfl, ho11, hg11⟩
  have HB11 := hid (HB10.out.grown hg11 HB10.out.size (fun k hk => by have := (HG10.out.lt k hk).1; omega))
  have HG11 := hid ho11
  clear hg11 ho11 HB10 HG10
  go_wp2_with fail
  refine (heldO 1 (by decide) (by decide) hsl HG11.out).mono ?_
  rintro e w12 ⟨rfl, q12, hq12⟩
  have hb : Below w11.heap.size w11 w12 := by rw [hq12]; exact below_drewN (Below.refl _ _) _
  have HB12 := hid (HB11.out.trans (hb.mono HB11.out.size))
  have HG12 := hid (HG11.out.below hb)
  clear hb hq12 HB11 HG11
  have HK12 := hid (HK3.out.below HB12.out)
  go_wp2_with fail
  refine (f9 a n c bs _ HN.out hle HK12.out.arg HZ.out).mono ?_
  rintro e w13 ⟨d13, Z13, rfl, ho13, hb⟩
  have HB13 := hid (HB12.out.trans (hb.mono HB12.out.size))
  have HG13 := hid (HG12.out.below hb)
  have HV13 := hid ho13
  clear hb ho13 HB12 HG12 HK12
  generalize w12.heap.size = S12 at *
  go_wp2_with fail
  refine (HIm.out d13 _ Z13 _ HZ.out hle HV13.out).mono ?_
  rintro e w14 ⟨r2, rv, rfl, hp, ho14, hb⟩
  obtain rfl : r2 = r' := hp.one HPl.out
  have HB14 := hid (HB13.out.trans (hb.mono HB13.out.size))
  have HG14 := hid (HG13.out.below hb)
  have HH14 := hid ho14
  clear hb hp ho14 HB13 HG13 HV13
  generalize w13.heap.size = S13 at *
  have HK14 := hid (HK3.out.below HB14.out)
  go_wp2_with fail
  refine (eqO hsl HH14.out HK14.out.ans).mono ?_
  rintro e w15 ⟨rfl, q15, hq15⟩
  have hb : Below w14.heap.size w14 w15 := by rw [hq15]; exact below_drewN (Below.refl _ _) _
  have HB15 := hid (HB14.out.trans (hb.mono HB14.out.size))
  have HG15 := hid (HG14.out.below hb)
  clear hb hq15 HB14 HG14 HK14 HH14
  go_wp2_with fail
  refine (heldO 1 (by decide) (by decide) hsl HG15.out).mono ?_
  rintro e w16 ⟨rfl, q16, hq16⟩
  have hb : Below w15.heap.size w15 w16 := by rw [hq16]; exact below_drewN (Below.refl _ _) _
  have HB16 := hid (HB15.out.trans (hb.mono HB15.out.size))
  have HEnd := hid (HK3.out.below HB16.out).bel
  clear hb hq16 HB15 HG15
  go_wp2
  go_ret
  exact ⟨rfl, HEnd.out⟩
end Go.Proofs.YtjhdmghpklagkaaGreat.Pln
