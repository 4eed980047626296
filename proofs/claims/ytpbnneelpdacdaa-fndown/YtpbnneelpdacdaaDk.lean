/- The walk of FnDown. -/
import Derived.Test.YtpbnneelpdacdaaDi
import Derived.Test.YtpbnneelpdacdaaDj
namespace Go.Proofs.Ytpbnneelpdacdaa.Agl
open Go.RowKit
open Go.Proofs.Ytpbnneelpdacdaa.Smp (Sm goodS HasS HasS.own HasS.below Bya)

theorem fit_of {ls : List Sm} (hg : goodS ls = true) (hv : Chk.Vfit ls) : Smp.Fit ls := by
  intro i
  by_cases hi : i < ls.length
  · have hm : ls.getD i Smp.e0 ∈ ls := by
      have e2 : ls.getD i Smp.e0 = ls[i] := by simp [hi]
      rw [e2]; exact List.getElem_mem _
    obtain ⟨u1, u2⟩ : 0 ≤ (ls.getD i Smp.e0).1 ∧ (ls.getD i Smp.e0).1 ≤ 1000000000000 := Smp.good_mem (good_s hg) _ hm
    exact ⟨⟨by omega, by omega⟩, hv i hi⟩
  · have e : ls.getD i Smp.e0 = Smp.e0 := by simp [show ¬ i < ls.length from hi]
    rw [e]
    exact ⟨⟨by decide, by decide⟩, ⟨by decide, by decide⟩⟩

theorem down_again {res k : Int} {ls : List Sm} (hg : goodS ls = true) (hf : Smp.Fit ls) (h1 : ResP res) (hk : 1 ≤ k) (hk2 : k ≤ 1000) (h2 : res * k ≤ 1000000) : dwnA res k (dwn res ls) = dwn (res * k) ls := by
  have hr := rr_of (good_s hg) hf
  have hrk : 1 ≤ res * k := by
    have := Int.mul_le_mul h1.1 hk (by omega) (by have := h1.1; omega)
    omega
  have hR : ResP (res * k) := ⟨hrk, h2⟩
  have e1 : dwn res ls = fw (winOf res) (ones ls) := if_pos ⟨hg, h1⟩
  have e2 : dwn (res * k) ls = fw (winOf (res * k)) (ones ls) := if_pos ⟨hg, hR⟩
  unfold dwnA
  rw [e1, e2, if_pos ⟨good_fw h1.1 h1.2 hr, hk, hk2, hR⟩, ones_fw hr h1.1 hk h2, if_pos (good_fw hR.1 hR.2 hr)]

theorem span_of {u v res : Int} (_u0 : 0 ≤ u) (_v0 : 0 ≤ v) (s1 : 1 ≤ res) (s2 : res ≤ 1000000) : ∃ fr to_, fr = wrap64 (u % 64 * res) ∧ to_ = wrap64 (wrap64 (u % 64 * res) + wrap64 (v % 64 * res)) ∧ 0 ≤ fr ∧ fr % res = 0 ∧ to_ % res = 0 ∧ fr ≤ to_ ∧ to_ ≤ 1000000000000 := by
  have p1 : 0 ≤ u % 64 * res := Int.mul_nonneg (by omega) (by omega)
  have p2 : u % 64 * res ≤ 64 * 1000000 := Int.mul_le_mul (by omega) s2 (by omega) (by omega)
  have q1 : 0 ≤ v % 64 * res := Int.mul_nonneg (by omega) (by omega)
  have q2 : v % 64 * res ≤ 64 * 1000000 := Int.mul_le_mul (by omega) s2 (by omega) (by omega)
  have e1 : wrap64 (u % 64 * res) = u % 64 * res := by unfold wrap64; omega
  have e2 : wrap64 (v % 64 * res) = v % 64 * res := by unfold wrap64; omega
  have e3 : wrap64 (u % 64 * res + v % 64 * res) = u % 64 * res + v % 64 * res := by unfold wrap64; omega
  refine ⟨u % 64 * res, u % 64 * res + v % 64 * res, e1.symm, by rw [e1, e2, e3], p1, Int.mul_emod_left _ _, ?_, by omega, by omega⟩
  rw [← Int.add_mul]
  exact Int.mul_emod_left _ _
theorem zB (a : Option Addr) (n c : Nat) (i : Int) (w : World) (h : Bya w a n) (h0 : 0 ≤ i) (h1 : i ≤ 1000) :
    Calls Try.prog 6 #[.slice a n c, .int .i64 i] w fun e w' => ∃ x : Int, e = .returned (.int .i64 x) ∧ 0 ≤ x ∧ x ≤ 255 ∧ w' = w := by
  obtain ⟨k, rfl⟩ : ∃ k : Nat, i = k := ⟨i.toNat, by omega⟩
  exact Smp.f6 a n c k w h (by omega)
theorem bya_drew {w : World} {a : Option Addr} {n q : Nat} (h : Bya w a n) : Bya (w.drewN q) a n := h.below (Smp.below_drewN (Below.refl _ _) _)

set_option maxRecDepth 100000 in
set_option maxHeartbeats 8000000 in
theorem walkDown2 (a0 a1 : Option Addr) (n0 n1 c0 c1 : Nat) (w : World) (b0 : Bya w a0 n0) (b1 : Bya w a1 n1) (m0 : n0 ≤ maxLen) (m1 : n1 ≤ maxLen) :
    Calls Try.prog 3 #[.slice a0 n0 c0, .slice a1 n1 c1] w fun e w' => e = .returned (.bool true) ∧ Below w.heap.size w w' := by
  unfold maxLen at m0 m1
  by_cases h0 : n0 ≤ 1048576
  rotate_left
  · go_enter Try.func3, Try.ntmps3
    go_wp2
    go_ret
    exact ⟨rfl, Below.refl _ _⟩
  by_cases h1 : n1 ≤ 1048576
  rotate_left
  · go_enter Try.func3, Try.ntmps3
    go_wp2
    go_ret
    exact ⟨rfl, Below.refl _ _⟩
  have HB0 := hid b0
  have HB1 := hid b1
  clear b0 b1
  go_enter Try.func3, Try.ntmps3
  go_wp2_with fail
  go_region_law (go_simp; refine (zB a1 n1 c1 _ _ (by first | exact HB1.out | exact bya_drew HB1.out) (by omega) (by omega)).mono ?_; rintro e wz ⟨z, rfl, z0, z1, rfl⟩; have zn : ¬ (1 + z = 0) := (by omega); have zn2 : ¬ (IntKind.i64.wrap (1 + z) = 0) := (by rw [IntKind.wrap_i64]; omega))
  go_wp2_with fail
  rename_i za za0 za1 zan zan2 zb zb0 zb1 zbn zbn2 K1 A1 K2 A2
  obtain ⟨k, hk⟩ : ∃ k, k = wrap64 (1 + (wrap64 (za % (1 + zb) + 3 * z)).tmod 1000) := ⟨_, rfl⟩
  have hk12 : 1 ≤ k ∧ k ≤ 1000 := by
    have p0 : 0 ≤ za % (1 + zb) := Int.emod_nonneg _ (by omega)
    have p1 : za % (1 + zb) < 1 + zb := Int.emod_lt_of_pos _ (by omega)
    generalize za % (1 + zb) = q at *
    have e1 : wrap64 (q + 3 * z) = q + 3 * z := by unfold wrap64; omega
    rw [e1, Int.tmod_eq_emod_of_nonneg (by omega)] at hk
    have e2 : wrap64 (1 + (q + 3 * z) % 1000) = 1 + (q + 3 * z) % 1000 := by unfold wrap64; omega
    rw [e2] at hk
    omega
  obtain ⟨hk1, hk2⟩ := hk12
  simp only [← hk]
  clear hk zan zan2 zbn zbn2 zn zn2
  refine (Smp.f7 a0 n0 c0 _ (bya_drew (q := 1) HB0.out) h0).mono ?_
  rintro e w1 ⟨lv, ls, res, rfl, hl, r0, r1, ho, hb, HVf⟩
  obtain ⟨la, lc, rfl⟩ := Smp.own_form ho
  have HS1 := hid (HasS.own ho)
  have HX1 := hid ((Below.refl w.heap.size w).drew.trans hb)
  have hcap : ls.length ≤ lc := by
    rcases ho.2 with ⟨h1, h2⟩ | ⟨g, cap, cur, h1, h2, h3, h4, _⟩
    · omega
    · simp only [Value.slice.injEq] at h1
      obtain ⟨-, -, rfl⟩ := h1
      exact h4
  have hl' : ls.length ≤ 1048576 := by omega
  clear ho hb
  go_wp2_with fail
  refine (Smp.f8 la lc ls _ hl' HS1.out).mono ?_
  rintro e w2 ⟨rfl, hb2⟩
  have HX2 := hid (HX1.out.trans (hb2.mono HX1.out.size))
  have HS2 := hid (HS1.out.below hb2)
  clear hb2 HS1 HX1
  by_cases hg : goodS ls = true
  rotate_left
  · have hg' : goodS ls = false := by simpa using hg
    have HD : Hid (dwn res ls = []) := if_neg fun h => hg h.1
    rw [hg']
    go_wp2_with fail
    refine (f9 la lc res ls _ hl' HS2.out).mono ?_
    rw [HD.out]
    rintro e w3 ⟨v, rfl, ho3, hb3⟩
    obtain ⟨xa, xc, rfl⟩ : ∃ xa xc, v = .slice xa 0 xc := form_a ho3
    have HX3 := hid (HX2.out.trans (hb3.mono HX2.out.size))
    clear hb3 ho3
    go_wp2
    go_ret
    exact ⟨rfl, HX3.out⟩
  rw [hg]
  by_cases hs : ResP res
  rotate_left
  · have HD : Hid (dwn res ls = []) := if_neg fun h => hs h.2
    have hs' : res < 1 ∨ 1000000 < res := by unfold ResP at hs; omega
    rcases hs' with hs' | hs'
    · go_wp2_with fail
      refine (f9 la lc res ls _ hl' HS2.out).mono ?_
      rw [HD.out]
      rintro e w3 ⟨v, rfl, ho3, hb3⟩
      obtain ⟨xa, xc, rfl⟩ : ∃ xa xc, v = .slice xa 0 xc := form_a ho3
      have HX3 := hid (HX2.out.trans (hb3.mono HX2.out.size))
      clear hb3 ho3
      go_wp2
      go_ret
      exact ⟨rfl, HX3.out⟩
    · have hs2 : ¬ res < 1 := by omega
      go_wp2_with fail
      refine (f9 la lc res ls _ hl' HS2.out).mono ?_
      rw [HD.out]
      rintro e w3 ⟨v, rfl, ho3, hb3⟩
      obtain ⟨xa, xc, rfl⟩ : ∃ xa xc, v = .slice xa 0 xc := form_a ho3
      have HX3 := hid (HX2.out.trans (hb3.mono HX2.out.size))
      clear hb3 ho3
      go_wp2
      go_ret
      exact ⟨rfl, HX3.out⟩
  have HRP := hid hs
  have HG := hid hg
  obtain ⟨s1, s2⟩ := hs
  have HF := hid (fit_of hg HVf)
  have HRr := hid (rr_of (good_s hg) HF.out)
  clear r0 r1 hg
  obtain ⟨D, hD⟩ : ∃ D, D = dwn res ls := ⟨_, rfl⟩
  have HD := hid hD
  have HDE : Hid (D = fw (winOf res) (ones ls)) := hD.trans (if_pos ⟨HG.out, HRP.out⟩)
  have hDl : D.length ≤ 1048576 := by rw [hD]; exact Nat.le_trans (dwn_len res ls) hl'
  have hDg : goodA res D = true := by rw [HDE.out]; exact good_fw s1 s2 HRr.out
  clear hD
  go_wp2_with fail
  refine (f9 la lc res ls _ hl' HS2.out).mono ?_
  rw [← HD.out]
  rintro e w3 ⟨v, rfl, ho3, hb3⟩
  obtain ⟨da, dc, rfl⟩ := form_a ho3
  have HX3 := hid (HX2.out.trans (hb3.mono HX2.out.size))
  have HS3 := hid (HS2.out.below hb3)
  have HA3 := hid (OwnA.has ho3).2
  clear hb3 ho3 HS2 HX2
  go_wp2_with fail
  refine (f10 da dc res D _ hDl HA3.out).mono ?_
  rw [hDg]
  rintro e w4 ⟨rfl, hb4⟩
  have HX4 := hid (HX3.out.trans (hb4.mono HX3.out.size))
  have HS4 := hid (HS3.out.below hb4)
  have HA4 := hid (HA3.out.below hb4)
  clear hb4 HS3 HX3 HA3
  go_wp2_with fail
  refine (f11 la lc res ls _ hl' HS4.out HF.out).mono ?_
  rw [← HD.out]
  rintro e w5 ⟨v, rfl, ho5, hb5⟩
  obtain ⟨ea, ec, rfl⟩ := form_a ho5
  have HX5 := hid (HX4.out.trans (hb5.mono HX4.out.size))
  have HS5 := hid (HS4.out.below hb5)
  have HA5 := hid (HA4.out.below hb5)
  clear hb5 ho5 HS4 HX4 HA4
  have hrk1 : 1 ≤ res * k := by
    have := Int.mul_le_mul s1 hk1 (by omega) (by omega)
    omega
  have hrk2 : res * k ≤ 1000000000 := by
    have := Int.mul_le_mul s2 hk2 (by omega) (by omega)
    omega
  have ew : wrap64 (res * k) = res * k := by unfold wrap64; omega
  have ew' : IntKind.i64.wrap (res * k) = res * k := by rw [IntKind.wrap_i64]; omega
  by_cases hrk : res * k ≤ 1000000
  · go_wp2_with fail
    obtain ⟨E, hE⟩ : ∃ E, E = dwn (res * k) ls := ⟨_, rfl⟩
    have HE := hid hE
    have HE2 : Hid (dwnA res k D = E) := by rw [HD.out, HE.out]; exact down_again HG.out HF.out HRP.out hk1 hk2 hrk
    have hEl : E.length ≤ 1048576 := by rw [hE]; exact Nat.le_trans (dwn_len _ ls) hl'
    clear hE
    refine (f12 da dc res k D _ hDl HA5.out).mono ?_
    rw [HE2.out]
    rintro e w6 ⟨v, rfl, ho6, hb6⟩
    obtain ⟨xa, xc, rfl⟩ := form_a ho6
    have HX6 := hid (HX5.out.trans (hb6.mono HX5.out.size))
    have HS6 := hid (HS5.out.below hb6)
    have HA6 := hid (HA5.out.below hb6)
    have HP6 := hid (OwnA.has ho6).2
    clear hb6 ho6 HS5 HX5 HA5
    go_wp2_with fail
    (try rw [ew]); (try rw [ew'])
    refine (f9 la lc (res * k) ls _ hl' HS6.out).mono ?_
    rw [← HE.out]
    rintro e w7 ⟨v, rfl, ho7, hb7⟩
    obtain ⟨ya, yc, rfl⟩ := form_a ho7
    have HX7 := hid (HX6.out.trans (hb7.mono HX6.out.size))
    have HS7 := hid (HS6.out.below hb7)
    have HA7 := hid (HA6.out.below hb7)
    have HP7 := hid (HP6.out.below hb7)
    have HQ7 := hid (OwnA.has ho7).2
    clear hb7 ho7 HS6 HX6 HA6 HP6
    generalize hm : E.length = m at *
    have HM := hid hm
    clear hm
    go_wp2
    go_loopw [96] (fun i wr => ∃ j : Nat, j ≤ m ∧ i = .int .i64 j ∧ Below w7.heap.size w7 wr) (fun i _ => m - (intOf i).toNat)
    case atStart => exact ⟨0, Nat.zero_le _, rfl, Below.refl _ _⟩
    case round =>
      obtain ⟨j, hj, rfl, hnx⟩ := hrel
      have HX := hid hnx
      by_cases hlt : j < m
      · rcases HP7.out with hr | ⟨b, off, rfl, hbl, hc⟩
        · exact absurd HM.out (by rw [hr]; simp; omega)
        rcases HQ7.out with hr | ⟨b', off', rfl, hbl', hc'⟩
        · exact absurd HM.out (by rw [hr]; simp; omega)
        obtain ⟨d0, d1, d2, d3, d4, d5, d6, d7⟩ := (hc j (by rw [HM.out]; exact hlt)).below hnx hbl
        obtain ⟨d0', d1', d2', d3', d4', d5', d6', d7'⟩ := (hc' j (by rw [HM.out]; exact hlt)).below hnx hbl'
        have i1 : (j : Int) < (m : Int) := by omega
        clear hc hc' hnx
        generalize E.getD j Agl.a0 = p at *
        obtain ⟨x0, x1, x2, x3, x4, x5, x6, x7⟩ := p
        go_wp2
        go_quiet (fail)
        go_wp2
        go_roundw
        case rel => exact ⟨j + 1, by omega, by go_num, Smp.below_drewN HX.out _⟩
        case measure => simp [intOf]; omega
      · rename World => wl
        have HX5 := hid (HX7.out.trans (hnx.mono HX7.out.size))
        have HS5 := hid (HS7.out.below hnx)
        have HA5 := hid (HA7.out.below hnx)
        clear hnx
        go_wp2_with fail

        refine (zB a1 n1 c1 3 _ (Smp.Bya.below HB1.out HX5.out) (by omega) (by omega)).mono ?_
        rintro e wz ⟨u, rfl, u0, u1, rfl⟩
        go_wp2_with fail
        refine (zB a1 n1 c1 4 _ (Smp.Bya.below HB1.out HX5.out) (by omega) (by omega)).mono ?_
        rintro e wz ⟨v, rfl, v0, v1, rfl⟩
        go_wp2_with fail
        obtain ⟨fr, to_, hfr, hto, f1, f2, f3, f4, f5⟩ := span_of u0 v0 s1 s2
        simp only [← hto]
        simp only [← hfr]
        have HOV : Hid (∀ o, aggOv res D fr to_ o = smpOv ls fr to_ o) := by
          intro o
          rw [HDE.out]
          exact over_same HG.out HRr.out s1 s2 f1 f2 f3 f4 f5
        clear hfr hto f2 f3
        go_loopw [14] (fun i wr => ∃ j : Nat, 1 ≤ j ∧ j ≤ 9 ∧ i = .int .i64 j ∧ Below wz.heap.size wz wr) (fun i _ => 9 - (intOf i).toNat)
        case atStart => exact ⟨1, by omega, by omega, rfl, Below.refl _ _⟩
        case round =>
          obtain ⟨j, j1, hj, rfl, hnx⟩ := hrel
          have HX := hid hnx
          clear hnx
          by_cases hlt : j ≤ 8
          · go_wp2_with fail
            refine (f13 la lc fr to_ j ls _ hl' (HS5.out.below HX.out) hcap).mono ?_
            rintro e w8 ⟨rfl, hb8⟩
            have HX8 := hid (HX.out.trans (hb8.mono HX.out.size))
            clear hb8
            go_wp2_with fail
            refine (f14 da dc res fr to_ j D _ hDl (HA5.out.below HX8.out)).mono ?_
            rw [HOV.out]
            rintro e w9 ⟨rfl, hb9⟩
            have HX9 := hid (HX8.out.trans (hb9.mono HX8.out.size))
            clear hb9
            generalize smpOv ls fr to_ j = rr
            obtain ⟨pp, bb⟩ := rr
            go_wp2
            go_roundw
            case rel => exact ⟨j + 1, by omega, by omega, by go_num, HX9.out⟩
            case measure => simp [intOf]; omega
          · go_wp2
            go_ret
            exact ⟨rfl, HX5.out.trans (HX.out.mono HX5.out.size)⟩
  · go_wp2_with fail

    refine (zB a1 n1 c1 3 _ (Smp.Bya.below HB1.out HX5.out) (by omega) (by omega)).mono ?_
    rintro e wz ⟨u, rfl, u0, u1, rfl⟩
    go_wp2_with fail
    refine (zB a1 n1 c1 4 _ (Smp.Bya.below HB1.out HX5.out) (by omega) (by omega)).mono ?_
    rintro e wz ⟨v, rfl, v0, v1, rfl⟩
    go_wp2_with fail
    obtain ⟨fr, to_, hfr, hto, f1, f2, f3, f4, f5⟩ := span_of u0 v0 s1 s2
    simp only [← hto]
    simp only [← hfr]
    have HOV : Hid (∀ o, aggOv res D fr to_ o = smpOv ls fr to_ o) := by
      intro o
      rw [HDE.out]
      exact over_same HG.out HRr.out s1 s2 f1 f2 f3 f4 f5
    clear hfr hto f2 f3
    go_loopw [14] (fun i wr => ∃ j : Nat, 1 ≤ j ∧ j ≤ 9 ∧ i = .int .i64 j ∧ Below wz.heap.size wz wr) (fun i _ => 9 - (intOf i).toNat)
    case atStart => exact ⟨1, by omega, by omega, rfl, Below.refl _ _⟩
    case round =>
      obtain ⟨j, j1, hj, rfl, hnx⟩ := hrel
      have HX := hid hnx
      clear hnx
      by_cases hlt : j ≤ 8
      · go_wp2_with fail
        refine (f13 la lc fr to_ j ls _ hl' (HS5.out.below HX.out) hcap).mono ?_
        rintro e w8 ⟨rfl, hb8⟩
        have HX8 := hid (HX.out.trans (hb8.mono HX.out.size))
        clear hb8
        go_wp2_with fail
        refine (f14 da dc res fr to_ j D _ hDl (HA5.out.below HX8.out)).mono ?_
        rw [HOV.out]
        rintro e w9 ⟨rfl, hb9⟩
        have HX9 := hid (HX8.out.trans (hb9.mono HX8.out.size))
        clear hb9
        generalize smpOv ls fr to_ j = rr
        obtain ⟨pp, bb⟩ := rr
        go_wp2
        go_roundw
        case rel => exact ⟨j + 1, by omega, by omega, by go_num, HX9.out⟩
        case measure => simp [intOf]; omega
      · go_wp2
        go_ret
        exact ⟨rfl, HX5.out.trans (HX.out.mono HX5.out.size)⟩
end Go.Proofs.Ytpbnneelpdacdaa.Agl
