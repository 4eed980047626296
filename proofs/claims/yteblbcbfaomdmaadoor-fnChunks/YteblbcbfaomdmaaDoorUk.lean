/- The walk of FnChunks. -/
import Derived.Test.YteblbcbfaomdmaaDoorUi
import Derived.Test.YteblbcbfaomdmaaDoorZi
import Derived.Deep.CutRange
namespace Go.Proofs.YteblbcbfaomdmaaDoor.Chk
open Go.RowKit Go.Proofs.YteblbcbfaomdmaaDoor.Bts
open Go.Proofs.YteblbcbfaomdmaaDoor.Smp hiding hid ret_int below_drewN

/-- The cells of a sample. -/
abbrev S2s (b o : Nat) (t v : Int) (w' : World) : Prop := w'.cell? ⟨b, o, none⟩ = some (.int .i64 t) ∧ w'.cell? ⟨b, o + 1, none⟩ = some (.int .i64 v)
theorem s2s_b {b o : Nat} {t v : Int} {w w' : World} (hl : b < w.heap.size) (h : S2s b o t v w) (hb : Below w.heap.size w w') : S2s b o t v w' :=
  ⟨(hb.cell (p := ⟨b, o, none⟩) hl).trans h.1, (hb.cell (p := ⟨b, o + 1, none⟩) hl).trans h.2⟩
theorem goodS_iff {L : List Sm} (h : goodS L = true) : GoodP L := by unfold goodS at h; exact of_decide_eq_true h
theorem goodS_no {L : List Sm} (h : goodS L = false) : ¬ GoodP L := by unfold goodS at h; exact of_decide_eq_false h
theorem bya_below {w w' : World} {a : Option Addr} {n : Nat} (h : Smp.Bya w a n) (hb : Below w.heap.size w w') : Smp.Bya w' a n := h.below hb

set_option maxRecDepth 100000 in
set_option maxHeartbeats 8000000 in
theorem walkChunks (a a' : Option Addr) (n n' c c' : Nat) (w : World) (hA : Smp.Bya w a n) (hA' : Smp.Bya w a' n') (hc : Cls w) (ht : Tab w) :
    Calls Tryd.prog 3 #[.slice a n c, .slice a' n' c'] w fun e w' => e = .returned (.bool true) ∧ Below w.heap.size w w' := by
  obtain ⟨i0, hi, hz0, hz1, hz2⟩ := info_parts infoS
  have hw2 : 2 ≤ w.heap.size := World.block_lt_of_cell? w _ (ht 0 (by decide))
  have HA := hid hA
  have HA' := hid hA'
  have HC := hid hc
  have HT := hid ht
  clear hA hA' hc ht
  by_cases hn : n ≤ 1048576
  · by_cases hn' : n' ≤ 1048576
    · have g1 : ¬ (1048576 : Int) < (n : Int) := by omega
      have g2 : ¬ (1048576 : Int) < (n' : Int) := by omega
      go_enter Tryd.func3, Tryd.ntmps3
      go_wp2_with fail
      refine (Smp.f8 a n c _ HA.out hn).mono ?_
      rintro e w1 ⟨v, L, rfl, hl, ho, hb1, HVF⟩
      obtain ⟨av, cv, rfl⟩ := own_form ho
      have HO1 := hid ho
      have HL1 := hid (Smp.Own.has ho).2
      have hcap := (Smp.cap_own ho).1
      have HB1 := hid hb1
      clear ho hb1 g1 g2
      go_wp2_with fail
      refine (f9 av cv L _ (by omega) HL1.out (HC.out.below HB1.out) (HT.out.bel HB1.out hw2) (Nat.le_trans hw2 HB1.out.size)).mono ?_
      rintro e w2' ⟨u, rfl, ho2, hb2⟩
      obtain ⟨ba, bn, bc, rfl, hrow⟩ := ho2
      have hbn := row_len hrow
      obtain ⟨w2, hw2e⟩ : ∃ w2, w2 = w2'.alloc (.cells #[.slice ba bn bc, .int .i64 ((packOf L).2 : Int)] 26) := ⟨_, rfl⟩
      obtain ⟨xb, hxb⟩ : ∃ xb, xb = w2'.heap.size := ⟨_, rfl⟩
      have hal := (Below.refl w2'.heap.size w2').alloc (Nat.le_refl _) (.cells #[.slice ba bn bc, .int .i64 ((packOf L).2 : Int)] 26)
      have hb12 : Below w1.heap.size w1 w2 := by rw [hw2e]; exact hb2.trans (hal.mono hb2.size)
      have HB2 := hid (HB1.out.trans (hb12.mono HB1.out.size))
      have HL2 := hid (HL1.out.below hb12)
      have BX2 : Hid (w2.heap[xb]? = some (.cells #[.slice ba bn bc, .int .i64 ((packOf L).2 : Int)] 26 (0, 0))) := by unfold Hid; rw [hw2e, hxb]; exact heap_alloc_new _ _
      have P2 : Hid (w2.ownsRow w1.heap.size 5 1 (.slice ba bn bc) bn ((packOf L).1.map (Value.int .u8))) := by unfold Hid; rw [hw2e]; exact own_below hrow hal
      have HW2 := hid hw2e
      have HXB := hid hxb
      clear hrow hb2 hal hb12 hw2e hxb HL1 HO1
      go_wp2_with fail
      rw [← HW2.out, ← HXB.out]
      clear HW2 HXB
      refine (f10 av cv L _ (by omega) HL2.out).mono ?_
      rintro e w3 ⟨rfl, hb3⟩
      have HB3 := hid (HB2.out.trans (hb3.mono HB2.out.size))
      have HL3 := hid (HL2.out.below hb3)
      have BX3 := hid (box_below BX2.out hb3)
      have P3 := hid (own_below P2.out hb3)
      clear hb3 HL2 BX2 P2
      cases hgs : goodS L with
      | false =>
        have hz : (packOf L).2 = 0 := by unfold packOf; rw [if_neg (fun h => goodS_no hgs h.1)]
        have y1 := Smp.two1 BX3.out
        rw [hz] at y1
        go_wp2
        go_ret
        exact ⟨rfl, HB3.out⟩
      | true =>
        by_cases h120 : L.length ≤ 120
        · have HG := hid (goodS_iff hgs)
          have h120' : ¬ (120 : Int) < (L.length : Int) := by omega
          have y0 := Smp.two0 BX3.out
          have y1 := Smp.two1 BX3.out
          have HPG := hid (packOf_G HG.out h120)
          have HDK := hid (dk_pack hbn HPG.out.1)
          have HUN := hid (fun (W : World) (hh : Byt.Has W ba (packOf L).1) (hb : Below w.heap.size w W) => f11a ba bn bc ((packOf L).2 : Int) (packOf L).1 W HDK.out hh (HC.out.below hb) (HT.out.bel hb hw2) (Nat.le_trans hw2 hb.size))
          have HCN := hid (fun (W : World) (hh : Byt.Has W ba (packOf L).1) (hb : Below w.heap.size w W) => f13 ba bn bc ((packOf L).2 : Int) (packOf L).1 W HDK.out hh (HC.out.below hb) (HT.out.bel hb hw2) (Nat.le_trans hw2 hb.size))
          have HGB := hid (fun (W : World) (hh : Byt.Has W ba (packOf L).1) => f14 ba bn bc ((packOf L).2 : Int) (packOf L).1 W hbn HDK.out.le hh HDK.out.byte)
          rw [unp_pack HG.out h120 HVF.out] at HUN
          rw [cnt_pack HG.out h120 HVF.out] at HCN
          rw [good_of_G HPG.out.1 HPG.out.2] at HGB
          obtain ⟨p, hp⟩ : ∃ p, p = packOf L := ⟨_, rfl⟩
          rw [← hp] at HUN HCN HGB y1 hbn
          have HPE := hid hp
          rw [← hp] at P3 BX3
          clear hp HDK
          go_wp2_with fail
          clear y0 y1
          refine (HUN.out _ (row_has P3.out) HB3.out).mono ?_
          rintro e w4 ⟨x0, rfl, ho4, hb4⟩
          obtain ⟨xa, xc, rfl⟩ := own_form ho4
          have HB4 := hid (HB3.out.trans (hb4.mono HB3.out.size))
          have HL4 := hid (HL3.out.below hb4)
          have BX4 := hid (box_below BX3.out hb4)
          have P4 := hid (own_below P3.out hb4)
          have X4 := hid (Smp.Own.has ho4).2
          clear hb4 ho4 HL3 BX3 P3
          go_wp2_with fail
          refine (Smp.f12 xa av xc cv L _ (by omega) X4.out HL4.out).mono ?_
          rintro e w5 ⟨rfl, hb5⟩
          have HB5 := hid (HB4.out.trans (hb5.mono HB4.out.size))
          have HL5 := hid (HL4.out.below hb5)
          have BX5 := hid (box_below BX4.out hb5)
          have P5 := hid (own_below P4.out hb5)
          clear hb5 HL4 BX4 P4 X4
          have y0 := Smp.two0 BX5.out
          have y1 := Smp.two1 BX5.out
          go_wp2_with fail
          clear y0 y1
          refine (HCN.out _ (row_has P5.out) HB5.out).mono ?_
          rintro e w6 ⟨rfl, hb6⟩
          have HB6 := hid (HB5.out.trans (hb6.mono HB5.out.size))
          have HL6 := hid (HL5.out.below hb6)
          have BX6 := hid (box_below BX5.out hb6)
          have P6 := hid (own_below P5.out hb6)
          clear hb6 HL5 BX5 P5
          have y0 := Smp.two0 BX6.out
          have y1 := Smp.two1 BX6.out
          go_wp2_with fail
          clear y0 y1
          refine (HGB.out _ (row_has P6.out)).mono ?_
          rintro e w7 ⟨rfl, hb7⟩
          have HB7 := hid (HB6.out.trans (hb7.mono HB6.out.size))
          have HL7 := hid (HL6.out.below hb7)
          have BX7 := hid (box_below BX6.out hb7)
          have P7 := hid (own_below P6.out hb7)
          clear hb7 HL6 BX6 P6 HUN HCN HGB
          go_upto_if 66 with fail
          go_cut [10] from 66 to 90 (fun s10 wx => s10 = s10 ∧ Hid (Below w.heap.size w wx))
          case first =>
            by_cases h0 : L.length = 0
            · have h0' : ¬ (0 : Int) < (L.length : Int) := by omega
              clear h0
              go_wp2
              go_meet
              exact ⟨trivial, HB7⟩
            · obtain ⟨m, hm⟩ : ∃ m, L.length = m + 1 := ⟨L.length - 1, by omega⟩
              have hm' : (0 : Int) < (L.length : Int) := by omega
              have q1 : IntKind.i64.wrap ((L.length : Int) - 1) = (m : Int) := by rw [IntKind.wrap_i64]; omega
              have q2 : (0 : Int) ≤ (m : Int) := by omega
              have q5 : (m : Int) ≤ (cv : Int) := by omega
              have q6 : (m : Int) < (L.length : Int) := by omega
              have q7 : ¬ (m : Int) < 0 := by omega
              have q8 : ¬ (cv : Int) < (m : Int) := by omega
              have q3 : m ≤ cv := by omega
              have q4 : m < L.length := by omega
              rcases HL7.out with h9 | ⟨b, off, rfl, hbl, hcs⟩
              · rw [h9] at hm; simp at hm
              obtain ⟨t, v, htv⟩ : ∃ t v, L.getD m e0 = (t, v) := ⟨_, _, rfl⟩
              have HSS : Hid (S2s b (off + m * 2) t v w7) := by have h := hcs m q4; rw [htv] at h; exact h
              have HL8 : Hid (HasS w7 (some ⟨b, off, none⟩) L) := .inr ⟨b, off, rfl, hbl, hcs⟩
              have hlt : (L.take m).length = m := by simp; omega
              have HPM := hid (fun (W : World) (hh : HasS W (some ⟨b, off, none⟩) (L.take m)) (hb : Below w.heap.size w W) => f9 (some ⟨b, off, none⟩) cv (L.take m) W (by omega) hh (HC.out.below hb) (HT.out.bel hb hw2) (Nat.le_trans hw2 hb.size))
              rw [hlt] at HPM
              have HGM := hid (packOf_G (take_good m (by omega) HG.out) (by omega))
              have HAM := hid (fun (W : World) (pa : Option Addr) (pn pc : Nat) (hl : (packOf (L.take m)).1.length = pn) (hh : Byt.Has W pa (packOf (L.take m)).1) (hb : Below w.heap.size w W) => f15 pa pn pc ((packOf (L.take m)).2 : Int) (packOf (L.take m)).1 t v W (dk_pack hl HGM.out.1) hh (HC.out.below hb) (HT.out.bel hb hw2) (Nat.le_trans hw2 hb.size))
              have hap := app_pack hm HG.out h120 HVF.out
              rw [htv, ← HPE.out] at hap
              rw [hap] at HAM
              have HM := hid hm
              clear hm hap hcs htv hlt h0
              go_upto_region 12 with fail
              go_cut [10] from 66 to 77 (fun s10 wx => ∃ X ya yn yc, s10 = .pointer (some ⟨X, 0, none⟩) ∧ Hid (App w7 X ya yn yc p wx))
              case first =>
                go_wp2_with fail
                go_region_held3 (fun w' => S2s b (off + m * 2) t v w') (first | exact HSS.out | assumption | exact s2s_b hbl HSS.out ((Below.refl _ w7).alloc (Nat.le_refl _) _) | exact s2s_b hbl HSS.out ((Below.refl _ w7).alloc (Nat.le_refl _) _).drew | exact s2s_b hbl HSS.out (hb13.alloc hb13.size _) | exact s2s_b hbl HSS.out (hb14.alloc hb14.size _) | exact s2s_b hbl HSS.out (hb14.setCell (p := ⟨_, 0, none⟩) hXl _) | exact s2s_b hbl HSS.out ((hb14.setCell (p := ⟨_, 0, none⟩) hXl _).setCell (p := ⟨_, 1, none⟩) hXl _)) (first | (go_at_call 9; refine (HPM.out (World.drew _) (has_take m (by have := HM.out; omega) (HL8.out.below (Below.refl _ _).drew)) HB7.out.drew).mono ?_; rintro e w3 ⟨u, rfl, ho3, hb3⟩; obtain ⟨pa, pn, pc, rfl, prow⟩ := ho3; have hb13 : Below w7.heap.size w7 w3 := Bts.below_drew hb3; have hs3 := s2s_b hbl HSS.out hb13) | (go_at_call 9; have hbA := (Below.refl _ w7).alloc (Nat.le_refl _) (.cells #[.slice none 0 0, .int .i64 0] 26); refine (HPM.out (World.drew _) (has_take m (by have := HM.out; omega) ((HL8.out.below hbA).below (Below.refl _ _).drew)) (HB7.out.alloc HB7.out.size (.cells #[.slice none 0 0, .int .i64 0] 26)).drew).mono ?_; rintro e w3 ⟨u, rfl, ho3, hb3⟩; obtain ⟨pa, pn, pc, rfl, prow⟩ := ho3; have hb13 : Below w7.heap.size w7 w3 := hbA.trans ((Bts.below_drew hb3).mono hbA.size); have hs3 := s2s_b hbl HSS.out hb13; have hX3 := box_below (heap_alloc_new w7 (.cells #[.slice none 0 0, .int .i64 0] 26)) (Bts.below_drew hb3); have hXl := Nat.le_refl w7.heap.size) | (go_at_call 15; have hX3' := hX3; refine (HAM.out w3 pa pn pc (row_len prow) (row_has prow) (HB7.out.trans (hb13.mono HB7.out.size))).mono ?_; rintro e w4 ⟨u, rfl, ho4, hb4⟩; obtain ⟨va, vn, vc, rfl, how⟩ := ho4; have hb14 : Below w7.heap.size w7 w4 := hb13.trans (hb4.mono hb13.size); have hs4 := s2s_b hbl HSS.out hb14; have hXl := hXl; have hX4 := box_below hX3 hb4; have hx0 := cell_at hX4 0; have hx1 := cell_at hX4 1; have hf0 := froz_at hX4 0; have hf1 := froz_at hX4 1; have HAP := hid (app_set hX4 hXl hb14 (own_base how hb13.size))) | (go_at_call 15; refine (HAM.out w3 pa pn pc (row_len prow) (row_has prow) (HB7.out.trans (hb13.mono HB7.out.size))).mono ?_; rintro e w4 ⟨u, rfl, ho4, hb4⟩; obtain ⟨va, vn, vc, rfl, how⟩ := ho4; have hb14 : Below w7.heap.size w7 w4 := hb13.trans (hb4.mono hb13.size); have hs4 := s2s_b hbl HSS.out hb14; have HAP := hid (app_new hb14 (own_base how hb13.size))) | (go_at_call 15; have hal3 := (Below.refl _ w3).alloc (Nat.le_refl _) (.cells #[.slice none 0 0, .int .i64 0] 26); have hb1A := hb13.alloc hb13.size (.cells #[.slice none 0 0, .int .i64 0] 26); refine (HAM.out (w3.alloc (.cells #[.slice none 0 0, .int .i64 0] 26)) pa pn pc (row_len prow) (row_has (own_below prow hal3)) (HB7.out.trans (hb1A.mono HB7.out.size))).mono ?_; rintro e w4 ⟨u, rfl, ho4, hb4⟩; obtain ⟨va, vn, vc, rfl, how⟩ := ho4; have hb14 : Below w7.heap.size w7 w4 := hb1A.trans (hb4.mono hb1A.size); have hs4 := s2s_b hbl HSS.out hb14; have hXl := hb13.size; have hX4 := box_below (heap_alloc_new w3 (.cells #[.slice none 0 0, .int .i64 0] 26)) hb4; have hx0 := cell_at hX4 0; have hx1 := cell_at hX4 1; have hf0 := froz_at hX4 0; have hf1 := froz_at hX4 1; have HAP := hid (app_set hX4 hXl hb14 (own_base how hb1A.size))))
                all_goals (go_wp2; go_meet; exact ⟨_, _, _, _, rfl, HAP⟩)
              case rest =>
              obtain ⟨xy, ya, yn, yc, rfl, HAP⟩ := hcut
              rename World => w8
              have BX8 := hid (box_below BX7.out HAP.out.bel)
              have P8 := hid (own_below P7.out HAP.out.bel)
              have HB8 := hid (HB7.out.trans (HAP.out.bel.mono HB7.out.size))
              have hyn := row_len HAP.out.row
              have y0 := Smp.two0 BX8.out
              have y1 := Smp.two1 BX8.out
              have z0 := Smp.two0 HAP.out.x
              have z1 := Smp.two1 HAP.out.x
              have hpp : ((p.2 : Int) != (p.2 : Int)) = false := by simp
              clear q1 q2 q3 q4 q5 q6 q7 q8 HSS HPM HAM HGM
              go_wp2_with fail
              refine (f16 ya ba yn bn yc bc p.1 _ hyn hbn (row_has HAP.out.row) (row_has P8.out)).mono ?_
              rintro e w9 ⟨rfl, rfl⟩
              go_wp2
              go_meet
              exact ⟨trivial, HB8⟩
          case rest =>
            rename World => w8
            have HB8 := hcut.2
            clear hcut HB7 HL7 BX7 P7
            go_wp2_with fail
            refine (zByteI a' n' c' 0 _ (bya_below HA'.out (Below.mono HB8.out (Nat.le_refl _))) (by omega) (by omega)).mono ?_
            rintro e w9 ⟨z, rfl, zz0, zz1, rfl⟩
            go_wp2_with fail
            refine (f18 a' n' c' _ (bya_below HA'.out HB8.out)).mono ?_
            rintro e w10 ⟨x, rfl, HFX, rfl⟩
            have HFX' := hid HFX
            clear HFX
            obtain ⟨st, hst⟩ : ∃ st, st = 1 + z % 64 := ⟨_, rfl⟩
            have hst1 : 1 ≤ st := by omega
            have hst2 : st ≤ 64 := by omega
            have HST := hid hst
            go_wp2
            rw [← HST.out]
            clear hst
            go_loopw [13, 14] (fun so si wr => ∃ k : Nat, k ≤ 120 ∧ si = .int .i64 k ∧ Smp.Own wr w10.heap.size so (steady st x k) ∧ Below w10.heap.size w10 wr) (fun _ si _ => 120 - (intOf si).toNat)
            case atStart => exact ⟨0, by omega, rfl, Smp.Own.nil _ _, Below.refl _ _⟩
            case round =>
              obtain ⟨k, hk, rfl, hown, hnx⟩ := hrel
              have HX := hid hnx
              have HO := hid hown
              have hL2 := steady_len st x k
              obtain ⟨ao, co, rfl⟩ := own_form hown
              rw [hL2] at HO
              clear hown hnx
              by_cases hlt : k < 120
              · have hlt' : (k : Int) < 120 := by omega
                have hb0 : 0 ≤ (k : Int) * st := Int.mul_nonneg (by omega) (by omega)
                have hb1 : (k : Int) * st ≤ 120 * 64 := Int.mul_le_mul (by omega) hst2 (by omega) (by omega)
                have e3 : IntKind.i64.wrap ((k : Int) * st) = (k : Int) * st := by rw [IntKind.wrap_i64]; omega
                have HE3 : Hid (wrap64 ((k : Int) * st) = (k : Int) * st) := by unfold Hid wrap64; omega
                rw [hL2]
                go_wp2_with (at_builtin; refine wpList_append_own _ rfl (.tmp 101) (.tmp 107) 23 rfl w10.heap.size 36 i0 (.agg #[.int .i64 0, .int .i64 0]) 2 16 Tryd.underlying23 hi hz0 hz1 hz2 rfl (by decide) _ _ _ rfl (World.ownsRow.alloc HO.out _) ⟨wr.heap.size, 0, none⟩ 1 1 _ rfl rfl (Smp.two_new _ _ _ _) ?d2 ?d3 ?d4 ?d5 ?_)
                case d2 => intro u hu; simp at hu; rcases hu with rfl | rfl <;> rfl
                case d3 => rw [hL2]; unfold maxLen; omega
                case d4 => rw [hL2]; omega
                case d5 => have := HX.out.size; simp; omega
                intro v1 w3 hown1 hgr1 _
                have HO2 : Hid (Smp.Own w3 w10.heap.size v1 (steady st x (k + 1))) := by unfold Hid; rw [steady_snoc]; exact Smp.Own.snoc (p := ((k : Int) * st, x)) (by rw [hL2]; exact hown1)
                have HX2 := hid ((HX.out.alloc HX.out.size _).grown hgr1 (by have := HX.out.size; simp; omega) (fun k hk => (World.ownsRow.lt HO.out k hk).1))
                clear hown1 hgr1
                go_wp2
                go_roundw
                case rel => exact ⟨k + 1, by omega, by go_num, HO2.out, HX2.out⟩
                case measure => simp [intOf]; omega
              · have hlt' : ¬ (k : Int) < 120 := by omega
                obtain rfl : k = 120 := by omega
                have hszI : ((packOf (steady st x 120)).2 : Int) = 358 := by
                  have h := (steady_pack st x hst1 hst2 120 (by omega) 120 (by omega) (by omega)).1
                  unfold packOf
                  rw [if_pos ⟨steady_good st x hst1 hst2, by rw [steady_len]; omega⟩, steady_len, h]; rfl
                have HBX := hid (HB8.out.trans (HX.out.mono HB8.out.size))
                have HSS := hid (Smp.Own.has HO.out).2
                have HPS := hid (f9 ao co (steady st x 120) wr (by rw [steady_len]; omega) HSS.out (HC.out.below HBX.out) (HT.out.bel HBX.out hw2) (Nat.le_trans hw2 HBX.out.size))
                rw [steady_len] at HPS
                rw [hL2]
                go_wp2_with fail
                refine HPS.out.mono ?_
                rintro e w11 ⟨u, rfl, ho11, hb11⟩
                obtain ⟨sa, sn, sc, rfl, _⟩ := ho11
                have HB11 := hid (HBX.out.trans (hb11.mono HBX.out.size))
                clear hb11
                have hfd : ∀ W : World, (Instr.field 26 (.agg #[.slice sa sn sc, .int .i64 358]) 1).run Tryd.prog W = .ok (.int .i64 358) W := fun _ => by kernel_rfl
                go_wp2
                go_ret
                exact ⟨rfl, HB11.out⟩
        · have h120' : (120 : Int) < (L.length : Int) := by omega
          have hz : (packOf L).2 = 0 := by unfold packOf; rw [if_neg (fun h => h120 h.2)]
          have y1 := Smp.two1 BX3.out
          rw [hz] at y1
          go_wp2
          go_ret
          exact ⟨rfl, HB3.out⟩
    · have g1 : ¬ (1048576 : Int) < (n : Int) := by omega
      have g2 : (1048576 : Int) < (n' : Int) := by omega
      go_enter Tryd.func3, Tryd.ntmps3
      go_wp2
      go_ret
      exact ⟨rfl, Below.refl _ _⟩
  · have g1 : (1048576 : Int) < (n : Int) := by omega
    go_enter Tryd.func3, Tryd.ntmps3
    go_wp2
    go_ret
    exact ⟨rfl, Below.refl _ _⟩
end Go.Proofs.YteblbcbfaomdmaaDoor.Chk
