/- The walk of FnDedup. -/
import Derived.Test.YtfmijboakipooaaDdi
namespace Go.Proofs.Ytfmijboakipooaa.Smp.Dfn
open Go.RowKit Go.Proofs.Ytfmijboakipooaa.Cur Go.Proofs.Ytfmijboakipooaa.Smp

/-- What is read where the one ahead is looked at. -/
abbrev SD (w0 : World) (B g o : Nat) (s t p : Int) (w : World) : Prop := w.cell? ⟨B, 0, none⟩ = some (.int .i64 s) ∧ w.cell? ⟨B, 1, none⟩ = some (.int .i64 t) ∧ w.cell? ⟨g, o, none⟩ = some (.int .i64 p) ∧ Below w0.heap.size w0 w
theorem SD.drew {w0 w : World} {B g o : Nat} {s t p : Int} (h : SD w0 B g o s t p w) : SD w0 B g o s t p w.drew := ⟨h.1, h.2.1, h.2.2.1, h.2.2.2.drew⟩
theorem SD.below {w0 w w' : World} {B g o : Nat} {s t p : Int} (hB : B < w0.heap.size) (hg : g < w0.heap.size) (h : SD w0 B g o s t p w) (hw : Below w.heap.size w w') : SD w0 B g o s t p w' := by
  have hs := h.2.2.2.size
  exact ⟨(hw.cell (p := ⟨B, 0, none⟩) (by show B < _; omega)).trans h.1, (hw.cell (p := ⟨B, 1, none⟩) (by show B < _; omega)).trans h.2.1, (hw.cell (p := ⟨g, o, none⟩) (by show g < _; omega)).trans h.2.2.1, h.2.2.2.trans (hw.mono hs)⟩

set_option maxRecDepth 100000 in
set_option maxHeartbeats 8000000 in
theorem walkDedupFn (a : Option Addr) (n c : Nat) (w : World) (h : Byt w a n) (hm : n ≤ maxLen) :
    Calls Try.prog 4 #[.slice a n c] w fun e w' => e = .returned (.bool true) ∧ Below w.heap.size w w' := by
  unfold maxLen at hm
  by_cases hn : n ≤ 1048576
  · have HBY := hid h
    clear h
    go_enter Try.func4, Try.ntmps4
    go_wp2_with fail
    refine (f12 a n c _ HBY.out hn).mono ?_
    rintro e w1 ⟨va, vb, La, Lb, gap, rfl, la, lb, oa, ob, hb1⟩
    have HB1 := hid hb1
    have OA1 := hid oa
    have OB1 := hid ob
    clear oa ob hb1
    go_wp2_with fail
    refine (dedO gap (by omega) (by omega) OA1.out OB1.out).mono ?_
    rintro e w2 ⟨vd, rfl, od, hb2⟩
    have HB2 := hid (HB1.out.trans (hb2.mono HB1.out.size))
    have OA2 := hid (OA1.out.below hb2)
    have OB2 := hid (OB1.out.below hb2)
    have OD2 := hid od
    have HNO := hid (dedA_no (xs := La) (ys := Lb) (gap := gap))
    clear od hb2 OA1 OB1
    go_wp2_with fail
    refine (goodO (by omega) OA2.out).mono ?_
    rintro e w3 ⟨rfl, hb3⟩
    have HB3 := hid (HB2.out.trans (hb3.mono HB2.out.size))
    have OA3 := hid (OA2.out.below hb3)
    have OB3 := hid (OB2.out.below hb3)
    have OD3 := hid (OD2.out.below hb3)
    clear hb3 OA2 OB2 OD2
    by_cases ga : GoodP La
    · rw [show goodS La = true from decide_eq_true ga]
      go_wp2_with fail
      refine (goodO (by omega) OB3.out).mono ?_
      rintro e w4 ⟨rfl, hb4⟩
      have HB4 := hid (HB3.out.trans (hb4.mono HB3.out.size))
      have OA4 := hid (OA3.out.below hb4)
      have OB4 := hid (OB3.out.below hb4)
      have OD4 := hid (OD3.out.below hb4)
      clear hb4 OA3 OB3 OD3
      by_cases gb : GoodP Lb
      · rw [show goodS Lb = true from decide_eq_true gb]
        by_cases h3 : 0 ≤ gap
        · by_cases h4 : gap ≤ 1000000
          · have hdl := dedT_len gap La Lb (good_pw gb)
            have ED := hid (dedA_yes ga gb h3 h4 (by omega))
            have EAA : Hid (dedA La La gap = La) := by
              have e := dedT_self (gap := gap) (good_pw ga)
              have : dedA La La gap = dedT gap La La := dedA_yes ga ga h3 h4 (by rw [e]; omega)
              unfold Hid; rw [this, e]
            have gd := dedT_good (gap := gap) ga gb (by omega)
            have HCH := hid (chn_at (gap := gap) _ _ (chn_dedT (gap := gap) ga gb))
            have sa := good_pw ga
            have sb := good_pw gb
            have HTMD := hid (good_mem gd)
            have HEM := hid (dedT_empty (gap := gap) (xs := La) (ys := Lb))
            have HBT : Hid (∀ t u : Int, (∀ q, q ∈ La ∨ q ∈ Lb → ¬ (t < q.1 ∧ q.1 < u)) → cutA (mrg La Lb) (t + 1) (u - 1) = []) := fun t u h => cutA_between sa sb h
            have MEM : Hid (∀ s : Sm, s ∈ La ∨ s ∈ Lb → cutA La s.1 s.1 = [s] ∨ (cutA La s.1 s.1 = [] ∧ cutA Lb s.1 s.1 = [s]) ∨ (∃ v, v ≠ s.2 ∧ cutA La s.1 s.1 = [(s.1, v)] ∧ cutA Lb s.1 s.1 = [s])) := by
              intro s hs
              have ea : cutA La s.1 s.1 = cut La s.1 s.1 := if_pos ga
              have eb : cutA Lb s.1 s.1 = cut Lb s.1 s.1 := if_pos gb
              rw [ea, eb]
              rcases hs with h1 | h1
              · exact .inl (cut_one sa h1)
              · rcases cut_at sa s.1 with h2 | ⟨v, h2⟩
                · exact .inr (.inl ⟨h2, cut_one sb h1⟩)
                · by_cases hv : v = s.2
                  · exact .inl (by rw [h2, hv])
                  · exact .inr (.inr ⟨v, hv, h2, cut_one sb h1⟩)
            have HGD := hid (show goodS (dedT gap La Lb) = true from decide_eq_true gd)
            have HML := hid (mrg_len La Lb)
            rw [ED.out] at OD4
            clear ga gb gd sa sb HNO
            generalize dedT gap La Lb = M at *
            obtain ⟨aa, ca, rfl⟩ := own_form OA4.out
            obtain ⟨ab, cb, rfl⟩ := own_form OB4.out
            obtain ⟨am, cm, rfl⟩ := own_form OD4.out
            go_wp2_with fail
            refine (dedO gap (by omega) (by omega) OA4.out OA4.out).mono ?_
            rintro e w5 ⟨vaa, rfl, oaa, hb5⟩
            rw [EAA.out] at oaa
            have HB5 := hid (HB4.out.trans (hb5.mono HB4.out.size))
            have OA5 := hid (OA4.out.below hb5)
            have OB5 := hid (OB4.out.below hb5)
            have OD5 := hid (OD4.out.below hb5)
            have OAA := hid oaa
            clear hb5 oaa OA4 OB4 OD4
            go_wp2_with fail
            refine (zO (by omega) OAA.out OA5.out).mono ?_
            rintro e w6 ⟨rfl, hb6⟩
            have HB6 := hid (HB5.out.trans (hb6.mono HB5.out.size))
            have OA6 := hid (OA5.out.below hb6)
            have OB6 := hid (OB5.out.below hb6)
            have OD6 := hid (OD5.out.below hb6)
            clear hb6 OA5 OB5 OD5 OAA
            go_wp2_with fail
            refine (goodO (by omega) OD6.out).mono ?_
            rw [HGD.out]
            rintro e w7 ⟨rfl, hb7⟩
            have HB7 := hid (HB6.out.trans (hb7.mono HB6.out.size))
            have OA7 := hid (OA6.out.below hb7)
            have OB7 := hid (OB6.out.below hb7)
            have OD7 := hid (OD6.out.below hb7)
            clear hb7 OA6 OB6 OD6
            obtain ⟨eb, hE1, hE2⟩ : ∃ eb : Bool, ((M.length : Int) == 0) = eb ∧ (((La.length : Int) + (Lb.length : Int)) == 0) = eb := by
              refine ⟨_, rfl, ?_⟩
              rw [Bool.eq_iff_iff]
              simp only [beq_iff_eq]
              constructor
              · intro h5
                have h6 : La = [] := List.length_eq_zero_iff.1 (by omega)
                have h7 : Lb = [] := List.length_eq_zero_iff.1 (by omega)
                rw [HEM.out.2 ⟨h6, h7⟩]; rfl
              · intro h5
                have h6 := HEM.out.1 (List.length_eq_zero_iff.1 (by omega : M.length = 0))
                rw [h6.1, h6.2]; rfl
            go_wp2
            clear hE1 hE2
            go_loopw [69] (fun si wr => ∃ k : Nat, k ≤ M.length ∧ si = .int .i64 k ∧ Hid (Below w7.heap.size w7 wr)) (fun si _ => M.length - (intOf si).toNat)
            case atStart => exact ⟨0, Nat.zero_le _, rfl, Below.refl _ _⟩
            case round =>
              obtain ⟨k, hk, rfl, hnx⟩ := hrel
              by_cases hlt : k < M.length
              · have HCK := hid (HCH.out k hlt)
                have HSM := hid (MEM.out (M.getD k e0) (HCK.out.1))
                have HTK : Hid (TimeP (M.getD k e0).1) := HTMD.out _ (by
                  have : M.getD k e0 = M[k] := by simp [hlt]
                  rw [this]; exact List.getElem_mem _)
                have HTP : Hid (0 < k → TimeP (M.getD (k - 1) e0).1) := fun h0 => HTMD.out _ (by
                  have : M.getD (k - 1) e0 = M[k - 1]'(by omega) := by simp [show k - 1 < M.length by omega]
                  rw [this]; exact List.getElem_mem _)
                have HOM := hid (OD7.out.below hnx.out)
                have HOA := hid (OA7.out.below hnx.out)
                have HOB := hid (OB7.out.below hnx.out)
                rcases HOM.out.has.2 with hr | ⟨bm, om, rfl, hbm, hcm⟩
                · rw [hr] at hlt; simp at hlt
                obtain ⟨d0, d1⟩ := hcm k hlt
                have HCP := hid (fun h0 : 0 < k => (hcm (k - 1) (by omega)).1)
                have i1 : (k : Int) < (M.length : Int) := by omega
                clear hcm
                generalize hp : M.getD k e0 = p at *
                obtain ⟨s, t⟩ := p
                simp only at d0 d1
                clear hp
                have HX0 := hid (heap_alloc_new wr (.cells #[.int .i64 s, .int .i64 t] 30))
                have HA0 := hid ((Below.refl wr.heap.size wr).alloc (Nat.le_refl _) (.cells #[.int .i64 s, .int .i64 t] 30))
                have HOA0 := hid (HOA.out.below HA0.out)
                have HOB0 := hid (HOB.out.below HA0.out)
                go_wp2_with fail
                refine (cutO s s (by omega) HOA0.out).mono ?_
                rintro e w14 ⟨vx, rfl, ox, hb14⟩
                have HB14 := hid (HA0.out.trans (hb14.mono HA0.out.size))
                have HOA1 := hid (HOA0.out.below hb14)
                have HOB1 := hid (HOB0.out.below hb14)
                have hx1 := box_below HX0.out hb14
                have HX1 := hid hx1
                have HOX := hid ox
                have x0 := two0 hx1
                have x1 := two1 hx1
                clear hb14 ox hx1 HOA0 HOB0
                go_wp2_with fail
                refine (cutO s s (by omega) HOB1.out).mono ?_
                rintro e w15 ⟨vy, rfl, oy, hb15⟩
                have HB15 := hid (HB14.out.trans (hb15.mono HB14.out.size))
                have HOA2 := hid (HOA1.out.below hb15)
                have HOB2 := hid (HOB1.out.below hb15)
                have HOX1 := hid (HOX.out.below hb15)
                have HOY1 := hid oy
                have hx2 := box_below HX1.out hb15
                have HX2 := hid hx2
                have y0 := two0 hx2
                have y1 := two1 hx2
                clear hb15 oy hx2 HOB1 HOA1 HOX HX1 x0 x1 d0 d1
                go_upto_region 14 with fail
                go_cut [107] from 70 to 140 (fun cc wx => cc = .bool false ∧ Hid (∃ q, wx = w15.drewN q))
                case first =>
                  rcases HSM.out with h1 | ⟨h1, h2⟩ | ⟨v, hv, h1, h2⟩
                  · rw [h1] at HOX1
                    obtain ⟨gx, cx, rfl, lx, q0, q1⟩ := one_at HOX1.out
                    obtain ⟨ay, cy, rfl⟩ := own_form HOY1.out
                    go_quiet (fail)
                    go_wp2
                    go_meet
                    exact ⟨rfl, _, rfl⟩
                  · rw [h1] at HOX1
                    rw [h2] at HOY1
                    obtain ⟨ax, cx, rfl⟩ := own_form HOX1.out
                    obtain ⟨gy, cy, rfl, ly, q0, q1⟩ := one_at HOY1.out
                    go_quiet (fail)
                    go_wp2
                    go_meet
                    exact ⟨rfl, _, rfl⟩
                  · rw [h1] at HOX1
                    rw [h2] at HOY1
                    obtain ⟨gx, cx, rfl, lx, q0, q1⟩ := one_at HOX1.out
                    obtain ⟨gy, cy, rfl, ly, r0, r1⟩ := one_at HOY1.out
                    have hv' : (v == t) = false := beq_eq_false_iff_ne.2 hv
                    simp only at q0 q1 r0 r1
                    go_quiet (fail)
                    go_wp2
                    go_meet
                    exact ⟨rfl, _, rfl⟩
                case rest =>
                obtain ⟨rfl, hwx⟩ := hcut
                obtain ⟨q, hwx⟩ := hwx.out
                have HBq : Hid (Below wr.heap.size wr wc) := by rw [hwx]; exact below_drewN HB15.out _
                have HXq : Hid (wc.heap[wr.heap.size]? = some (.cells #[.int .i64 s, .int .i64 t] 30 (0, 0))) := by rw [hwx]; exact HX2.out
                have HOAq : Hid (Own wc w.heap.size (.slice aa La.length ca) La) := by rw [hwx]; exact own_drewN HOA2.out q
                have HOBq : Hid (Own wc w.heap.size (.slice ab Lb.length cb) Lb) := by rw [hwx]; exact own_drewN HOB2.out q
                have x0 := two0 HXq.out
                have x1 := two1 HXq.out
                have HLB : Hid (wr.heap.size < wc.heap.size) := (Array.getElem?_eq_some_iff.1 HXq.out).1
                have HBM : Hid (bm < wc.heap.size) := Nat.lt_of_lt_of_le hbm HBq.out.size
                clear hwx HOX1 HOY1 HX2 HOA2 HOB2 y0 y1 HSM HB15 HB14 HX0 HA0
                obtain ⟨wd, rfl⟩ : ∃ wd, wd = wc := ⟨_, rfl⟩
                go_upto_region 16 with fail
                go_cut [140] from 70 to 140 (fun cc wx => cc = .bool false ∧ Hid (Below wr.heap.size wr wx))
                case first =>
                  by_cases h0 : k = 0
                  · have z0 : decide (0 < k) = false := decide_eq_false (by omega)
                    clear h0
                    go_quiet (fail)
                    go_wp2
                    go_meet
                    exact ⟨rfl, below_drewN HBq.out _⟩
                  · have h00 : 0 < k := by omega
                    have z0 : decide (0 < k) = true := decide_eq_true h00
                    have hpc := (HBq.out.cell (p := ⟨bm, om + (k - 1) * 2, none⟩) hbm).trans (HCP.out h00)
                    have htp := HTP.out h00
                    have htk := HTK.out
                    have HC3 := hid (HCK.out.2.2 h00).2
                    have HBT2 := hid (HBT.out (M.getD (k - 1) e0).1 s)
                    have hk1 : ((k : Int) - 1) = ((k - 1 : Nat) : Int) := by omega
                    have hw1 : IntKind.i64.wrap ((k : Int) - 1) = ((k - 1 : Nat) : Int) := by rw [IntKind.wrap_i64]; omega
                    have i2 : ((k - 1 : Nat) : Int) < (M.length : Int) := by omega
                    have hmm : k - 1 ≤ 4096 := by omega
                    generalize (M.getD (k - 1) e0).1 = pv at *
                    generalize k - 1 = mm at *
                    have hw0 : IntKind.i64.wrap (mm : Int) = (mm : Int) := by rw [IntKind.wrap_i64]; omega
                    have i3 : (0 : Int) ≤ (mm : Int) := by omega
                    have p0 : 0 ≤ pv := htp.1
                    have p1 : pv ≤ 1000000000000 := htp.2
                    have s0 : 0 ≤ s := htk.1
                    have s1 : s ≤ 1000000000000 := htk.2
                    have hw2 : IntKind.i64.wrap (pv + gap) = pv + gap := by rw [IntKind.wrap_i64]; omega
                    have hw3 : IntKind.i64.wrap (pv + 1) = pv + 1 := by rw [IntKind.wrap_i64]; omega
                    have hw4 : IntKind.i64.wrap (s - 1) = s - 1 := by rw [IntKind.wrap_i64]; omega
                    clear h0 htp htk HTP HTK HCP
                    by_cases h4 : pv + gap < s
                    · have z1 : decide (pv + gap < s) = true := decide_eq_true h4
                      have HE := hid (HBT2.out (HC3.out h4))
                      have HS := hid (show SD wd wr.heap.size bm (om + mm * 2) s t pv wd from ⟨x0, x1, hpc, Below.refl _ _⟩)
                      have HOAd : Hid (Own wd.drew w.heap.size (.slice aa La.length ca) La) := HOAq.out
                      have HOBd : Hid (Own wd.drew w.heap.size (.slice ab Lb.length cb) Lb) := HOBq.out
                      clear hpc x0 x1
                      go_region_held3 (fun x => SD wd wr.heap.size bm (om + mm * 2) s t pv x) (first | exact HS.out.drew | assumption) (first | (go_at_call 15; refine (mrgO (w := wd.drew) (by omega) (by omega) HOAd.out HOBd.out).mono ?_; rintro e w20 ⟨vm, rfl, om20, hb20⟩; have hs20 := SD.below HLB.out HBM.out HS.out.drew hb20; clear hb20) | (go_at_call 14; refine (cutS (pv + 1) (s - 1) (by have := HML.out; omega) om20).mono ?_; rw [HE.out]; rintro e w21 ⟨vc, rfl, oc, hb21⟩; obtain ⟨ac, cc, rfl⟩ := own_form oc; have hs21 := SD.below HLB.out HBM.out hs20 hb21; clear hb21))
                      go_wp2
                      go_meet
                      exact ⟨rfl, HBq.out.trans (hs21.2.2.2.mono HBq.out.size)⟩
                    · have z1 : decide (pv + gap < s) = false := decide_eq_false h4
                      go_quiet (fail)
                      go_wp2
                      go_meet
                      exact ⟨rfl, below_drewN HBq.out _⟩
                case rest =>
                obtain ⟨rfl, hbz⟩ := hcut
                go_wp2
                go_roundw
                case rel => exact ⟨k + 1, by omega, by go_num, hnx.out.trans (hbz.out.mono hnx.out.size)⟩
                case measure => simp [intOf]; omega
              · go_wp2
                go_ret
                exact ⟨rfl, HB7.out.trans (hnx.out.mono HB7.out.size)⟩
          · have HE := hid (HNO.out (fun h => h4 h.2.2.2.1))
            rw [HE.out] at OD4
            obtain ⟨am, cm, rfl⟩ := own_form OD4.out
            clear ga gb
            go_wp2
            go_ret
            exact ⟨rfl, HB4.out⟩
        · have HE := hid (HNO.out (fun h => h3 h.2.2.1))
          rw [HE.out] at OD4
          obtain ⟨am, cm, rfl⟩ := own_form OD4.out
          clear ga gb
          go_wp2
          go_ret
          exact ⟨rfl, HB4.out⟩
      · rw [show goodS Lb = false from decide_eq_false gb]
        have HE := hid (HNO.out (fun h => gb h.2.1))
        rw [HE.out] at OD4
        obtain ⟨am, cm, rfl⟩ := own_form OD4.out
        clear ga gb
        go_wp2
        go_ret
        exact ⟨rfl, HB4.out⟩
    · rw [show goodS La = false from decide_eq_false ga]
      have HE := hid (HNO.out (fun h => ga h.1))
      rw [HE.out] at OD3
      obtain ⟨am, cm, rfl⟩ := own_form OD3.out
      clear ga
      go_wp2
      go_ret
      exact ⟨rfl, HB3.out⟩
  · go_enter Try.func4, Try.ntmps4
    go_wp2
    go_ret
    exact ⟨rfl, Below.refl _ _⟩
end Go.Proofs.Ytfmijboakipooaa.Smp.Dfn
