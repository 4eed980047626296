/- The walk of FnMerged. -/
import Derived.Test.YtfmijboakipooaaUd
namespace Go.Proofs.Ytfmijboakipooaa.Smp
open Go.RowKit Go.Proofs.Ytfmijboakipooaa.Cur

theorem zO {w : World} {b b' : Nat} {v v' : Value} {L : List Sm} (hb : L.length ≤ 1048576) (h : Own w b v L) (h' : Own w b' v' L) :
    Calls Try.prog 10 #[v, v'] w fun e w' => e = .returned (.bool true) ∧ Below w.heap.size w w' := by
  obtain ⟨a, c, rfl⟩ := own_form h
  obtain ⟨a', c', rfl⟩ := own_form h'
  exact f10 a a' c c' L w hb h.has.2 h'.has.2
theorem goodO {w : World} {b : Nat} {v : Value} {L : List Sm} (hb : L.length ≤ 1048576) (h : Own w b v L) :
    Calls Try.prog 8 #[v] w fun e w' => e = .returned (.bool (goodS L)) ∧ Below w.heap.size w w' := by
  obtain ⟨a, c, rfl⟩ := own_form h
  exact f8 a c L w hb h.has.2
theorem mergeO {w : World} {b b' : Nat} {v v' : Value} {L L' : List Sm} (hb : L.length ≤ 1048576) (hb' : L'.length ≤ 1048576) (h : Own w b v L) (h' : Own w b' v' L') :
    Calls Try.prog 9 #[v, v'] w fun e w' => ∃ u, e = .returned u ∧ Own w' w.heap.size u (mrgA L L') ∧ Below w.heap.size w w' := by
  obtain ⟨a, c, rfl⟩ := own_form h
  obtain ⟨a', c', rfl⟩ := own_form h'
  exact f9 a a' c c' L L' w hb hb' h.has.2 h'.has.2 (cap_own h').1 (cap_own h').2
theorem cutO {w : World} {b : Nat} {v : Value} {L : List Sm} (x y : Int) (hb : L.length ≤ 1048576) (h : Own w b v L) :
    Calls Try.prog 11 #[v, .int .i64 x, .int .i64 y] w fun e w' => ∃ u, e = .returned u ∧ Own w' w.heap.size u (cutA L x y) ∧ Below w.heap.size w w' := by
  obtain ⟨a, c, rfl⟩ := own_form h
  exact f11 a c L x y w hb h.has.2 (cap_own h).1
theorem own_one {w : World} {b : Nat} {v : Value} {s : Sm} (h : Own w b v [s]) : ∃ g c, v = .slice (some ⟨g, 0, none⟩) 1 c ∧ g < w.heap.size ∧ w.cell? ⟨g, 0, none⟩ = some (.int .i64 s.1) ∧ w.cell? ⟨g, 1, none⟩ = some (.int .i64 s.2) := by
  rcases h.cases with ⟨h1, _⟩ | ⟨g, c, rfl⟩
  · cases h1
  · obtain ⟨b', off, h1, h2, h3, h4⟩ := has_first h.has.2 (by simp)
    simp only [Option.some.injEq, Addr.mk.injEq, and_true] at h1
    obtain ⟨rfl, rfl⟩ := h1
    exact ⟨g, c, rfl, h2, h3, h4⟩
theorem own_nil {w : World} {b : Nat} {v : Value} (h : Own w b v []) : ∃ a c, v = .slice a 0 c := own_form h

set_option maxRecDepth 100000 in
set_option maxHeartbeats 8000000 in
theorem walkMerged (a a' : Option Addr) (n n' c c' : Nat) (w : World) (h : Byt w a n) (h' : Byt w a' n') (hm : n ≤ maxLen) (hm' : n' ≤ maxLen) :
    Calls Try.prog 3 #[.slice a n c, .slice a' n' c'] w fun e w' => e = .returned (.bool true) ∧ Below w.heap.size w w' := by
  unfold maxLen at hm hm'
  by_cases hn : n ≤ 1048576
  · by_cases hn' : n' ≤ 1048576
    · have HB' := hid h'
      have HBY := hid h
      clear h h'
      go_enter Try.func3, Try.ntmps3
      go_wp2_with fail
      refine (f7 a n c _ HBY.out hn).mono ?_
      rintro e w1 ⟨va, vb, La, Lb, rfl, la, lb, oa, ob, hb1⟩
      have HB1 := hid hb1
      have OA1 := hid oa
      have OB1 := hid ob
      clear oa ob hb1
      go_wp2_with fail
      refine (f7 a' n' c' _ (HB'.out.below HB1.out) hn').mono ?_
      rintro e w2 ⟨vc, vd, Lc, Ld, rfl, lc, ld, oc, _, hb2⟩
      have HB2 := hid (HB1.out.trans (hb2.mono HB1.out.size))
      have OA2 := hid (OA1.out.below hb2)
      have OB2 := hid (OB1.out.below hb2)
      have OC2 := hid oc
      clear oc hb2 OA1 OB1 ld
      go_wp2_with fail
      refine (goodO (by omega) OA2.out).mono ?_
      rintro e w3 ⟨rfl, hb3⟩
      have HB3 := hid (HB2.out.trans (hb3.mono HB2.out.size))
      have OA3 := hid (OA2.out.below hb3)
      have OB3 := hid (OB2.out.below hb3)
      have OC3 := hid (OC2.out.below hb3)
      clear hb3 OA2 OB2 OC2
      by_cases ga : GoodP La
      · rw [show goodS La = true from decide_eq_true ga]
        go_wp2_with fail
        refine (goodO (by omega) OB3.out).mono ?_
        rintro e w4 ⟨rfl, hb4⟩
        have HB4 := hid (HB3.out.trans (hb4.mono HB3.out.size))
        have OA4 := hid (OA3.out.below hb4)
        have OB4 := hid (OB3.out.below hb4)
        have OC4 := hid (OC3.out.below hb4)
        clear hb4 OA3 OB3 OC3
        by_cases gb : GoodP Lb
        · rw [show goodS Lb = true from decide_eq_true gb]
          go_wp2_with fail
          refine (goodO (by omega) OC4.out).mono ?_
          rintro e w5 ⟨rfl, hb5⟩
          have HB5 := hid (HB4.out.trans (hb5.mono HB4.out.size))
          have OA5 := hid (OA4.out.below hb5)
          have OB5 := hid (OB4.out.below hb5)
          have OC5 := hid (OC4.out.below hb5)
          clear hb5 OA4 OB4 OC4
          obtain ⟨aa, ca, rfl⟩ := own_form OA5.out
          obtain ⟨ab, cb, rfl⟩ := own_form OB5.out
          obtain ⟨ac, cc, rfl⟩ := own_form OC5.out
          by_cases gc : GoodP Lc
          · rw [show goodS Lc = true from decide_eq_true gc]
            by_cases hsum : La.length + Lb.length + Lc.length ≤ 2000
            · have sa := ((good_iff La).1 ga).2.2
              have sb := ((good_iff Lb).1 gb).2.2
              have sc := ((good_iff Lc).1 gc).2.2
              have gab := mrg_good ga gb (by omega)
              have gbc := mrg_good gb gc (by omega)
              have lab := mrg_len La Lb
              have lbc := mrg_len Lb Lc
              have labc := mrg_len (mrg La Lb) Lc
              have labc' := mrg_len La (mrg Lb Lc)
              have EAB := hid (mrgA_yes ga gb (by omega))
              have EAA : Hid (mrgA La La = La) := by
                have e := mrg_self sa
                have : mrgA La La = mrg La La := mrgA_yes ga ga (by rw [e]; omega)
                unfold Hid; rw [this, e]
              have EBC := hid (mrgA_yes gb gc (by omega))
              have EL := hid (mrgA_yes gab gc (by omega))
              have ER := hid ((mrgA_yes ga gbc (by omega)).trans (mrg_assoc sa sb sc).symm)
              have GE := hid (mrg_ge La Lb)
              have HGA := hid ga
              have HGB := hid gb
              have MEM : Hid (∀ s ∈ mrg La Lb, cutA La s.1 s.1 = [s] ∨ (cutA La s.1 s.1 = [] ∧ cutA Lb s.1 s.1 = [s])) := by
                intro s hs
                have ea : cutA La s.1 s.1 = cut La s.1 s.1 := if_pos ga
                have eb : cutA Lb s.1 s.1 = cut Lb s.1 s.1 := if_pos gb
                rw [ea, eb]
                rcases (mrg_mem La Lb sa sb s).1 hs with h1 | h1
                · exact .inl (cut_one sa h1)
                · exact .inr ⟨cut_none h1.2, cut_one sb h1.1⟩
              clear ga gb gc sa sb sc gab gbc
              generalize hAB : mrg La Lb = M at *
              generalize hBC : mrg Lb Lc = N at *
              generalize hABC : mrg M Lc = O at *
              clear hAB hBC hABC
              go_wp2_with fail
              refine (mergeO (by omega) (by omega) OA5.out OB5.out).mono ?_
              rintro e w6 ⟨vm, rfl, om, hb6⟩
              rw [EAB.out] at om
              have HB6 := hid (HB5.out.trans (hb6.mono HB5.out.size))
              have OA6 := hid (OA5.out.below hb6)
              have OB6 := hid (OB5.out.below hb6)
              have OC6 := hid (OC5.out.below hb6)
              have OM6 := hid om
              clear hb6 om OA5 OB5 OC5
              go_wp2_with fail
              refine (mergeO (by omega) (by omega) OA6.out OA6.out).mono ?_
              rintro e w7 ⟨vaa, rfl, oaa, hb7⟩
              rw [EAA.out] at oaa
              have HB7 := hid (HB6.out.trans (hb7.mono HB6.out.size))
              have OA7 := hid (OA6.out.below hb7)
              have OB7 := hid (OB6.out.below hb7)
              have OC7 := hid (OC6.out.below hb7)
              have OM7 := hid (OM6.out.below hb7)
              have OAA := hid oaa
              clear hb7 oaa OA6 OB6 OC6 OM6
              go_wp2_with fail
              refine (zO (by omega) OAA.out OA7.out).mono ?_
              rintro e w8 ⟨rfl, hb8⟩
              have HB8 := hid (HB7.out.trans (hb8.mono HB7.out.size))
              have OA8 := hid (OA7.out.below hb8)
              have OB8 := hid (OB7.out.below hb8)
              have OC8 := hid (OC7.out.below hb8)
              have OM8 := hid (OM7.out.below hb8)
              clear hb8 OA7 OB7 OC7 OM7 OAA
              go_wp2_with fail
              refine (mergeO (by omega) (by omega) OM8.out OC8.out).mono ?_
              rintro e w9 ⟨vl, rfl, ol, hb9⟩
              rw [EL.out] at ol
              have HB9 := hid (HB8.out.trans (hb9.mono HB8.out.size))
              have OA9 := hid (OA8.out.below hb9)
              have OB9 := hid (OB8.out.below hb9)
              have OC9 := hid (OC8.out.below hb9)
              have OM9 := hid (OM8.out.below hb9)
              have OL9 := hid ol
              clear hb9 ol OA8 OB8 OC8 OM8
              go_wp2_with fail
              refine (mergeO (by omega) (by omega) OB9.out OC9.out).mono ?_
              rintro e w10 ⟨vn, rfl, on, hb10⟩
              rw [EBC.out] at on
              have HB10 := hid (HB9.out.trans (hb10.mono HB9.out.size))
              have OA10 := hid (OA9.out.below hb10)
              have OB10 := hid (OB9.out.below hb10)
              have OM10 := hid (OM9.out.below hb10)
              have OL10 := hid (OL9.out.below hb10)
              have ON10 := hid on
              clear hb10 on OA9 OB9 OC9 OM9 OL9
              go_wp2_with fail
              refine (mergeO (by omega) (by omega) OA10.out ON10.out).mono ?_
              rintro e w11 ⟨vr, rfl, or', hb11⟩
              rw [ER.out] at or'
              have HB11 := hid (HB10.out.trans (hb11.mono HB10.out.size))
              have OA11 := hid (OA10.out.below hb11)
              have OB11 := hid (OB10.out.below hb11)
              have OM11 := hid (OM10.out.below hb11)
              have OL11 := hid (OL10.out.below hb11)
              have OR11 := hid or'
              clear hb11 or' OA10 OB10 OM10 OL10 ON10
              go_wp2_with fail
              refine (zO (by omega) OL11.out OR11.out).mono ?_
              rintro e w12 ⟨rfl, hb12⟩
              have HB12 := hid (HB11.out.trans (hb12.mono HB11.out.size))
              have OA12 := hid (OA11.out.below hb12)
              have OB12 := hid (OB11.out.below hb12)
              have OM12 := hid (OM11.out.below hb12)
              clear hb12 OA11 OB11 OM11 OL11 OR11
              obtain ⟨am, cm, rfl⟩ := own_form OM12.out
              go_wp2
              go_loopw [79] (fun si wr => ∃ k : Nat, k ≤ M.length ∧ si = .int .i64 k ∧ Hid (Below w12.heap.size w12 wr)) (fun si _ => M.length - (intOf si).toNat)
              case atStart => exact ⟨0, Nat.zero_le _, rfl, Below.refl _ _⟩
              case round =>
                obtain ⟨k, hk, rfl, hnx⟩ := hrel
                by_cases hlt : k < M.length
                · have HSM := hid (MEM.out (M.getD k e0) (by
                    have : M.getD k e0 = M[k] := by simp [hlt]
                    rw [this]; exact List.getElem_mem _))
                  have HOM := hid (OM12.out.below hnx.out)
                  have HOA := hid (OA12.out.below hnx.out)
                  have HOB := hid (OB12.out.below hnx.out)
                  rcases HOM.out.has.2 with hr | ⟨bm, om, rfl, hbm, hcm⟩
                  · rw [hr] at hlt; simp at hlt
                  obtain ⟨d0, d1⟩ := hcm k hlt
                  have i1 : (k : Int) < (M.length : Int) := by omega
                  clear hcm
                  generalize hp : M.getD k e0 = p at *
                  obtain ⟨s, t⟩ := p
                  simp only at d0 d1
                  clear hp
                  have HX0 := hid (heap_alloc_new wr (.cells #[.int .i64 s, .int .i64 t] 30))
                  have HA0 := hid ((Below.refl wr.heap.size wr).alloc (Nat.le_refl _) (.cells #[.int .i64 s, .int .i64 t] 30))
                  have HOA0 := hid (HOA.out.below HA0.out)
                  have HOB0 := hid (HOB.out.below HA0.out)
                  go_wp2_with fail
                  refine (cutO s s (by omega) HOA0.out).mono ?_
                  rintro e w14 ⟨vx, rfl, ox, hb14⟩
                  have HB14 := hid (hnx.out.trans ((HA0.out.trans (hb14.mono HA0.out.size)).mono hnx.out.size))
                  have HOB1 := hid (HOB0.out.below hb14)
                  have hx1 := box_below HX0.out hb14
                  have HX1 := hid hx1
                  have HOX := hid ox
                  have x0 := two0 hx1
                  have x1 := two1 hx1
                  clear hb14 ox hx1 HOA0 HOB0
                  go_wp2_with fail
                  refine (cutO s s (by omega) HOB1.out).mono ?_
                  rintro e w15 ⟨vy, rfl, oy, hb15⟩
                  have HB15 := hid (HB14.out.trans (hb15.mono HB14.out.size))
                  have HOX1 := hid (HOX.out.below hb15)
                  have HOY1 := hid oy
                  have hx2 := box_below HX1.out hb15
                  have y0 := two0 hx2
                  have y1 := two1 hx2
                  clear hb15 oy hx2 HOB1 HOX HX1 x0 x1
                  rcases HSM.out with h1 | ⟨h1, h2⟩
                  · rw [h1] at HOX1
                    obtain ⟨gx, cx, rfl, lx, q0, q1⟩ := own_one HOX1.out
                    obtain ⟨ay, cy, rfl⟩ := own_form HOY1.out
                    go_wp2
                    go_quiet (fail)
                    go_wp2
                    go_roundw
                    case rel => exact ⟨k + 1, by omega, by go_num, below_drewN HB15.out _⟩
                    case measure => simp [intOf]; omega
                  · rw [h1] at HOX1
                    rw [h2] at HOY1
                    obtain ⟨ax, cx, rfl⟩ := own_nil HOX1.out
                    obtain ⟨gy, cy, rfl, ly, q0, q1⟩ := own_one HOY1.out
                    go_wp2
                    go_quiet (fail)
                    go_wp2
                    go_roundw
                    case rel => exact ⟨k + 1, by omega, by go_num, below_drewN HB15.out _⟩
                    case measure => simp [intOf]; omega
                · obtain ⟨g1, g2⟩ := GE.out
                  go_wp2
                  go_ret
                  exact ⟨rfl, HB12.out.trans (hnx.out.mono HB12.out.size)⟩
            · go_wp2
              go_ret
              exact ⟨rfl, HB5.out⟩
          · rw [show goodS Lc = false from decide_eq_false gc]
            go_wp2
            go_ret
            exact ⟨rfl, HB5.out⟩
        · rw [show goodS Lb = false from decide_eq_false gb]
          go_wp2
          go_ret
          exact ⟨rfl, HB4.out⟩
      · rw [show goodS La = false from decide_eq_false ga]
        go_wp2
        go_ret
        exact ⟨rfl, HB3.out⟩
    · go_enter Try.func3, Try.ntmps3
      go_wp2
      go_ret
      exact ⟨rfl, Below.refl _ _⟩
  · go_enter Try.func3, Try.ntmps3
    go_wp2
    go_ret
    exact ⟨rfl, Below.refl _ _⟩
end Go.Proofs.Ytfmijboakipooaa.Smp
