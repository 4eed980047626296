/- Questions: what the program asks of a selection, an operation, an aggregate. -/
import Derived.Test.YtbdlahhejfamhaaGreatDoorRA7
namespace Go.Proofs.YtbdlahhejfamhaaGreatDoor.Qry
open Go.RowKit
open Go.Proofs.YtbdlahhejfamhaaGreatDoor.Pat (Mt m0 nameL printL goodM HasM FitM ret_bool)
open Go.Proofs.YtbdlahhejfamhaaGreatDoor.Fil (HasT FitT)

def nmL : ByteArray := ⟨#[95, 110, 97, 109, 101]⟩
def sel1 (r : Pl) : Bool := if r.tx.size = 0 then !r.ms.isEmpty else nameL r.tx.data.toList && !wordM r.tx
theorem rs_f0 {r : Pl} (h : sel1 r = false) : false = rSel r := by unfold rSel; unfold sel1 at h; rw [h]; rfl
theorem rs_f4 {r : Pl} {k : Nat} (hk : k < r.ms.length) (h : (r.ms.getD k m0).1 = nmL) : false = rSel r := by
  unfold rSel
  rw [show noName r.ms = false from decide_eq_false fun g => g k hk h]
  simp
theorem rs_f5 {r : Pl} (h : ¬ r.ms.length < 10) : false = rSel r := by unfold rSel; rw [decide_eq_false h]; simp
theorem rs_f6 {r : Pl} (h : goodM r.ms = false) : false = rSel r := by unfold rSel; rw [h]; simp
theorem rs_eq {r : Pl} (h1 : sel1 r = true) (h2 : ∀ i, i < r.ms.length → (r.ms.getD i m0).1 ≠ nmL) (h3 : r.ms.length < 10) (h4 : goodM r.ms = true) : moment r = rSel r := by
  unfold rSel
  unfold sel1 at h1
  rw [h1, show noName r.ms = true from decide_eq_true h2, decide_eq_true h3, h4]
  rfl
theorem s1_a {r : Pl} (h : r.tx.size = 0) : sel1 r = !r.ms.isEmpty := if_pos h
theorem s1_b {r : Pl} (h : ¬ r.tx.size = 0) : sel1 r = (nameL r.tx.data.toList && !wordM r.tx) := if_neg h

set_option maxHeartbeats 8000000 in
set_option maxRecDepth 100000 in
theorem f143 (q : R) (w : World) (ht : Tabs w) (hl : Lst w q) (hf : Ft q) :
    Calls Tryz.prog 143 #[agR q] w fun e w' => e = .returned (.bool (rSel (pl q))) ∧ Below w.heap.size w w' := by
  obtain ⟨kd, nu, st, tx, op, ms, ma, mc, off, fx, att, bo, byy, ns, na, nc, sd, es, ea, ec, kc⟩ := q
  have HT := hid ht
  have HL : Hid (HasM w ma ms) := hl.m
  have HF := hid hf
  have HB0 := hid ((Below.refl w.heap.size w).alloc (Nat.le_refl _) (.cells #[.int .i64 kd, .int .i64 nu, .int .i64 st, .string tx, .int .i64 op, .slice ma ms.length mc, .int .i64 off, .bool fx, .int .i64 att, .bool bo, .int .i64 byy, .slice na ns.length nc, .int .i64 sd, .slice ea es.length ec, .int .i64 kc] 55))
  have HQ0 := hid (heap_alloc_new w (.cells #[.int .i64 kd, .int .i64 nu, .int .i64 st, .string tx, .int .i64 op, .slice ma ms.length mc, .int .i64 off, .bool fx, .int .i64 att, .bool bo, .int .i64 byy, .slice na ns.length nc, .int .i64 sd, .slice ea es.length ec, .int .i64 kc] 55))
  clear ht hl hf
  by_cases e0 : tx.size = 0
  · have HS := hid (s1_a (r := pl ⟨kd, nu, st, tx, op, ms, ma, mc, off, fx, att, bo, byy, ns, na, nc, sd, es, ea, ec, kc⟩) e0)
    have E0 : tx.toList.isEmpty = true := by rw [str_empty]; exact decide_eq_true e0
    clear e0
    by_cases n0 : ms.length = 0
    · have HR : Hid (false = rSel (pl ⟨kd, nu, st, tx, op, ms, ma, mc, off, fx, att, bo, byy, ns, na, nc, sd, es, ea, ec, kc⟩)) := rs_f0 (HS.out.trans (by
        have : ms = [] := List.eq_nil_of_length_eq_zero n0
        subst this; rfl))
      go_enter Tryz.func143, Tryz.ntmps143
      go_wp2
      go_ret
      exact ⟨ret_bool HR.out, (Below.refl _ _).alloc (Nat.le_refl _) _⟩
    · have H1 : Hid (sel1 (pl ⟨kd, nu, st, tx, op, ms, ma, mc, off, fx, att, bo, byy, ns, na, nc, sd, es, ea, ec, kc⟩) = true) := HS.out.trans (by
        cases ms with
        | nil => exact absurd rfl n0
        | cons a r => rfl)
      clear HS
      go_enter Tryz.func143, Tryz.ntmps143
      go_upto_region 3 with fail
      clear E0
      generalize w.alloc (.cells #[.int .i64 kd, .int .i64 nu, .int .i64 st, .string tx, .int .i64 op, .slice ma ms.length mc, .int .i64 off, .bool fx, .int .i64 att, .bool bo, .int .i64 byy, .slice na ns.length nc, .int .i64 sd, .slice ea es.length ec, .int .i64 kc] 55) = WX at *
      have HBX := HB0
      have HQX := HQ0
      obtain ⟨c0, c1, c2, c3, c4, c5, c6, c7, c8, c9, c10, c11, c12, c13, c14⟩ := fifteen HQX.out
      have HM := hid (HL.out.below HBX.out)
      clear HB0 HQ0
      go_wp2
      go_loopw [33] (fun si wr => ∃ k : Nat, k ≤ ms.length ∧ si = .int .i64 k ∧ Hid (∀ i, i < k → (ms.getD i m0).1 ≠ nmL) ∧ Hid (Below WX.heap.size WX wr)) (fun si _ => ms.length - (intOf si).toNat)
      case atStart => exact ⟨0, Nat.zero_le _, rfl, fun i hi => by omega, Below.refl _ _⟩
      case round =>
        obtain ⟨k, hk, rfl, HU, HX⟩ := hrel
        have hmx : ms.length ≤ maxLen := HF.out.ms.2
        unfold maxLen at hmx
        clear c0 c1 c2 c3 c4 c5 c6 c7 c8 c9 c10 c11 c12 c13 c14
        by_cases hlt : k < ms.length
        · rcases HM.out with hr | ⟨b, off', rfl, hbl, hc⟩
          · exact absurd hlt (by rw [hr]; simp)
          obtain ⟨t0, t1, t2⟩ := hc k hlt
          have d0 := (HX.out.cell (p := ⟨b, off' + k * 3, none⟩) hbl).trans t0
          have d1 := (HX.out.cell (p := ⟨b, off' + k * 3 + 1, none⟩) hbl).trans t1
          have d2 := (HX.out.cell (p := ⟨b, off' + k * 3 + 2, none⟩) hbl).trans t2
          have HNo : Hid ((ms.getD k m0).1 = nmL → false = rSel (pl ⟨kd, nu, st, tx, op, ms, (some ⟨b, off', none⟩), mc, off, fx, att, bo, byy, ns, na, nc, sd, es, ea, ec, kc⟩)) := fun h => rs_f4 (r := pl ⟨kd, nu, st, tx, op, ms, (some ⟨b, off', none⟩), mc, off, fx, att, bo, byy, ns, na, nc, sd, es, ea, ec, kc⟩) hlt h
          have HYes : Hid ((ms.getD k m0).1 ≠ nmL → ∀ i, i < k + 1 → (ms.getD i m0).1 ≠ nmL) := by
            intro h i hi
            by_cases e : i = k
            · rw [e]; exact h
            · exact HU.out i (by omega)
          have i1 : (k : Int) < (ms.length : Int) := by omega
          clear hc t0 t1 t2
          generalize ms.getD k m0 = mm at *
          obtain ⟨x1, x2, x3⟩ := mm
          simp only at d0 d1 d2 HNo HYes
          by_cases he : x1 = nmL
          · have HN1 := hid (HNo.out he)
            have he' : (x1.toList == [95, 110, 97, 109, 101]) = true := lit_eq he
            clear he HNo HYes
            have HE := hid ((HBX.out.trans (HX.out.mono HBX.out.size)).alloc (HBX.out.trans (HX.out.mono HBX.out.size)).size (.cells #[.string x1, .int .i64 x2, .string x3] 138))
            go_wp2
            go_ret
            exact ⟨ret_bool HN1.out, HE.out⟩
          · have HY1 := hid (HYes.out he)
            have he' : (x1.toList == [95, 110, 97, 109, 101]) = false := lit_ne he
            have HE := hid (HX.out.alloc HX.out.size (.cells #[.string x1, .int .i64 x2, .string x3] 138))
            clear he HNo HYes
            go_wp2
            go_roundw
            case rel => exact ⟨k + 1, by omega, by go_num, HY1.out, HE.out⟩
            case measure => simp [intOf]; omega
        · obtain rfl : k = ms.length := by omega
          obtain ⟨c0, c1, c2, c3, c4, c5, c6, c7, c8, c9, c10, c11, c12, c13, c14⟩ := fifteen (kept HQX.out HX.out)
          have HXW := hid (HBX.out.trans (HX.out.mono HBX.out.size))
          by_cases n10 : ms.length < 10
          · rcases two (goodM ms) with hg | hg
            · have HR := hid (rs_eq (r := pl ⟨kd, nu, st, tx, op, ms, ma, mc, off, fx, att, bo, byy, ns, na, nc, sd, es, ea, ec, kc⟩) H1.out HU.out n10 hg)
              go_wp2_with (first | (go_at_call 164; refine (Pat.f164 ma _ mc ms _ rfl HF.out.ms.2 (HM.out.below HX.out) HF.out.ms.1).mono ?_; rintro e w2 ⟨rfl, hb2⟩; have HB2 := hid hb2; obtain ⟨e0, e1, e2, e3, e4, e5, e6, e7, e8, e9, e10, e11, e12, e13, e14⟩ := fifteen (kept (kept HQX.out HX.out) hb2); clear hb2) | (go_at_call 144; refine (f144 ⟨kd, nu, st, tx, op, ms, ma, mc, off, fx, att, bo, byy, ns, na, nc, sd, es, ea, ec, kc⟩ _).mono ?_; rintro e w3 ⟨rfl, hb3⟩; have HB3 := hid hb3; clear hb3))
              go_ret
              have e2 := HXW.out.trans (HB2.out.mono HXW.out.size)
              exact ⟨ret_bool HR.out, e2.trans (HB3.out.mono e2.size)⟩
            · have HR := hid (rs_f6 (r := pl ⟨kd, nu, st, tx, op, ms, ma, mc, off, fx, att, bo, byy, ns, na, nc, sd, es, ea, ec, kc⟩) hg)
              go_wp2_with (first | (go_at_call 164; refine (Pat.f164 ma _ mc ms _ rfl HF.out.ms.2 (HM.out.below HX.out) HF.out.ms.1).mono ?_; rintro e w2 ⟨rfl, hb2⟩; have HB2 := hid hb2; clear hb2))
              go_ret
              exact ⟨ret_bool HR.out, HXW.out.trans (HB2.out.mono HXW.out.size)⟩
          · have HR := hid (rs_f5 (r := pl ⟨kd, nu, st, tx, op, ms, ma, mc, off, fx, att, bo, byy, ns, na, nc, sd, es, ea, ec, kc⟩) n10)
            go_wp2
            go_ret
            exact ⟨ret_bool HR.out, HXW.out⟩

  · have HS := hid (s1_b (r := pl ⟨kd, nu, st, tx, op, ms, ma, mc, off, fx, att, bo, byy, ns, na, nc, sd, es, ea, ec, kc⟩) e0)
    have E0 : tx.toList.isEmpty = false := by rw [str_empty]; exact decide_eq_false e0
    clear e0
    rcases two (nameL tx.data.toList) with hn | hn
    · have HW := hid (name_word hn)
      rcases two (wordI tx) with hw | hw
      · have HR : Hid (false = rSel (pl ⟨kd, nu, st, tx, op, ms, ma, mc, off, fx, att, bo, byy, ns, na, nc, sd, es, ea, ec, kc⟩)) := rs_f0 (HS.out.trans (by
          show (nameL tx.data.toList && !wordM tx) = false
          rw [← HW.out, hw, hn]; rfl))
        go_enter Tryz.func143, Tryz.ntmps143
        go_wp2_with (first | (go_at_call 95; refine (Pat.f95 tx _ HF.out.tx).mono ?_; rintro e w' ⟨rfl, hw'⟩; have hw2 := hw'.symm; clear hw'; subst hw2) | (go_at_call 163; refine (f163 tx _ (HT.out.below HB0.out)).mono ?_; rintro e w1 ⟨rfl, hb1⟩; have HB1 := hid hb1; clear hb1))
        go_ret
        exact ⟨ret_bool HR.out, HB0.out.trans (HB1.out.mono HB0.out.size)⟩
      · have H1 : Hid (sel1 (pl ⟨kd, nu, st, tx, op, ms, ma, mc, off, fx, att, bo, byy, ns, na, nc, sd, es, ea, ec, kc⟩) = true) := HS.out.trans (by
          show (nameL tx.data.toList && !wordM tx) = true
          rw [← HW.out, hw, hn]; rfl)
        clear HS HW
        go_enter Tryz.func143, Tryz.ntmps143
        go_upto_region 3 with (first | (go_at_call 95; refine (Pat.f95 tx _ HF.out.tx).mono ?_; rintro e w' ⟨rfl, hw'⟩; have hw2 := hw'.symm; clear hw'; subst hw2) | (go_at_call 163; refine (f163 tx _ (HT.out.below HB0.out)).mono ?_; rintro e w1 ⟨rfl, hb1⟩; have HB1 := hid hb1; clear hb1))
        clear E0 hn hw
        have HBX := hid (HB0.out.trans (HB1.out.mono HB0.out.size))
        have HQX := hid (kept HQ0.out HB1.out)
        clear HB1
        generalize w1 = WX at *
        obtain ⟨c0, c1, c2, c3, c4, c5, c6, c7, c8, c9, c10, c11, c12, c13, c14⟩ := fifteen HQX.out
        have HM := hid (HL.out.below HBX.out)
        clear HB0 HQ0
        go_wp2
        go_loopw [33] (fun si wr => ∃ k : Nat, k ≤ ms.length ∧ si = .int .i64 k ∧ Hid (∀ i, i < k → (ms.getD i m0).1 ≠ nmL) ∧ Hid (Below WX.heap.size WX wr)) (fun si _ => ms.length - (intOf si).toNat)
        case atStart => exact ⟨0, Nat.zero_le _, rfl, fun i hi => by omega, Below.refl _ _⟩
        case round =>
          obtain ⟨k, hk, rfl, HU, HX⟩ := hrel
          have hmx : ms.length ≤ maxLen := HF.out.ms.2
          unfold maxLen at hmx
          clear c0 c1 c2 c3 c4 c5 c6 c7 c8 c9 c10 c11 c12 c13 c14
          by_cases hlt : k < ms.length
          · rcases HM.out with hr | ⟨b, off', rfl, hbl, hc⟩
            · exact absurd hlt (by rw [hr]; simp)
            obtain ⟨t0, t1, t2⟩ := hc k hlt
            have d0 := (HX.out.cell (p := ⟨b, off' + k * 3, none⟩) hbl).trans t0
            have d1 := (HX.out.cell (p := ⟨b, off' + k * 3 + 1, none⟩) hbl).trans t1
            have d2 := (HX.out.cell (p := ⟨b, off' + k * 3 + 2, none⟩) hbl).trans t2
            have HNo : Hid ((ms.getD k m0).1 = nmL → false = rSel (pl ⟨kd, nu, st, tx, op, ms, (some ⟨b, off', none⟩), mc, off, fx, att, bo, byy, ns, na, nc, sd, es, ea, ec, kc⟩)) := fun h => rs_f4 (r := pl ⟨kd, nu, st, tx, op, ms, (some ⟨b, off', none⟩), mc, off, fx, att, bo, byy, ns, na, nc, sd, es, ea, ec, kc⟩) hlt h
            have HYes : Hid ((ms.getD k m0).1 ≠ nmL → ∀ i, i < k + 1 → (ms.getD i m0).1 ≠ nmL) := by
              intro h i hi
              by_cases e : i = k
              · rw [e]; exact h
              · exact HU.out i (by omega)
            have i1 : (k : Int) < (ms.length : Int) := by omega
            clear hc t0 t1 t2
            generalize ms.getD k m0 = mm at *
            obtain ⟨x1, x2, x3⟩ := mm
            simp only at d0 d1 d2 HNo HYes
            by_cases he : x1 = nmL
            · have HN1 := hid (HNo.out he)
              have he' : (x1.toList == [95, 110, 97, 109, 101]) = true := lit_eq he
              clear he HNo HYes
              have HE := hid ((HBX.out.trans (HX.out.mono HBX.out.size)).alloc (HBX.out.trans (HX.out.mono HBX.out.size)).size (.cells #[.string x1, .int .i64 x2, .string x3] 138))
              go_wp2
              go_ret
              exact ⟨ret_bool HN1.out, HE.out⟩
            · have HY1 := hid (HYes.out he)
              have he' : (x1.toList == [95, 110, 97, 109, 101]) = false := lit_ne he
              have HE := hid (HX.out.alloc HX.out.size (.cells #[.string x1, .int .i64 x2, .string x3] 138))
              clear he HNo HYes
              go_wp2
              go_roundw
              case rel => exact ⟨k + 1, by omega, by go_num, HY1.out, HE.out⟩
              case measure => simp [intOf]; omega
          · obtain rfl : k = ms.length := by omega
            obtain ⟨c0, c1, c2, c3, c4, c5, c6, c7, c8, c9, c10, c11, c12, c13, c14⟩ := fifteen (kept HQX.out HX.out)
            have HXW := hid (HBX.out.trans (HX.out.mono HBX.out.size))
            by_cases n10 : ms.length < 10
            · rcases two (goodM ms) with hg | hg
              · have HR := hid (rs_eq (r := pl ⟨kd, nu, st, tx, op, ms, ma, mc, off, fx, att, bo, byy, ns, na, nc, sd, es, ea, ec, kc⟩) H1.out HU.out n10 hg)
                go_wp2_with (first | (go_at_call 164; refine (Pat.f164 ma _ mc ms _ rfl HF.out.ms.2 (HM.out.below HX.out) HF.out.ms.1).mono ?_; rintro e w2 ⟨rfl, hb2⟩; have HB2 := hid hb2; obtain ⟨e0, e1, e2, e3, e4, e5, e6, e7, e8, e9, e10, e11, e12, e13, e14⟩ := fifteen (kept (kept HQX.out HX.out) hb2); clear hb2) | (go_at_call 144; refine (f144 ⟨kd, nu, st, tx, op, ms, ma, mc, off, fx, att, bo, byy, ns, na, nc, sd, es, ea, ec, kc⟩ _).mono ?_; rintro e w3 ⟨rfl, hb3⟩; have HB3 := hid hb3; clear hb3))
                go_ret
                have e2 := HXW.out.trans (HB2.out.mono HXW.out.size)
                exact ⟨ret_bool HR.out, e2.trans (HB3.out.mono e2.size)⟩
              · have HR := hid (rs_f6 (r := pl ⟨kd, nu, st, tx, op, ms, ma, mc, off, fx, att, bo, byy, ns, na, nc, sd, es, ea, ec, kc⟩) hg)
                go_wp2_with (first | (go_at_call 164; refine (Pat.f164 ma _ mc ms _ rfl HF.out.ms.2 (HM.out.below HX.out) HF.out.ms.1).mono ?_; rintro e w2 ⟨rfl, hb2⟩; have HB2 := hid hb2; clear hb2))
                go_ret
                exact ⟨ret_bool HR.out, HXW.out.trans (HB2.out.mono HXW.out.size)⟩
            · have HR := hid (rs_f5 (r := pl ⟨kd, nu, st, tx, op, ms, ma, mc, off, fx, att, bo, byy, ns, na, nc, sd, es, ea, ec, kc⟩) n10)
              go_wp2
              go_ret
              exact ⟨ret_bool HR.out, HXW.out⟩

    · have HR : Hid (false = rSel (pl ⟨kd, nu, st, tx, op, ms, ma, mc, off, fx, att, bo, byy, ns, na, nc, sd, es, ea, ec, kc⟩)) := rs_f0 (HS.out.trans (by
        show (nameL tx.data.toList && !wordM tx) = false
        rw [hn]; rfl))
      go_enter Tryz.func143, Tryz.ntmps143
      go_wp2_with (first | (go_at_call 95; refine (Pat.f95 tx _ HF.out.tx).mono ?_; rintro e w' ⟨rfl, hw'⟩; have hw2 := hw'.symm; clear hw'; subst hw2))
      go_ret
      exact ⟨ret_bool HR.out, HB0.out⟩

theorem ro_f1 {r : Pl} (h : ¬ (1 ≤ r.op ∧ r.op ≤ 14)) : false = rOp r := by unfold rOp; rw [decide_eq_false h]; rfl
theorem ro_f2 {r : Pl} (h : choice r.byy r.ns = false) : false = rOp r := by unfold rOp; rw [h]; simp
theorem ro_f3 {r : Pl} (h : choice r.sd r.es = false) : false = rOp r := by unfold rOp; rw [h]; simp
def ro4 (b : Bool) (z : Int) (s y : Int) : Bool := (!b || decide (z = 3)) && (decide (s = 0) || (!decide (y = 0) && decide (3 ≤ z)))
theorem ro_eq {r : Pl} {k : Nat} (hk : r.op = k) (h : 1 ≤ k ∧ k ≤ 14) (h1 : choice r.byy r.ns = true) (h2 : choice r.sd r.es = true) : ro4 r.bo (bd k) r.sd r.byy = rOp r := by
  obtain ⟨f1, f2⟩ := bd_facts k h.1 h.2
  unfold rOp ro4
  rw [h1, h2, hk, decide_eq_true (p := (1 : Int) ≤ (k : Int) ∧ (k : Int) ≤ 14) (by omega)]
  rw [show decide (bd k = 3) = decide ((6 : Int) ≤ (k : Int) ∧ (k : Int) ≤ 11) from by rw [decide_eq_decide, f1]; omega]
  rw [show decide (3 ≤ bd k) = decide ((k : Int) ≤ 11) from by rw [decide_eq_decide, f2]; omega]
  rfl
set_option maxHeartbeats 8000000 in
set_option maxRecDepth 100000 in
theorem f145 (q : R) (w : World) (ht : Tabs w) (hl : Lst w q) (hf : Ft q) (hs : wt q ≤ 1048576) :
    Calls Tryz.prog 145 #[agR q] w fun e w' => e = .returned (.bool (rOp (pl q))) ∧ Below w.heap.size w w' := by
  obtain ⟨kd, nu, st, tx, op, ms, ma, mc, off, fx, att, bo, byy, ns, na, nc, sd, es, ea, ec, kc⟩ := q
  unfold wt at hs
  simp only at hs
  have HT := hid ht
  have HLN : Hid (HasT w na ns) := hl.n
  have HLE : Hid (HasT w ea es) := hl.e
  have HF := hid hf
  have HSN : Hid (ns.length ≤ 1048576) := by unfold Hid; omega
  have HSE : Hid (es.length ≤ 1048576) := by unfold Hid; omega
  have HB0 := hid ((Below.refl w.heap.size w).alloc (Nat.le_refl _) (.cells #[.int .i64 kd, .int .i64 nu, .int .i64 st, .string tx, .int .i64 op, .slice ma ms.length mc, .int .i64 off, .bool fx, .int .i64 att, .bool bo, .int .i64 byy, .slice na ns.length nc, .int .i64 sd, .slice ea es.length ec, .int .i64 kc] 55))
  have HQ0 := hid (heap_alloc_new w (.cells #[.int .i64 kd, .int .i64 nu, .int .i64 st, .string tx, .int .i64 op, .slice ma ms.length mc, .int .i64 off, .bool fx, .int .i64 att, .bool bo, .int .i64 byy, .slice na ns.length nc, .int .i64 sd, .slice ea es.length ec, .int .i64 kc] 55))
  clear ht hl hf hs
  by_cases o1 : op < 1
  · go_enter Tryz.func145, Tryz.ntmps145
    go_wp2
    go_ret
    exact ⟨ret_bool (ro_f1 (r := pl ⟨kd, nu, st, tx, op, ms, ma, mc, off, fx, att, bo, byy, ns, na, nc, sd, es, ea, ec, kc⟩) (by simp only [pl]; omega)), HB0.out⟩
  by_cases o2 : 14 < op
  · go_enter Tryz.func145, Tryz.ntmps145
    go_wp2
    go_ret
    exact ⟨ret_bool (ro_f1 (r := pl ⟨kd, nu, st, tx, op, ms, ma, mc, off, fx, att, bo, byy, ns, na, nc, sd, es, ea, ec, kc⟩) (by simp only [pl]; omega)), HB0.out⟩
  obtain ⟨k, rfl⟩ : ∃ k : Nat, op = k := ⟨op.toNat, by omega⟩
  have hk1 : 1 ≤ k := by omega
  have hk2 : k < 15 := by omega
  clear o1 o2
  have o1 : ¬ (k : Int) < 1 := by omega
  have o2 : ¬ (14 : Int) < (k : Int) := by omega
  rcases two (choice byy ns) with hc | hc
  · rcases two (choice sd es) with hd | hd
    · have HR := hid (ro_eq (r := pl ⟨kd, nu, st, tx, k, ms, ma, mc, off, fx, att, bo, byy, ns, na, nc, sd, es, ea, ec, kc⟩) (k := k) rfl ⟨hk1, by omega⟩ hc hd)
      go_enter Tryz.func145, Tryz.ntmps145
      go_upto_region 3 with (first | (go_at_call 165; refine (f165 sd ea _ ec es _ rfl HSE.out HF.out.es.1 ((HLE.out.below HB0.out).below HB1.out)).mono ?_; rintro e w2 ⟨rfl, hb2⟩; have HB2 := hid hb2; obtain ⟨d0, d1, d2, d3, d4, d5, d6, d7, d8, d9, d10, d11, d12, d13, d14⟩ := fifteen (kept (kept HQ0.out HB1.out) hb2); clear hb2) | (go_at_call 165; refine (f165 byy na _ nc ns _ rfl HSN.out HF.out.ns.1 (HLN.out.below HB0.out)).mono ?_; rintro e w1 ⟨rfl, hb1⟩; have HB1 := hid hb1; obtain ⟨c0, c1, c2, c3, c4, c5, c6, c7, c8, c9, c10, c11, c12, c13, c14⟩ := fifteen (kept HQ0.out hb1); clear hb1))
      have g0 := tabOp_at (((HT.out.below HB0.out).below HB1.out).below HB2.out).op k hk2
      have HBE := hid ((HB0.out.trans (HB1.out.mono HB0.out.size)).trans (HB2.out.mono (HB0.out.trans (HB1.out.mono HB0.out.size)).size))
      generalize bd k = z at *
      unfold ro4 at HR
      simp only [pl] at HR
      clear hc hd
      have hkk : (k : Int) < 15 := by omega
      cases bo with
      | false =>
        by_cases s0 : sd = 0
        · subst s0
          go_wp2
          go_ret
          exact ⟨ret_bool (Eq.trans (by rfl) HR.out), HBE.out⟩
        · by_cases b0 : byy = 0
          · subst b0
            go_wp2
            go_ret
            exact ⟨ret_bool (Eq.trans (by simp [s0]) HR.out), HBE.out⟩
          · by_cases z3 : 3 ≤ z
            · go_wp2
              go_ret
              exact ⟨ret_bool (Eq.trans (by simp [s0, b0, z3]) HR.out), HBE.out⟩
            · go_wp2
              go_ret
              exact ⟨ret_bool (Eq.trans (by have hz : decide (3 ≤ z) = false := decide_eq_false (by omega); rw [hz]; simp [s0]) HR.out), HBE.out⟩
      | true =>
        by_cases z0 : z = 3
        · subst z0
          by_cases s0 : sd = 0
          · subst s0
            go_wp2
            go_ret
            exact ⟨ret_bool (Eq.trans (by rfl) HR.out), HBE.out⟩
          · by_cases b0 : byy = 0
            · subst b0
              go_wp2
              go_ret
              exact ⟨ret_bool (Eq.trans (by simp [s0]) HR.out), HBE.out⟩
            · go_wp2
              go_ret
              exact ⟨ret_bool (Eq.trans (by simp [s0, b0]) HR.out), HBE.out⟩
        · go_wp2
          go_ret
          exact ⟨ret_bool (Eq.trans (by simp [z0]) HR.out), HBE.out⟩
    · have HR := hid (ro_f3 (r := pl ⟨kd, nu, st, tx, k, ms, ma, mc, off, fx, att, bo, byy, ns, na, nc, sd, es, ea, ec, kc⟩) hd)
      go_enter Tryz.func145, Tryz.ntmps145
      go_wp2_with (first | (go_at_call 165; refine (f165 sd ea _ ec es _ rfl HSE.out HF.out.es.1 ((HLE.out.below HB0.out).below HB1.out)).mono ?_; rintro e w2 ⟨rfl, hb2⟩; have HB2 := hid hb2; obtain ⟨d0, d1, d2, d3, d4, d5, d6, d7, d8, d9, d10, d11, d12, d13, d14⟩ := fifteen (kept (kept HQ0.out HB1.out) hb2); clear hb2) | (go_at_call 165; refine (f165 byy na _ nc ns _ rfl HSN.out HF.out.ns.1 (HLN.out.below HB0.out)).mono ?_; rintro e w1 ⟨rfl, hb1⟩; have HB1 := hid hb1; obtain ⟨c0, c1, c2, c3, c4, c5, c6, c7, c8, c9, c10, c11, c12, c13, c14⟩ := fifteen (kept HQ0.out hb1); clear hb1))
      go_ret
      exact ⟨ret_bool HR.out, (HB0.out.trans (HB1.out.mono HB0.out.size)).trans (HB2.out.mono (HB0.out.trans (HB1.out.mono HB0.out.size)).size)⟩
  · have HR := hid (ro_f2 (r := pl ⟨kd, nu, st, tx, k, ms, ma, mc, off, fx, att, bo, byy, ns, na, nc, sd, es, ea, ec, kc⟩) hc)
    go_enter Tryz.func145, Tryz.ntmps145
    go_wp2_with (first | (go_at_call 165; refine (f165 byy na _ nc ns _ rfl HSN.out HF.out.ns.1 (HLN.out.below HB0.out)).mono ?_; rintro e w1 ⟨rfl, hb1⟩; have HB1 := hid hb1; obtain ⟨c0, c1, c2, c3, c4, c5, c6, c7, c8, c9, c10, c11, c12, c13, c14⟩ := fifteen (kept HQ0.out hb1); clear hb1))
    go_ret
    exact ⟨ret_bool HR.out, HB0.out.trans (HB1.out.mono HB0.out.size)⟩

theorem ra_f1 {r : Pl} (h : ¬ (1 ≤ r.op ∧ r.op ≤ 8)) : false = rAgg r := by unfold rAgg; rw [decide_eq_false h]; rfl
theorem ra_f2 {r : Pl} (h : choice r.byy r.ns = false) : false = rAgg r := by unfold rAgg; rw [h]; simp
theorem ra_eq {r : Pl} {k n : Nat} (hk : r.op = k) (h : 1 ≤ k ∧ k ≤ 8) (h1 : choice r.byy r.ns = true) (hn : n = if 6 ≤ k then 2 else 1) : decide (r.kc = (n : Int)) = rAgg r := by
  unfold rAgg
  rw [h1, hk, decide_eq_true (p := (1 : Int) ≤ (k : Int) ∧ (k : Int) ≤ 8) (by omega), hn]
  by_cases h6 : 6 ≤ k
  · rw [if_pos h6, if_pos (by omega)]; rfl
  · rw [if_neg h6, if_neg (by omega)]; rfl
abbrev AgS (w : World) (k : Nat) (s1 s2 s3 : ByteArray) (r4 : Bool) (kc : Int) (x : World) : Prop := x.cell? ⟨w.heap.size, 14, none⟩ = some (.int .i64 kc) ∧ x.cell? ⟨w.heap.size, 4, none⟩ = some (.int .i64 k) ∧ x.cell? ⟨0, k * 4, none⟩ = some (.string s1) ∧ x.cell? ⟨0, k * 4 + 1, none⟩ = some (.string s2) ∧ x.cell? ⟨0, k * 4 + 2, none⟩ = some (.string s3) ∧ x.cell? ⟨0, k * 4 + 3, none⟩ = some (.bool r4) ∧ TabSp x ∧ Below w.heap.size w x ∧ w.heap.size < x.heap.size ∧ 0 < x.heap.size
theorem AgS.below {w : World} {k : Nat} {s1 s2 s3 : ByteArray} {r4 : Bool} {kc : Int} {x y : World} (h : AgS w k s1 s2 s3 r4 kc x) (hb : Below x.heap.size x y) : AgS w k s1 s2 s3 r4 kc y := by
  obtain ⟨h0, h1, h2, h3, h4, h5, h6, h7, h8, h9⟩ := h
  exact ⟨(hb.cell (p := ⟨w.heap.size, 14, none⟩) h8).trans h0, (hb.cell (p := ⟨w.heap.size, 4, none⟩) h8).trans h1, (hb.cell (p := ⟨0, k * 4, none⟩) h9).trans h2, (hb.cell (p := ⟨0, k * 4 + 1, none⟩) h9).trans h3, (hb.cell (p := ⟨0, k * 4 + 2, none⟩) h9).trans h4, (hb.cell (p := ⟨0, k * 4 + 3, none⟩) h9).trans h5, h6.below hb, h7.trans (hb.mono h7.size), Nat.lt_of_lt_of_le h8 hb.size, Nat.lt_of_lt_of_le h9 hb.size⟩
theorem AgS.drew {w : World} {k : Nat} {s1 s2 s3 : ByteArray} {r4 : Bool} {kc : Int} {x : World} (h : AgS w k s1 s2 s3 r4 kc x) : AgS w k s1 s2 s3 r4 kc x.drew := h.below (Below.refl _ x).drew
theorem AgS.sp {w : World} {k : Nat} {s1 s2 s3 : ByteArray} {r4 : Bool} {kc : Int} {x : World} (h : AgS w k s1 s2 s3 r4 kc x) : TabSp x := h.2.2.2.2.2.2.1
theorem AgS.bel {w : World} {k : Nat} {s1 s2 s3 : ByteArray} {r4 : Bool} {kc : Int} {x : World} (h : AgS w k s1 s2 s3 r4 kc x) : Below w.heap.size w x := h.2.2.2.2.2.2.2.1
set_option maxHeartbeats 8000000 in
set_option maxRecDepth 100000 in
theorem f146 (q : R) (w : World) (ht : Tabs w) (hl : Lst w q) (hf : Ft q) (hs : wt q ≤ 1048576) :
    Calls Tryz.prog 146 #[agR q] w fun e w' => e = .returned (.bool (rAgg (pl q))) ∧ Below w.heap.size w w' := by
  obtain ⟨kd, nu, st, tx, op, ms, ma, mc, off, fx, att, bo, byy, ns, na, nc, sd, es, ea, ec, kc⟩ := q
  unfold wt at hs
  simp only at hs
  have HT := hid ht
  have HLN : Hid (HasT w na ns) := hl.n
  have HF := hid hf
  have HSN : Hid (ns.length ≤ 1048576) := by unfold Hid; omega
  have HB0 := hid ((Below.refl w.heap.size w).alloc (Nat.le_refl _) (.cells #[.int .i64 kd, .int .i64 nu, .int .i64 st, .string tx, .int .i64 op, .slice ma ms.length mc, .int .i64 off, .bool fx, .int .i64 att, .bool bo, .int .i64 byy, .slice na ns.length nc, .int .i64 sd, .slice ea es.length ec, .int .i64 kc] 55))
  have HQ0 := hid (heap_alloc_new w (.cells #[.int .i64 kd, .int .i64 nu, .int .i64 st, .string tx, .int .i64 op, .slice ma ms.length mc, .int .i64 off, .bool fx, .int .i64 att, .bool bo, .int .i64 byy, .slice na ns.length nc, .int .i64 sd, .slice ea es.length ec, .int .i64 kc] 55))
  clear ht hl hf hs
  by_cases o1 : op < 1
  · go_enter Tryz.func146, Tryz.ntmps146
    go_wp2
    go_ret
    exact ⟨ret_bool (ra_f1 (r := pl ⟨kd, nu, st, tx, op, ms, ma, mc, off, fx, att, bo, byy, ns, na, nc, sd, es, ea, ec, kc⟩) (by simp only [pl]; omega)), HB0.out⟩
  by_cases o2 : 8 < op
  · go_enter Tryz.func146, Tryz.ntmps146
    go_wp2
    go_ret
    exact ⟨ret_bool (ra_f1 (r := pl ⟨kd, nu, st, tx, op, ms, ma, mc, off, fx, att, bo, byy, ns, na, nc, sd, es, ea, ec, kc⟩) (by simp only [pl]; omega)), HB0.out⟩
  obtain ⟨k, rfl⟩ : ∃ k : Nat, op = k := ⟨op.toNat, by omega⟩
  have hk1 : 1 ≤ k := by omega
  have hk2 : k < 9 := by omega
  clear o1 o2
  have o1 : ¬ (k : Int) < 1 := by omega
  have o2 : ¬ (8 : Int) < (k : Int) := by omega
  rcases two (choice byy ns) with hc | hc
  · have HA := hid (ag_row k hk1 (by omega))
    have HR := hid (fun n hn => ra_eq (r := pl ⟨kd, nu, st, tx, k, ms, ma, mc, off, fx, att, bo, byy, ns, na, nc, sd, es, ea, ec, kc⟩) (k := k) (n := n) rfl ⟨hk1, by omega⟩ hc hn)
    go_enter Tryz.func146, Tryz.ntmps146
    go_upto_region 3 with (first | (go_at_call 165; refine (f165 byy na _ nc ns _ rfl HSN.out HF.out.ns.1 (HLN.out.below HB0.out)).mono ?_; rintro e w1 ⟨rfl, hb1⟩; have HB1 := hid hb1; obtain ⟨c0, c1, c2, c3, c4, c5, c6, c7, c8, c9, c10, c11, c12, c13, c14⟩ := fifteen (kept HQ0.out hb1); clear hb1))
    have HTB := hid ((HT.out.below HB0.out).below HB1.out)
    obtain ⟨a0, a1, a2, a3⟩ := tabAg_at HTB.out.ag k hk2
    have HBE := hid (HB0.out.trans (HB1.out.mono HB0.out.size))
    generalize rowAg.getD k cs0 = rr at *
    obtain ⟨r1, r2, r3, r4⟩ := rr
    simp only at a0 a1 a2 a3
    have HR2 := hid (HR.out _ HA.out.len)
    have HAs := hid HA.out.asc
    simp only [pl] at HR2 HAs
    clear HA HR
    generalize (⟨r1.toArray⟩ : ByteArray) = s1 at *
    generalize (⟨r2.toArray⟩ : ByteArray) = s2 at *
    generalize (⟨r3.toArray⟩ : ByteArray) = s3 at *
    have hkk : (k : Int) < 9 := by omega
    have HS : Hid (AgS w k s1 s2 s3 r4 kc w1) := ⟨c14, c4, a0, a1, a2, a3, HTB.out.sp, HBE.out, lt_at (kept HQ0.out HB1.out), HTB.out.ag.1⟩
    clear c0 c1 c2 c3 c4 c5 c6 c7 c8 c9 c10 c11 c12 c13 c14 a0 a1 a2 a3
    go_region_held3 (fun x => AgS w k s1 s2 s3 r4 kc x) (first | exact HS.out.drew | assumption) (first | (go_at_call 166; refine (f166 s1 s2 s3 r4 _ (AgS.sp (by assumption)) HAs.out).mono ?_; rintro e w2 ⟨rfl, hb2⟩; have hs2 := AgS.below (by assumption) hb2; clear hb2))
    have HX2 := hid hs2.bel
    clear hs2
    go_wp2
    go_ret
    exact ⟨ret_bool (Eq.trans (by rfl) HR2.out), HX2.out⟩
  · have HR := hid (ra_f2 (r := pl ⟨kd, nu, st, tx, k, ms, ma, mc, off, fx, att, bo, byy, ns, na, nc, sd, es, ea, ec, kc⟩) hc)
    go_enter Tryz.func146, Tryz.ntmps146
    go_wp2_with (first | (go_at_call 165; refine (f165 byy na _ nc ns _ rfl HSN.out HF.out.ns.1 (HLN.out.below HB0.out)).mono ?_; rintro e w1 ⟨rfl, hb1⟩; have HB1 := hid hb1; obtain ⟨c0, c1, c2, c3, c4, c5, c6, c7, c8, c9, c10, c11, c12, c13, c14⟩ := fifteen (kept HQ0.out hb1); clear hb1))
    go_ret
    exact ⟨ret_bool HR.out, HB0.out.trans (HB1.out.mono HB0.out.size)⟩
end Go.Proofs.YtbdlahhejfamhaaGreatDoor.Qry
