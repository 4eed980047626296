/- The model's l22Pairs. -/
import Derived.Test.YtigakbhficoonaaPrh
namespace Go.Proofs.Ytigakbhficoonaa.Prs
open Go.RowKit
open Go.Proofs.Ytigakbhficoonaa.Rdd
open Go.Proofs.Ytigakbhficoonaa.Pat (hid nbC printL)
open Go.Proofs.Ytigakbhficoonaa.Lab (Lb HasL e0 cmpN okL GoodP withF OfV)
open Go.Proofs.Ytigakbhficoonaa.Str (nameL valueL)

theorem f27 (u : ByteArray) (c : UInt8) (w : World) (hu : u.size ≤ 1048576) : Calls Try.prog 27 #[.string u, .string ⟨#[c]⟩] w fun e w' => e = .returned (.bool (hd0 u c)) ∧ w' = w := by
  have h1 : (⟨#[c]⟩ : ByteArray).size = 1 := rfl
  by_cases h0 : 1 ≤ u.size
  · have HE := hid (hd0_take u c h0)
    go_enter Try.func27, Try.ntmps27
    go_wp2
    go_ret
    exact ⟨Pat.ret_bool HE.out, rfl⟩
  · have HE := hid (hd0_none u c h0)
    go_enter Try.func27, Try.ntmps27
    go_wp2
    go_ret
    exact ⟨Pat.ret_bool HE.out.symm, rfl⟩
theorem rd_in {x : ByteArray} (h : (bys x)[nmE (bys x) 0]? = some 61) (hn : nameL (bys (x.extract 0 (nmE (bys x) 0))) = true) :
    rdP x = (vl (x.extract (nmE (bys x) 0 + 1) x.size)).bind (fun u => if valueL (bys u) = true then some (x.extract 0 (nmE (bys x) 0), u) else none) := by
  unfold rdP; rw [if_pos ⟨h, hn⟩]
theorem rd_out {x : ByteArray} (h : ¬ ((bys x)[nmE (bys x) 0]? = some 61 ∧ nameL (bys (x.extract 0 (nmE (bys x) 0))) = true)) : rdP x = none := by
  unfold rdP; rw [if_neg h]
theorem add_full {x : ByteArray} {fs : List Lb} (h : (bys x)[nmE (bys x) 0]? = some 61) (hn : nameL (bys (x.extract 0 (nmE (bys x) 0))) = true) (hm : ¬ (Miss fs (x.extract 0 (nmE (bys x) 0)) ∧ fs.length < 20)) : addP fs x = fs := by
  cases hr : rdP x with
  | none => exact add_none hr
  | some p =>
    rw [add_some hr]
    refine if_neg fun g => hm ?_
    rw [rd_in h hn] at hr
    cases hv : vl (x.extract (nmE (bys x) 0 + 1) x.size) with
    | none => rw [hv] at hr; cases hr
    | some u =>
      rw [hv] at hr
      simp only [Option.bind_some] at hr
      split at hr
      · cases hr; exact g
      · cases hr
theorem add_no {x u : ByteArray} {fs : List Lb} (h : (bys x)[nmE (bys x) 0]? = some 61) (hn : nameL (bys (x.extract 0 (nmE (bys x) 0))) = true) (hv : vl (x.extract (nmE (bys x) 0 + 1) x.size) = some u) (hu : valueL (bys u) = false) : addP fs x = fs := by
  refine add_none ?_
  rw [rd_in h hn, hv]
  simp only [Option.bind_some]
  rw [if_neg (by rw [hu]; decide)]
theorem add_nov {x : ByteArray} {fs : List Lb} (h : (bys x)[nmE (bys x) 0]? = some 61) (hn : nameL (bys (x.extract 0 (nmE (bys x) 0))) = true) (hv : vl (x.extract (nmE (bys x) 0 + 1) x.size) = none) : addP fs x = fs := by
  refine add_none ?_
  rw [rd_in h hn, hv]; rfl
theorem add_yes {x u : ByteArray} {fs : List Lb} (h : (bys x)[nmE (bys x) 0]? = some 61) (hn : nameL (bys (x.extract 0 (nmE (bys x) 0))) = true) (hm : Miss fs (x.extract 0 (nmE (bys x) 0))) (hl : fs.length < 20) (hv : vl (x.extract (nmE (bys x) 0 + 1) x.size) = some u) (hu : valueL (bys u) = true) : addP fs x = withF fs (x.extract 0 (nmE (bys x) 0)) u := by
  have hr : rdP x = some (x.extract 0 (nmE (bys x) 0), u) := by
    rw [rd_in h hn, hv]
    simp only [Option.bind_some]
    rw [if_pos hu]
  rw [add_some hr, if_pos ⟨hm, hl⟩]
theorem nmE_le' (x : ByteArray) : nmE (bys x) 0 ≤ x.size := by
  have := nmE_le (l := bys x) (i := 0) (Nat.zero_le _)
  simpa using this
/-- The labels by now, in a row of the call's own. -/
structure Pm (W : World) (fs : List Lb) (a : Option Addr) (c : Nat) (x : World) : Prop where
  row : x.ownsRow W.heap.size 33 2 (.slice a fs.length c) fs.length (Lab.flat fs)
  bel : Below W.heap.size W x
theorem Pm.mv {W x y : World} {fs : List Lb} {a : Option Addr} {c : Nat} (h : Pm W fs a c x) (hb : Below x.heap.size x y) : Pm W fs a c y := ⟨own_bel h.row hb, h.bel.trans (hb.mono h.bel.size)⟩
set_option maxRecDepth 10000 in
set_option maxHeartbeats 16000000 in
theorem f13 (s : ByteArray) (w : World) (hs : s.size ≤ 500) : Calls Try.prog 13 #[.string s] w (PrsR s w) := by
  have HC := fun w => hid (f23 s w hs)
  go_enter Try.func13, Try.ntmps13
  go_wp2_with fail
  refine (HC _).out.mono ?_
  rintro e w1 ⟨ds, pa, pc, rfl, hds, hrow, hb1, hdl⟩
  have HB1 := hid hb1
  have HPL : Hid (∀ k, (ds.getD k ByteArray.empty).size ≤ 500) := fun k => Nat.le_trans (piece_len hds k) hs
  have HPS := hid (pairs_of hds)
  have HOC := hid (own_cells hrow)
  clear HC hrow hb1 hds
  generalize hm : ds.length = m at *
  have HM := hid hm
  clear hm
  go_wp2
  go_loopw [3, 13] (fun sf i wr => ∃ (k : Nat) (fs : List Lb) (a : Option Addr) (c : Nat), k ≤ m ∧ i = .int .i64 k ∧ sf = .slice a fs.length c ∧ Hid (fs = upP ds k) ∧ Hid (Pm w1 fs a c wr)) (fun _ i _ => m - (intOf i).toNat)
  case atStart => exact ⟨0, [], none, 0, Nat.zero_le _, rfl, rfl, rfl, ⟨World.ownsRow_nil _ _ _ _, Below.refl _ _⟩⟩
  case round =>
    obtain ⟨k, fs, a, c, hk, rfl, rfl, HF, HP⟩ := hrel
    by_cases hlt : k < m
    rotate_left
    · have i1 : ¬ (k : Int) < (m : Int) := by omega
      have HE : Hid (PrsR s w (.returned (.slice a fs.length c)) wr) := by
        have e : fs = pairsL s := HF.out.trans ((upP_all (by have := HM.out; omega)).trans HPS.out)
        subst e
        exact ⟨a, c, rfl, own_down HP.out.row HB1.out.size, HB1.out.trans (HP.out.bel.mono HB1.out.size)⟩
      go_wp2
      go_ret
      exact HE.out
    have HG : Hid (GoodP fs) := by unfold Hid; rw [HF.out]; exact upP_good ds k
    have HN : Hid (upP ds (k + 1) = addP fs (ds.getD k ByteArray.empty)) := by unfold Hid; rw [HF.out]; exact upP_succ (by rw [HM.out]; exact hlt)
    have hz := HPL.out k
    have hf20 : fs.length ≤ 20 := HG.out.1
    have i1 : (k : Int) < (m : Int) := by omega
    have i0 : (0 : Int) ≤ (k : Int) := by omega
    rcases HOC.out with h0 | ⟨g, rfl, hgl, hcell⟩
    · exfalso; omega
    have c0 := (HP.out.bel.cell (p := ⟨g, k, none⟩) hgl).trans (hcell k hlt)
    clear hcell
    generalize ds.getD k ByteArray.empty = x at *
    have HNA := fun w => hid (f24 x 0 w (by omega) (Nat.zero_le _))
    have hEle := nmE_le' x
    have HRI := hid (fun h hn => rd_in (x := x) h hn)
    have HOUT := hid (fun h => (rd_out (x := x) h))
    have HFULL := hid (fun h hn hm => add_full (x := x) (fs := fs) h hn hm)
    have HNOV := hid (fun h hn hv => add_nov (x := x) (fs := fs) h hn hv)
    have HNO := hid (fun u h hn hv hu => add_no (x := x) (u := u) (fs := fs) h hn hv hu)
    have HYES := hid (fun u h hn hm hl hv hu => add_yes (x := x) (u := u) (fs := fs) h hn hm hl hv hu)
    have hdsz : (x.extract 0 (nmE (bys x) 0)).size ≤ 500 := by rw [ByteArray.size_extract]; omega
    have hvsz : (x.extract (nmE (bys x) 0 + 1) x.size).size ≤ 500 := by rw [ByteArray.size_extract]; omega
    have HAT : Hid (∀ h : nmE (bys x) 0 < x.size, (bys x)[nmE (bys x) 0]? = some (x[nmE (bys x) 0]'h)) := fun h => at_byte x _ h
    have HXE : Hid (x.extract 0 (nmE (bys x) 0) = x.extract 0 (nmE (bys x) 0)) := rfl
    clear HRI
    simp only [bys] at *
    obtain ⟨E, hE⟩ : ∃ E, E = nmE (by' x) 0 := ⟨_, rfl⟩
    rw [← hE] at HNA hEle HOUT HFULL HNOV HNO HYES hdsz hvsz HAT
    clear hE HXE
    obtain ⟨nm, hnm⟩ : ∃ nm, nm = x.extract 0 E := ⟨_, rfl⟩
    obtain ⟨v, hv⟩ : ∃ v, v = x.extract (E + 1) x.size := ⟨_, rfl⟩
    rw [← hnm] at hdsz HOUT HFULL HNOV HNO HYES
    rw [← hv] at hvsz HNOV HNO HYES
    have HNM := hid hnm.symm
    have HVV := hid hv.symm
    clear hnm hv
    have e0' : (0 : Int) ≤ (E : Int) := by omega
    have e2 : (E : Int) ≤ (x.size : Int) := by omega
    have HNAME := fun w => hid (Str.f25 nm w (by unfold maxLen; omega))
    by_cases hE1 : E < x.size
    rotate_left
    · have HA : Hid (fs = upP ds (k + 1)) := by
        unfold Hid; rw [HN.out]; refine (add_none (HOUT.out fun h => ?_)).symm
        have := h.1; rw [List.getElem?_eq_none (by simpa using hE1)] at this; cases this
      have e3 : (E : Int) ≥ (x.size : Int) := by omega
      go_wp2_with (go_at_call 24; refine (HNA _).out.mono ?_; rintro e wy ⟨rfl, rfl⟩)
      go_roundw
      case rel => exact ⟨k + 1, fs, a, c, by omega, by go_num, rfl, HA, HP⟩
      case measure => simp [intOf]; omega
    have e3 : (E : Int) < (x.size : Int) := by omega
    have e3' : ¬ (E : Int) ≥ (x.size : Int) := by omega
    have e4 : (E : Int) + 1 ≤ (x.size : Int) := by omega
    have e5 : (0 : Int) ≤ (E : Int) + 1 := by omega
    have e6 : ((E : Int) + 1).toNat = E + 1 := by omega
    have e7 : IntKind.i64.wrap ((E : Int) + 1) = (E : Int) + 1 := by rw [IntKind.wrap_i64]; omega
    have HAT2 := hid (HAT.out hE1)
    by_cases h61 : x[E] = 61
    rotate_left
    · have HA : Hid (fs = upP ds (k + 1)) := by
        unfold Hid; rw [HN.out]; refine (add_none (HOUT.out fun h => ?_)).symm
        have := h.1; rw [HAT2.out] at this; exact h61 (Option.some.inj this)
      have e8 : ((x[E].toNat : Int) != 61) = true := byte_ne (c := x[E]) (d := 61) h61
      clear h61
      go_wp2_with (go_at_call 24; refine (HNA _).out.mono ?_; rintro e wy ⟨rfl, rfl⟩)
      go_roundw
      case rel => exact ⟨k + 1, fs, a, c, by omega, by go_num, rfl, HA, HP⟩
      case measure => simp [intOf]; omega
    have H61 : Hid ((by' x)[E]? = some 61) := by unfold Hid; rw [HAT2.out, h61]
    have e8 : ((x[E].toNat : Int) != 61) = false := by rw [h61]; rfl
    have hxn : x.extract 0 E = nm := HNM.out
    have hxv : x.extract (E + 1) x.size = v := HVV.out
    clear h61 HAT HAT2 HNM HVV
    cases hn : nameL nm.data.toList
    · have HA : Hid (fs = upP ds (k + 1)) := by
        unfold Hid; rw [HN.out]; refine (add_none (HOUT.out fun h => ?_)).symm
        have := h.2; rw [hn] at this; cases this
      simp only [hn] at HNAME
      clear hn
      go_wp2_with (first | (go_at_call 24; refine (HNA _).out.mono ?_; rintro e wy ⟨rfl, rfl⟩) | (go_at_call 25; refine (HNAME _).out.mono ?_; rintro e wy ⟨rfl, rfl⟩) | fail)
      go_roundw
      case rel => exact ⟨k + 1, fs, a, c, by omega, by go_num, rfl, HA, HP⟩
      case measure => simp [intOf]; omega
    have HNN := hid hn
    simp only [hn] at HNAME
    clear hn HOUT
    have HOF := fun w h => hid (Lab.f26 a fs.length c fs nm w rfl hf20 h)
    by_cases hmi : Miss fs nm
    rotate_left
    · have HA : Hid (fs = upP ds (k + 1)) := by
        unfold Hid; rw [HN.out]; exact (HFULL.out H61.out HNN.out (fun h => hmi h.1)).symm
      go_wp2_with (first | (go_at_call 24; refine (HNA _).out.mono ?_; rintro e wy ⟨rfl, rfl⟩) | (go_at_call 25; refine (HNAME _).out.mono ?_; rintro e wy ⟨rfl, rfl⟩) | (go_at_call 26; refine (HOF _ (hasl_own HP.out.row)).out.mono ?_; rintro e wy ⟨ov, hov, rfl, hby⟩; have hne : ov.toList.isEmpty = false := (by rw [Lab.str_empty]; exact decide_eq_false fun h => hmi ((miss_ofv HG.out hov).1 h)); have HP2 := hid (HP.out.mv hby); clear hov hby) | fail)
      go_roundw
      case rel => exact ⟨k + 1, fs, a, c, by omega, by go_num, rfl, HA, HP2⟩
      case measure => simp [intOf]; omega
    by_cases hl : fs.length < 20
    rotate_left
    · have HA : Hid (fs = upP ds (k + 1)) := by
        unfold Hid; rw [HN.out]; exact (HFULL.out H61.out HNN.out (fun h => hl h.2)).symm
      have e9 : (fs.length : Int) ≥ 20 := by omega
      go_wp2_with (first | (go_at_call 24; refine (HNA _).out.mono ?_; rintro e wy ⟨rfl, rfl⟩) | (go_at_call 25; refine (HNAME _).out.mono ?_; rintro e wy ⟨rfl, rfl⟩) | (go_at_call 26; refine (HOF _ (hasl_own HP.out.row)).out.mono ?_; rintro e wy ⟨ov, hov, rfl, hby⟩; have hne : ov.toList.isEmpty = true := (by rw [Lab.str_empty]; exact decide_eq_true ((miss_ofv HG.out hov).2 hmi)); have HP2 := hid (HP.out.mv hby); clear hov hby) | fail)
      go_roundw
      case rel => exact ⟨k + 1, fs, a, c, by omega, by go_num, rfl, HA, HP2⟩
      case measure => simp [intOf]; omega
    have e9 : ¬ (fs.length : Int) ≥ 20 := by omega
    have HMI := hid hmi
    clear HFULL
    go_upto_region 8 with (first | (go_at_call 24; refine (HNA _).out.mono ?_; rintro e wy ⟨rfl, rfl⟩) | (go_at_call 25; refine (HNAME _).out.mono ?_; rintro e wy ⟨rfl, rfl⟩) | (go_at_call 26; refine (HOF _ (hasl_own HP.out.row)).out.mono ?_; rintro e wy ⟨ov, hov, rfl, hby⟩; have hne : ov.toList.isEmpty = true := (by rw [Lab.str_empty]; exact decide_eq_true ((miss_ofv HG.out hov).2 HMI.out)); have HP2 := hid (HP.out.mv hby); clear hov hby) | fail)
    clear HNA HNAME HOF hmi HP c0 hne
    have HHD := fun w => hid (f27 v 34 w (by omega))
    have HWI := fun u w h => hid (Lab.f30 a fs.length c fs nm u w rfl (by omega) h (by unfold maxLen; omega))
    have HEND : ∀ (u : ByteArray) (wz : World), Hid (vl v = some u → valueL u.data.toList = true → ∀ a' m' c', wz.ownsRow wy.heap.size 33 2 (.slice a' m' c') m' (Lab.flat (withF fs nm u)) → Below wy.heap.size wy wz → ∃ fs', m' = fs'.length ∧ fs' = upP ds (k + 1) ∧ Pm w1 fs' a' c' wz) := by
      intro u wz hvu huu a' m' c' hrow hb
      have hl' : m' = (withF fs nm u).length := by have := hrow.1; rw [Lab.flat_len] at this; omega
      subst hl'
      exact ⟨_, rfl, by rw [HN.out, HYES.out u H61.out HNN.out HMI.out hl hvu huu], own_down hrow HP2.out.bel.size, HP2.out.bel.trans (hb.mono HP2.out.bel.size)⟩
    cases h34 : hd0 v 34
    · have hvl := vl_plain h34
      simp only [h34] at HHD
      have HVA := fun w => hid (Str.f29 v w (by unfold maxLen; omega))
      cases hvv : valueL v.data.toList
      · have HA : Hid (fs = upP ds (k + 1)) := by unfold Hid; rw [HN.out]; exact (HNO.out v H61.out HNN.out hvl hvv).symm
        simp only [hvv] at HVA
        clear HNO HNOV HYES h34 hvl hvv HEND HWI
        go_wp2_with (first | (go_at_call 27; refine (HHD _).out.mono ?_; rintro e wz ⟨rfl, rfl⟩) | (go_at_call 29; refine (HVA _).out.mono ?_; rintro e wz ⟨rfl, rfl⟩) | fail)
        go_roundw
        case rel => exact ⟨k + 1, fs, a, c, by omega, by go_num, rfl, HA, HP2⟩
        case measure => simp [intOf]; omega
      · have HEN := fun wz => hid ((HEND v wz).out hvl hvv)
        simp only [hvv] at HVA
        clear HNO HNOV HYES h34 hvl hvv HEND
        go_wp2_with (first | (go_at_call 27; refine (HHD _).out.mono ?_; rintro e wz ⟨rfl, rfl⟩) | (go_at_call 29; refine (HVA _).out.mono ?_; rintro e wz ⟨rfl, rfl⟩) | fail)
        refine (HWI v _ (hasl_own HP2.out.row)).out.mono ?_
        rintro e w5 ⟨a', m', c', rfl, hrow, hb5⟩
        obtain ⟨fs', rfl, he, hp5⟩ := (HEN w5).out a' m' c' hrow hb5
        have HP5 := hid hp5
        have HE5 := hid he
        clear hrow hb5 he hp5 HWI HEN
        go_wp2
        go_roundw
        case rel => exact ⟨k + 1, fs', a', c', by omega, by go_num, rfl, HE5, HP5⟩
        case measure => simp [intOf]; omega
    · simp only [h34] at HHD
      have HUQ := fun w => hid (f28 v 0 w (by omega) (Nat.zero_le _))
      go_wp2_with (first | (go_at_call 27; refine (HHD _).out.mono ?_; rintro e wz ⟨rfl, rfl⟩) | fail)
      refine (HUQ _).out.mono ?_
      rintro e w3 ⟨hb3, hq⟩
      have HP3 := hid (HP2.out.mv hb3)
      rcases hq with ⟨hq, rfl⟩ | ⟨u, j, hq, rfl⟩
      · have HA : Hid (fs = upP ds (k + 1)) := by unfold Hid; rw [HN.out]; exact (HNOV.out H61.out HNN.out (vl_none h34 hq)).symm
        have e10 : ((-1 : Int) != (v.size : Int)) = true := by rw [bne_iff_ne]; omega
        clear HNO HNOV HYES h34 hq HEND HWI hb3
        go_wp2
        go_roundw
        case rel => exact ⟨k + 1, fs, a, c, by omega, by go_num, rfl, HA, HP3⟩
        case measure => simp [intOf]; omega
      have hvq := vl_quo h34 hq
      have hus : (mkS u).size ≤ 500 := by
        have := quo_len hq
        show u.toArray.size ≤ 500
        simp; omega
      by_cases hj : j = v.size
      rotate_left
      · have HA : Hid (fs = upP ds (k + 1)) := by unfold Hid; rw [HN.out]; exact (HNOV.out H61.out HNN.out (by rw [hvq, if_neg hj])).symm
        have e10 : ((j : Int) != (v.size : Int)) = true := by rw [bne_iff_ne]; omega
        clear HNO HNOV HYES h34 hq HEND HWI hb3 hvq hj
        go_wp2
        go_roundw
        case rel => exact ⟨k + 1, fs, a, c, by omega, by go_num, rfl, HA, HP3⟩
        case measure => simp [intOf]; omega
      have e10 : ((j : Int) != (v.size : Int)) = false := by rw [hj]; simp
      rw [if_pos hj] at hvq
      have HVA := fun w => hid (Str.f29 (mkS u) w (by unfold maxLen; omega))
      clear hj
      cases hvv : valueL (mkS u).data.toList
      · have HA : Hid (fs = upP ds (k + 1)) := by unfold Hid; rw [HN.out]; exact (HNO.out _ H61.out HNN.out hvq hvv).symm
        simp only [hvv] at HVA
        clear HNO HNOV HYES h34 hq HEND HWI hb3 hvq hvv
        go_wp2_with (first | (go_at_call 29; refine (HVA _).out.mono ?_; rintro e wz ⟨rfl, rfl⟩) | fail)
        go_roundw
        case rel => exact ⟨k + 1, fs, a, c, by omega, by go_num, rfl, HA, HP3⟩
        case measure => simp [intOf]; omega
      · have HEN := fun wz => hid ((HEND (mkS u) wz).out hvq hvv)
        have HB3 := hid hb3
        simp only [hvv] at HVA
        clear HNO HNOV HYES h34 hq HEND hvq hvv hb3
        generalize mkS u = uu at *
        go_wp2_with (first | (go_at_call 29; refine (HVA _).out.mono ?_; rintro e wz ⟨rfl, rfl⟩) | fail)
        refine (HWI uu _ (hasl_own HP3.out.row)).out.mono ?_
        rintro e w5 ⟨a', m', c', rfl, hrow, hb5⟩
        obtain ⟨fs', rfl, he, hp5⟩ := (HEN w5).out a' m' c' (own_down hrow HB3.out.size) (HB3.out.trans (hb5.mono HB3.out.size))
        have HP5 := hid hp5
        have HE5 := hid he
        clear hrow hb5 he hp5 HWI HEN
        go_wp2
        go_roundw
        case rel => exact ⟨k + 1, fs', a', c', by omega, by go_num, rfl, HE5, HP5⟩
        case measure => simp [intOf]; omega
end Go.Proofs.Ytigakbhficoonaa.Prs
