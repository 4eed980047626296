/- l5Join: the model's way of joining. -/
import Derived.Test.YtcknlidbjnmbjaaGreatDoorRSG
namespace Go.Proofs.YtcknlidbjnmbjaaGreatDoor.Tgt
open Go.RowKit Go.Proofs.YtcknlidbjnmbjaaGreatDoor.Fil Go.Proofs.YtcknlidbjnmbjaaGreatDoor.Rul
open Go.Proofs.YtcknlidbjnmbjaaGreatDoor.Lab (Lb HasL e0 flat ren keepT jm has GoodP jo Jn goodL)
set_option maxHeartbeats 8000000 in
set_option maxRecDepth 100000 in
theorem f19 (t : Tg) (a : Option Addr) (n c : Nat) (l : List Lb) (w : World) (hr : Has w t) (hn : l.length = n) (hl : HasL w a l) (hg : GoodP l) (hg' : GoodP t.ls) :
    Calls Tryz.prog 19 #[agT t, .slice a n c] w fun e w' => ∃ a' m c' b, e = .returned (.tuple #[.slice a' m c', .bool b]) ∧ Below w.heap.size w w' ∧ (b = true → ∃ M, jo t.ls l t.ho = some M ∧ w'.ownsRow w.heap.size 48 2 (.slice a' m c') m (flat M)) ∧ (b = false → jo t.ls l t.ho = none) := by
  obtain ⟨ls, la, lc, ev, lm, ho, qs, ra, rc⟩ := t
  obtain ⟨i0, hi, hz0, hz1, hz2⟩ := info_parts Lab.info50
  have H0 := hid (To.new hr)
  have HR := hid hr
  have HN := hid hn
  have HG := hid hg
  have HG' := hid hg'
  have HLL := hid hl
  have hn20 : n ≤ 20 := by rw [← hn]; exact hg.1
  have hl20 : ls.length ≤ 20 := hg'.1
  clear hn hg hg' hr
  go_enter Tryz.func19, Tryz.ntmps19
  go_wp2_with fail
  go_loopw [6, 16] (fun so si wr => ∃ (k c' : Nat) (a' : Option Addr), k ≤ n ∧ si = .int .i64 k ∧ so = .slice a' k c' ∧ wr.ownsRow (w.heap.size + 1) 48 2 (.slice a' k c') k (flat ((l.take k).map (ren ls ho))) ∧ Hid (To w ⟨ls, la, lc, ev, lm, ho, qs, ra, rc⟩ wr)) (fun _ si _ => n - (intOf si).toNat)
  case atStart => exact ⟨0, 0, none, Nat.zero_le _, rfl, rfl, World.ownsRow_nil _ _ _ _, H0.out⟩
  case round =>
    obtain ⟨k, c', a', hk, rfl, rfl, hown, HX⟩ := hrel
    have HO := hid hown
    have BO : Hid (∀ j, (Value.slice a' k c').ownBlock = some j → w.heap.size + 1 ≤ j ∧ j < wr.heap.size) := fun j hj => HO.out.lt j hj
    by_cases hlt : k < n
    · rcases hl with hl | ⟨b, off, rfl, hbl, hc⟩
      · exact absurd HN.out (by rw [hl]; simp; omega)
      obtain ⟨c0, c1⟩ := hc k (by rw [HN.out]; exact hlt)
      have d0' := (HX.out.bel.cell (p := ⟨b, off + k * 2, none⟩) hbl).trans c0
      have d1' := (HX.out.bel.cell (p := ⟨b, off + k * 2 + 1, none⟩) hbl).trans c1
      have HRT := hid (Lab.ren_take (ls := ls) (ho := ho) (by rw [HN.out]; exact hlt : k < l.length))
      have hps : (l.getD k e0).1.size ≤ 40 := by
        have h1 : k < l.length := by rw [HN.out]; exact hlt
        rw [Lab.getD_mem_lt h1]; exact (Lab.good_small HG.out _ (List.getElem_mem h1)).1
      clear hc c0 c1 hown
      generalize l.getD k e0 = p at *
      have HB1 := hid (heap_alloc_new wr (.cells #[.string p.1, .string p.2] 48))
      have HO1 := hid (HO.out.alloc (.cells #[.string p.1, .string p.2] 48))
      have HX1 := hid (HX.out.alloc (.cells #[.string p.1, .string p.2] 48))
      obtain ⟨b0, b1, b2, b3, b4⟩ := cells5 HX1.out.box
      go_wp2_with fail
      refine (Lab.f35w la ls.length lc ls p.1 _ rfl (by omega) HX1.out.has.lab).mono ?_
      rintro e w2 ⟨v, hov, rfl, hb2⟩
      have hem := Lab.ofV_has (Lab.val_ne HG'.out) hov
      have HO2 := hid (Lab.own_below HO1.out hb2)
      have HX2 := hid (HX1.out.below hb2)
      have HB2 := hid (kept HB1.out hb2)
      have hlt2 : wr.heap.size < w2.heap.size := lt_at HB2.out
      have hwr : w.heap.size < wr.heap.size := lt_at HX.out.box
      clear hov hb2 HB1 HO1 HX1 b0 b1 b2 b3 b4 d0' d1'
      obtain ⟨b0, b1, b2, b3, b4⟩ := cells5 HX2.out.box
      by_cases hre : has ls p.1 = true ∧ ho = false
      · obtain ⟨hre1, rfl⟩ := hre
        have HRN := hid (Lab.ren_yes hre1)
        rw [hre1] at hem
        have hem' : v.toList.isEmpty = false := hem
        clear hem hre1
        have q0 := Lab.two0 HB2.out
        have q1 := Lab.two1 HB2.out
        have rf := two_frz (o := 0) HB2.out
        have HG2 := hid (grown_set w2 wr.heap.size 0 (.string (Lab.exS ++ p.1)))
        have HO2s := hid (HO2.out.kept HG2.out (by
          cases h1 : (Value.slice a' k c').ownBlock with
          | none => exact .inl rfl
          | some j => exact .inr (fun e => by have := BO.out j h1; have := Option.some.inj e; omega)))
        have HX2s := hid (HX2.out.grown HR.out HG2.out (fun j e => by have := Option.some.inj e; omega))
        have hsz2 : (w2.setCell ⟨wr.heap.size, 0, none⟩ (.string (Lab.exS ++ p.1))).heap.size = w2.heap.size := by simp
        obtain ⟨W, hW⟩ : ∃ W, W = w2.setCell ⟨wr.heap.size, 0, none⟩ (.string (Lab.exS ++ p.1)) := ⟨_, rfl⟩
        rw [← hW] at HO2s HX2s hsz2
        have HBW : Hid (W.heap[wr.heap.size]? = some (.cells #[.string (Lab.exS ++ p.1), .string p.2] 48)) := by rw [hW]; exact two_set HB2.out _
        have HW := hid hW
        have HSZ := hid hsz2
        clear hW hsz2
        go_upto_region 7 with fail
        clear q0 q1 rf b0 b1 b2 b3 b4
        change Code.wp _ _ _ _ (w2.setCell ⟨wr.heap.size, 0, none⟩ (.string (Lab.exS ++ p.1)))
        rw [← HW.out]
        have q0 := Lab.two0 HBW.out
        have q1 := Lab.two1 HBW.out
        generalize hxn : Lab.exS ++ p.1 = xn at *
        have HXN := hid hxn
        clear hxn
        go_wp2_with (at_builtin; refine wpList_append_own _ rfl (.tmp 35) (.tmp 37) 28 rfl (w.heap.size + 1) 48 i0 (.agg #[.string ByteArray.empty, .string ByteArray.empty]) 2 32 Tryz.underlying28 hi hz0 hz1 hz2 rfl (by decide) _ _ _ rfl (HO2s.out.alloc _) ⟨W.heap.size, 0, none⟩ 1 1 [.string xn, .string p.2] rfl rfl ?e1 ?e2 ?e3 ?e4 ?e5 ?_)
        case e1 =>
          have := Lab.two_new W (.string xn) (.string p.2) 48
          try simp only [World.size_alloc] at this
          exact this
        case e2 => intro u hu; simp at hu; rcases hu with rfl | rfl <;> rfl
        case e3 => unfold maxLen; omega
        case e4 => omega
        case e5 => have := HX2s.out.bel.size; simp; omega
        intro v3 w3 hown3 hgr3 _
        obtain ⟨a3, c3, rfl⟩ := Lab.own_form hown3
        have HO3 : Hid (w3.ownsRow (w.heap.size + 1) 48 2 (.slice a3 (k + 1) c3) (k + 1) (flat ((l.take (k + 1)).map (ren ls false)))) := by unfold Hid; rw [HRT.out, HRN.out, List.map_take]; exact hown3
        have HX3 := hid ((HX2s.out.alloc (.cells #[.string xn, .string p.2] 48)).grown HR.out hgr3 (fun j hj => (BO.out j hj).1))
        clear hown3 hgr3 q0 q1
        go_wp2
        go_roundw
        case rel => exact ⟨k + 1, c3, a3, by omega, by go_num, rfl, HO3.out, HX3.out⟩
        case measure => simp [intOf]; omega
      · have hrn : ren ls ho p = p := Lab.ren_no (by
          cases h1 : has ls p.1
          · exact .inl rfl
          · exact .inr (by cases ho; exact absurd ⟨h1, rfl⟩ hre; rfl))
        have HRN := hid hrn
        have hem' : v.toList.isEmpty = true ∨ ho = true := by
          rw [hem]
          cases h1 : has ls p.1
          · exact .inl rfl
          · exact .inr (by cases ho; exact absurd ⟨h1, rfl⟩ hre; rfl)
        clear hre hem hrn
        have q0 := Lab.two0 HB2.out
        have q1 := Lab.two1 HB2.out
        have key : (v.toList.isEmpty = true ∧ ho = false) ∨ (v.toList.isEmpty = true ∧ ho = true) ∨ (v.toList.isEmpty = false ∧ ho = true) := by
          cases h1 : v.toList.isEmpty <;> cases h2 : ho <;> simp [h1, h2] at hem' ⊢
        clear hem'
        rcases key with ⟨hv, rfl⟩ | ⟨hv, rfl⟩ | ⟨hv, rfl⟩
        · go_wp2_with (at_builtin; refine wpList_append_own _ rfl (.tmp 35) (.tmp 37) 28 rfl (w.heap.size + 1) 48 i0 (.agg #[.string ByteArray.empty, .string ByteArray.empty]) 2 32 Tryz.underlying28 hi hz0 hz1 hz2 rfl (by decide) _ _ _ rfl (HO2.out.alloc _) ⟨w2.heap.size, 0, none⟩ 1 1 [.string p.1, .string p.2] rfl rfl ?d11 ?d12 ?d13 ?d14 ?d15 ?_)
          case d11 =>
            have := Lab.two_new w2 (.string p.1) (.string p.2) 48
            try simp only [World.size_alloc] at this
            exact this
          case d12 => intro u hu; simp at hu; rcases hu with rfl | rfl <;> rfl
          case d13 => unfold maxLen; omega
          case d14 => omega
          case d15 => have := HX2.out.bel.size; simp; omega
          intro v3 w3 hown3 hgr3 _
          obtain ⟨a3, c3, rfl⟩ := Lab.own_form hown3
          have HO3 : Hid (w3.ownsRow (w.heap.size + 1) 48 2 (.slice a3 (k + 1) c3) (k + 1) (flat ((l.take (k + 1)).map (ren ls false)))) := by unfold Hid; rw [HRT.out, HRN.out, List.map_take]; exact hown3
          have HX3 := hid ((HX2.out.alloc (.cells #[.string p.1, .string p.2] 48)).grown HR.out hgr3 (fun j hj => (BO.out j hj).1))
          clear hown3 hgr3 q0 q1 b0 b1 b2 b3 b4
          go_wp2
          go_roundw
          case rel => exact ⟨k + 1, c3, a3, by omega, by go_num, rfl, HO3.out, HX3.out⟩
          case measure => simp [intOf]; omega
        · go_wp2_with (at_builtin; refine wpList_append_own _ rfl (.tmp 35) (.tmp 37) 28 rfl (w.heap.size + 1) 48 i0 (.agg #[.string ByteArray.empty, .string ByteArray.empty]) 2 32 Tryz.underlying28 hi hz0 hz1 hz2 rfl (by decide) _ _ _ rfl (HO2.out.alloc _) ⟨w2.heap.size, 0, none⟩ 1 1 [.string p.1, .string p.2] rfl rfl ?d21 ?d22 ?d23 ?d24 ?d25 ?_)
          case d21 =>
            have := Lab.two_new w2 (.string p.1) (.string p.2) 48
            try simp only [World.size_alloc] at this
            exact this
          case d22 => intro u hu; simp at hu; rcases hu with rfl | rfl <;> rfl
          case d23 => unfold maxLen; omega
          case d24 => omega
          case d25 => have := HX2.out.bel.size; simp; omega
          intro v3 w3 hown3 hgr3 _
          obtain ⟨a3, c3, rfl⟩ := Lab.own_form hown3
          have HO3 : Hid (w3.ownsRow (w.heap.size + 1) 48 2 (.slice a3 (k + 1) c3) (k + 1) (flat ((l.take (k + 1)).map (ren ls true)))) := by unfold Hid; rw [HRT.out, HRN.out, List.map_take]; exact hown3
          have HX3 := hid ((HX2.out.alloc (.cells #[.string p.1, .string p.2] 48)).grown HR.out hgr3 (fun j hj => (BO.out j hj).1))
          clear hown3 hgr3 q0 q1 b0 b1 b2 b3 b4
          go_wp2
          go_roundw
          case rel => exact ⟨k + 1, c3, a3, by omega, by go_num, rfl, HO3.out, HX3.out⟩
          case measure => simp [intOf]; omega
        · go_wp2_with (at_builtin; refine wpList_append_own _ rfl (.tmp 35) (.tmp 37) 28 rfl (w.heap.size + 1) 48 i0 (.agg #[.string ByteArray.empty, .string ByteArray.empty]) 2 32 Tryz.underlying28 hi hz0 hz1 hz2 rfl (by decide) _ _ _ rfl (HO2.out.alloc _) ⟨w2.heap.size, 0, none⟩ 1 1 [.string p.1, .string p.2] rfl rfl ?d31 ?d32 ?d33 ?d34 ?d35 ?_)
          case d31 =>
            have := Lab.two_new w2 (.string p.1) (.string p.2) 48
            try simp only [World.size_alloc] at this
            exact this
          case d32 => intro u hu; simp at hu; rcases hu with rfl | rfl <;> rfl
          case d33 => unfold maxLen; omega
          case d34 => omega
          case d35 => have := HX2.out.bel.size; simp; omega
          intro v3 w3 hown3 hgr3 _
          obtain ⟨a3, c3, rfl⟩ := Lab.own_form hown3
          have HO3 : Hid (w3.ownsRow (w.heap.size + 1) 48 2 (.slice a3 (k + 1) c3) (k + 1) (flat ((l.take (k + 1)).map (ren ls true)))) := by unfold Hid; rw [HRT.out, HRN.out, List.map_take]; exact hown3
          have HX3 := hid ((HX2.out.alloc (.cells #[.string p.1, .string p.2] 48)).grown HR.out hgr3 (fun j hj => (BO.out j hj).1))
          clear hown3 hgr3 q0 q1 b0 b1 b2 b3 b4
          go_wp2
          go_roundw
          case rel => exact ⟨k + 1, c3, a3, by omega, by go_num, rfl, HO3.out, HX3.out⟩
          case measure => simp [intOf]; omega

    · have HO' : Hid (wr.ownsRow (w.heap.size + 1) 48 2 (.slice a' k c') k (flat (l.map (ren ls ho)))) := by
        have := HO.out
        rw [List.take_of_length_le (by rw [HN.out]; omega)] at this
        exact this
      obtain ⟨b0, b1, b2, b3, b4⟩ := cells5 HX.out.box
      clear HO BO hown hl
      go_wp2_with fail
      go_loopw [6, 43] (fun so si wx => ∃ (j m c2 : Nat) (a2 : Option Addr), j ≤ ls.length ∧ m ≤ k + j ∧ si = .int .i64 j ∧ so = .slice a2 m c2 ∧ Hid (wx.ownsRow (w.heap.size + 1) 48 2 (.slice a2 m c2) m (flat (l.map (ren ls ho) ++ (ls.take j).filter (keepT l ho)))) ∧ Hid (To w ⟨ls, la, lc, ev, lm, ho, qs, ra, rc⟩ wx)) (fun _ si _ => ls.length - (intOf si).toNat)
      case atStart => exact ⟨0, k, c', a', Nat.zero_le _, Nat.le_refl _, rfl, rfl, by simpa [Hid] using HO'.out, HX⟩
      case round =>
        clear HX HO' b0 b1 b2 b3 b4
        obtain ⟨j, m, c2, a2, hj, hm, rfl, rfl, HO, HX⟩ := hrel
        have BO : Hid (∀ i, (Value.slice a2 m c2).ownBlock = some i → w.heap.size + 1 ≤ i) := fun i hi => (HO.out.lt i hi).1
        by_cases hlt2 : j < ls.length
        · have HKY := hid (Lab.keep_yes (l := l) (ho := ho) (A := l.map (ren ls ho)) hlt2)
          have HKN := hid (Lab.keep_no (l := l) (ho := ho) (A := l.map (ren ls ho)) hlt2)
          rcases HX.out.has.lab with hl | ⟨b, off, hla, hbl, hc⟩
          · have hl' : ls = [] := hl
            rw [hl'] at hlt2; simp at hlt2
          have hla' : la = some ⟨b, off, none⟩ := hla
          subst hla'
          obtain ⟨d0', d1'⟩ := hc j hlt2
          clear hc hla
          generalize l.map (ren ls ho) ++ (ls.take j).filter (keepT l ho) = A at *
          have d0 : wr.cell? ⟨b, off + j * 2, none⟩ = some (.string (ls.getD j e0).1) := d0'
          have d1 : wr.cell? ⟨b, off + j * 2 + 1, none⟩ = some (.string (ls.getD j e0).2) := d1'
          clear d0' d1'
          generalize ls.getD j e0 = p at *
          have HB1 := hid (heap_alloc_new wr (.cells #[.string p.1, .string p.2] 48))
          have HO1 := hid (HO.out.alloc (.cells #[.string p.1, .string p.2] 48))
          have HX1 := hid (HX.out.alloc (.cells #[.string p.1, .string p.2] 48))
          obtain ⟨b0, b1, b2, b3, b4⟩ := cells5 HX.out.box
          go_wp2_with fail
          refine (Lab.f35w a n c l p.1 _ HN.out (by omega) (HLL.out.below HX1.out.bel)).mono ?_
          rintro e w2 ⟨v, hov, rfl, hb2⟩
          have hem := Lab.ofV_has (Lab.val_ne HG.out) hov
          have HK : Hid (keepT l ho p = (v.toList.isEmpty || !ho)) := by unfold Hid keepT; rw [hem]
          have HO2 := hid (Lab.own_below HO1.out hb2)
          have HX2 := hid (HX1.out.below hb2)
          have HB2 := hid (kept HB1.out hb2)
          have hlt3 : wr.heap.size < w2.heap.size := lt_at HB2.out
          have hwr : w.heap.size < wr.heap.size := lt_at HX.out.box
          clear hov hb2 HB1 HO1 HX1 b0 b1 b2 b3 b4 d0 d1 hem
          obtain ⟨b0, b1, b2, b3, b4⟩ := cells5 HX2.out.box
          have q0 := Lab.two0 HB2.out
          have q1 := Lab.two1 HB2.out
          have key : (v.toList.isEmpty = true ∧ (v.toList.isEmpty || !ho) = true) ∨ (v.toList.isEmpty = false ∧ ho = false ∧ (v.toList.isEmpty || !ho) = true) ∨ (v.toList.isEmpty = false ∧ ho = true ∧ (v.toList.isEmpty || !ho) = false) := by
            cases h1 : v.toList.isEmpty <;> cases h2 : ho <;> simp
          rcases key with ⟨hv, hkk⟩ | ⟨hv, hho, hkk⟩ | ⟨hv, hho, hkk⟩
          · have HKK := hid (HKY.out (HK.out.trans hkk))
            clear hkk
            go_wp2_with (at_builtin; refine wpList_append_own _ rfl (.tmp 57) (.tmp 59) 28 rfl (w.heap.size + 1) 48 i0 (.agg #[.string ByteArray.empty, .string ByteArray.empty]) 2 32 Tryz.underlying28 hi hz0 hz1 hz2 rfl (by decide) _ _ _ rfl (HO2.out.alloc _) ⟨w2.heap.size, 0, none⟩ 1 1 [.string p.1, .string p.2] rfl rfl ?g11 ?g12 ?g13 ?g14 ?g15 ?_)
            case g11 =>
              have := Lab.two_new w2 (.string p.1) (.string p.2) 48
              try simp only [World.size_alloc] at this
              exact this
            case g12 => intro u hu; simp at hu; rcases hu with rfl | rfl <;> rfl
            case g13 => unfold maxLen; omega
            case g14 => omega
            case g15 => have := HX2.out.bel.size; simp; omega
            intro v3 w3 hown3 hgr3 _
            obtain ⟨a3, c3, rfl⟩ := Lab.own_form hown3
            have HO3 : Hid (w3.ownsRow (w.heap.size + 1) 48 2 (.slice a3 (m + 1) c3) (m + 1) (flat (l.map (ren ls ho) ++ (ls.take (j + 1)).filter (keepT l ho)))) := by unfold Hid; rw [HKK.out]; exact hown3
            have HX3 := hid ((HX2.out.alloc (.cells #[.string p.1, .string p.2] 48)).grown HR.out hgr3 (fun i hi => BO.out i hi))
            clear hown3 hgr3 q0 q1 b0 b1 b2 b3 b4
            go_wp2
            go_roundw
            case rel => exact ⟨j + 1, m + 1, c3, a3, by omega, by omega, by go_num, rfl, HO3, HX3⟩
            case measure => simp [intOf]; omega
          · have HKK := hid (HKY.out (HK.out.trans hkk))
            clear hkk
            subst hho
            go_wp2_with (at_builtin; refine wpList_append_own _ rfl (.tmp 57) (.tmp 59) 28 rfl (w.heap.size + 1) 48 i0 (.agg #[.string ByteArray.empty, .string ByteArray.empty]) 2 32 Tryz.underlying28 hi hz0 hz1 hz2 rfl (by decide) _ _ _ rfl (HO2.out.alloc _) ⟨w2.heap.size, 0, none⟩ 1 1 [.string p.1, .string p.2] rfl rfl ?g21 ?g22 ?g23 ?g24 ?g25 ?_)
            case g21 =>
              have := Lab.two_new w2 (.string p.1) (.string p.2) 48
              try simp only [World.size_alloc] at this
              exact this
            case g22 => intro u hu; simp at hu; rcases hu with rfl | rfl <;> rfl
            case g23 => unfold maxLen; omega
            case g24 => omega
            case g25 => have := HX2.out.bel.size; simp; omega
            intro v3 w3 hown3 hgr3 _
            obtain ⟨a3, c3, rfl⟩ := Lab.own_form hown3
            have HO3 : Hid (w3.ownsRow (w.heap.size + 1) 48 2 (.slice a3 (m + 1) c3) (m + 1) (flat (l.map (ren ls false) ++ (ls.take (j + 1)).filter (keepT l false)))) := by unfold Hid; rw [HKK.out]; exact hown3
            have HX3 := hid ((HX2.out.alloc (.cells #[.string p.1, .string p.2] 48)).grown HR.out hgr3 (fun i hi => BO.out i hi))
            clear hown3 hgr3 q0 q1 b0 b1 b2 b3 b4
            go_wp2
            go_roundw
            case rel => exact ⟨j + 1, m + 1, c3, a3, by omega, by omega, by go_num, rfl, HO3, HX3⟩
            case measure => simp [intOf]; omega
          · have HKK := hid (HKN.out (HK.out.trans hkk))
            clear hkk
            subst hho
            have HO3 : Hid (w2.ownsRow (w.heap.size + 1) 48 2 (.slice a2 m c2) m (flat (l.map (ren ls true) ++ (ls.take (j + 1)).filter (keepT l true)))) := by unfold Hid; rw [HKK.out]; exact HO2.out
            go_wp2
            go_roundw
            case rel => exact ⟨j + 1, m, c2, a2, by omega, by omega, by go_num, rfl, HO3, HX2⟩
            case measure => simp [intOf]; omega
        · have HJ : Hid (wr.ownsRow (w.heap.size + 1) 48 2 (.slice a2 m c2) m (flat (jm ls l ho))) := by
            have := HO.out
            rw [List.take_of_length_le (by omega)] at this
            exact this
          have HJL := hid (Lab.own_len HJ.out)
          have hm40 : m ≤ 40 := by omega
          have HJA := hid (Lab.HasL.owno HJ.out)
          have HV := hid (Lab.jm_val ho HG'.out HG.out)
          have HS := hid (Lab.jm_small ho HG'.out HG.out)
          have HB := hid HX.out.bel
          have HB' : Hid (w.heap.size + 1 ≤ wr.heap.size) := lt_at HX.out.box
          have HJO1 := hid (Lab.jo_none (ls := ls) (l := l) (ho := ho))
          have HJO2 := hid (fun M => Lab.jo_some (ls := ls) (l := l) (ho := ho) (M := M))
          clear HO BO HJ HX
          generalize jm ls l ho = J at *
          clear HLL HR HG HG' HN hl20 hn20
          go_wp2_with fail
          go_loopw [11, 64] (fun so si wx => ∃ (q m3 c3 : Nat) (a3 : Option Addr) (out : List Lb), q ≤ m ∧ m3 ≤ q ∧ si = .int .i64 q ∧ so = .slice a3 m3 c3 ∧ Hid (Jn J q out) ∧ Hid (wx.ownsRow (w.heap.size + 1) 48 2 (.slice a3 m3 c3) m3 (flat out)) ∧ Hid (HasL wx a2 J) ∧ Hid (Below w.heap.size w wx) ∧ Hid (w.heap.size + 1 ≤ wx.heap.size)) (fun _ si _ => m - (intOf si).toNat)
          case atStart => exact ⟨0, 0, 0, none, [], Nat.zero_le _, Nat.le_refl _, rfl, rfl, Lab.jn_zero J, World.ownsRow_nil _ _ _ _, HJA, HB, HB'⟩
          case round =>
            clear HJA HB HB'
            obtain ⟨q, m3, c3, a3, out, hq, hm3, rfl, rfl, HJn, HO, HJA, HB, HB'⟩ := hrel
            have HOL := hid (Lab.own_len HO.out)
            by_cases hlt4 : q < m
            · have hqJ : q < J.length := by rw [HJL.out]; exact hlt4
              have HST := hid (Lab.jn_step hqJ HJn.out HV.out)
              have HNO := hid (Lab.jn_none hqJ HJn.out)
              have hps : (J.getD q e0).1.size ≤ maxLen := by
                rw [Lab.getD_mem_lt hqJ]
                have := (HS.out _ (List.getElem_mem hqJ)).1
                unfold maxLen; omega
              have HVO : Hid (∀ p ∈ out, p.2 ≠ ByteArray.empty) := fun p hp => HV.out p (HJn.out.mem hp)
              rcases HJA.out with hl | ⟨b, off, rfl, hbl, hc⟩
              · rw [hl] at hqJ; simp at hqJ
              obtain ⟨d0, d1⟩ := hc q hqJ
              clear hc hqJ
              generalize J.getD q e0 = p at *
              have HB1 := hid (heap_alloc_new wr (.cells #[.string p.1, .string p.2] 48))
              have hbb := (Below.refl wr.heap.size wr).alloc (Nat.le_refl _) (.cells #[.string p.1, .string p.2] 48)
              have HO1 := hid (HO.out.alloc (.cells #[.string p.1, .string p.2] 48))
              have HJ1 := hid (HJA.out.below hbb)
              have HL1 := hid (HB.out.trans (hbb.mono HB.out.size))
              clear hbb
              go_wp2_with fail
              refine (Lab.f35w a3 m3 c3 out p.1 _ HOL.out (by omega) (Lab.HasL.owno HO1.out)).mono ?_
              rintro e w2 ⟨v, hov, rfl, hb2⟩
              have hem := Lab.ofV_has HVO.out hov
              have HO2 := hid (Lab.own_below HO1.out hb2)
              have HB2 := hid (kept HB1.out hb2)
              have HJ2 := hid (HJ1.out.below hb2)
              have HL2 := hid (HL1.out.trans (hb2.mono HL1.out.size))
              have HS2 : Hid (w.heap.size + 1 ≤ w2.heap.size) := Nat.le_trans HB'.out (Nat.le_of_lt (lt_at HB2.out))
              clear hov hb2 HB1 HO1 HJ1 HL1 d0 d1
              have q0 := Lab.two0 HB2.out
              have q1 := Lab.two1 HB2.out
              cases hh : has out p.1
              · rw [hh] at hem
                have hem' : v.toList.isEmpty = true := hem
                have HST' := hid (HST.out hh)
                clear hem hh
                go_wp2_with fail
                refine (Lab.f36 a3 m3 c3 out p.1 p.2 _ HOL.out (by omega) (Lab.HasL.owno HO2.out) hps).mono ?_
                rintro e w4 ⟨a4, m4, c4, rfl, ho4, hb4⟩
                have HO4 := hid (Lab.own_based ho4 HS2.out)
                have HJ4 := hid (HJ2.out.below hb4)
                have HL4 := hid (HL2.out.trans (hb4.mono HL2.out.size))
                have HS4 : Hid (w.heap.size + 1 ≤ w4.heap.size) := Nat.le_trans HS2.out hb4.size
                have hm4 : m4 ≤ q + 1 := by rw [← Lab.own_len ho4]; exact HST'.out.len
                clear ho4 hb4
                go_wp2
                go_roundw
                case rel => exact ⟨q + 1, m4, c4, a4, _, by omega, hm4, by go_num, rfl, HST', HO4, HJ4, HL4, HS4⟩
                case measure => simp [intOf]; omega
              · rw [hh] at hem
                have hem' : v.toList.isEmpty = false := hem
                have HN' := hid (HJO1.out (HNO.out hh))
                clear hem hh
                go_wp2
                go_ret2
                exact ⟨none, 0, 0, false, rfl, HL2.out, (fun h => absurd h (by simp)), (fun _ => HN'.out)⟩
            · have HE := hid (HJO2.out out (Lab.jn_end (by rw [HJL.out]; omega) HJn.out))
              have HF : Hid (Lab.Fit out) := Lab.fit_small fun p hp => HS.out p (HJn.out.mem hp)
              go_wp2_with fail
              refine (Lab.f18 a3 m3 c3 out _ HOL.out (by unfold maxLen; omega) (Lab.HasL.owno HO.out) HF.out).mono ?_
              rintro e w5 ⟨rfl, hb5⟩
              have HO5 := hid (Lab.own_based (Lab.own_below HO.out hb5) (Nat.le_succ w.heap.size))
              have HL5 := hid (HB.out.trans (hb5.mono HB.out.size))
              clear hb5
              generalize goodL out = gb at *
              go_wp2
              go_ret2
              exact ⟨a3, m3, c3, gb, rfl, HL5.out, fun h => ⟨out, by rw [HE.out, if_pos h], HO5.out⟩, fun h => by rw [HE.out, if_neg (by rw [h]; simp)]⟩
end Go.Proofs.YtcknlidbjnmbjaaGreatDoor.Tgt
