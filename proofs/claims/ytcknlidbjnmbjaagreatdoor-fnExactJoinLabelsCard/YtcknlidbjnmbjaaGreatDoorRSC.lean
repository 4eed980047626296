/- The library's sort at labels, laid off the shelf. -/
import Derived.Shelf.SlSortCmp.WholeK
import Derived.Shelf.SlGeneric
import Derived.Shelf.Lay
import Derived.Ground.SlsfProg
import Derived.Test.YtcknlidbjnmbjaaGreatDoorRSE
import Derived.Test.YtcknlidbjnmbjaaGreatDoorRSG
import Derived.Test.YtcknlidbjnmbjaaGreatDoorRCB
namespace Go.Proofs
open Go.Shelf Go.RowKit Go.Lib Go.Sort
shelf_lay_g SlLaysF0.n6 Slsf 6 at Tryz 45 as Tryz.sortL
end Go.Proofs
namespace Go.Proofs.YtcknlidbjnmbjaaGreatDoor.Lab
open Go.Shelf Go.RowKit Go.Lib Go.Sort
theorem cmpLays (blk off size : Nat) (w : World) : CmpLays Tryz.prog 43 #[] encL 2 cmpN blk off size w :=
  fun _ _ _ _ x y => f43g x y _
/-- What lies there is sorted by name; nothing else is written. -/
theorem fSort (g c base : Nat) (L : List Lb) (w : World) (h : w.ownsRow base 48 2 (.slice (some ⟨g, 0, none⟩) L.length c) L.length (flat L)) (hsz : L.length ≤ 1048576) :
    Calls Tryz.prog 45 #[.slice (some ⟨g, 0, none⟩) L.length c, .func (.func 43) #[] #[]] w fun e w' => e = .returned (.tuple #[]) ∧ ∃ L' : List Lb, L'.Perm L ∧ (∀ i j, i < j → j < L'.length → 0 ≤ cmpN (L'.getD j e0) (L'.getD i e0)) ∧ w'.ownsRow base 48 2 (.slice (some ⟨g, 0, none⟩) L.length c) L.length (flat L') ∧ w.grownBy w' (some g) := by
  have eg : ∀ args w, (callFunc 43 args).run Tryz.prog w = .ok (.enter 43 args) w := enters_of Tryz.func43 (by kernel_rfl) rfl
  have hcon := AnyQ.slices_SortFunc Tryz.sortL 2 Tryz.isAgg48 Tryz.sizeOf48 encL (fun _ => rfl) (fun x v hv => by simp [encL] at hv; rcases hv with rfl | rfl <;> rfl) cmpN swoN 43 #[] g 0 c L.toArray w eg (cmpLays g 0 _ w) (own_holds h) (h.lt g rfl).2 (by simp; omega)
  change Calls Tryz.prog 45 _ _ _ at hcon
  refine hcon.mono ?_
  rintro e w' ⟨rfl, d', m, os, hp, hs, rfl⟩
  obtain ⟨hd, _, hperm⟩ := hp
  have hd' : d'.size = L.length := by simpa using hd
  obtain ⟨k1, k2⟩ := sort_own h m d' hd' os
  refine ⟨rfl, d'.toList, ?_, fun i j hij hj => ?_, k1, k2⟩
  · have e1 : (d'.extract 0 L.toArray.size).toList = d'.toList := by simp [← hd']
    have e2 : (L.toArray.extract 0 L.toArray.size).toList = L := by simp
    rw [e1, e2] at hperm
    exact hperm
  · have hj' : j < d'.size := by simpa using hj
    have := hs i j (Nat.zero_le _) hij (by rw [← hd]; exact hj')
    unfold ltOf at this
    have h1 := of_decide_eq_false this
    rw [getElem!_pos _ j hj', getElem!_pos _ i (by omega)] at h1
    have g1 : d'.toList.getD j e0 = d'[j] := by simp [hj']
    have g2 : d'.toList.getD i e0 = d'[i]'(by omega) := by simp [show i < d'.size by omega]
    rw [g1, g2]
    omega
end Go.Proofs.YtcknlidbjnmbjaaGreatDoor.Lab
/- joinLabels: the program's way of joining. -/
namespace Go.Proofs.YtcknlidbjnmbjaaGreatDoor.Lab
open Go.RowKit
theorem join_jo {ls l L : List Lb} {ho : Bool} (hg : GoodP ls) (hg' : GoodP l) (hp : L.Perm (jp ls l ho)) (hs : ∀ i j, i < j → j < L.length → 0 ≤ cmpN (L.getD j e0) (L.getD i e0)) : jo ls l ho = if goodL L = true then some L else none := by
  rcases join_eq (jp_perm ls l ho) hp hs (jm_val ho hg hg') with h | ⟨h, h2⟩
  · exact jo_some h
  · rw [jo_none h, h2]; rfl
theorem jp_small {ls l L : List Lb} (ho : Bool) (h : GoodP ls) (h' : GoodP l) (hp : L.Perm (jp ls l ho)) : Fit L :=
  fit_small fun p hp' => jm_small ho h h' p ((jp_perm ls l ho).mem_iff.1 (hp.mem_iff.1 hp'))
theorem keep_flat {ls l : List Lb} {ho : Bool} {k : Nat} (hk : k < ls.length) (h : keepT l ho (ls.getD k e0) = true) : flat ((ls.take (k + 1)).filter (keepT l ho)) = flat ((ls.take k).filter (keepT l ho)) ++ [.string (ls.getD k e0).1, .string (ls.getD k e0).2] := by
  simpa using keep_yes (A := []) hk h
theorem keep_same {ls l : List Lb} {ho : Bool} {k : Nat} (hk : k < ls.length) (h : keepT l ho (ls.getD k e0) = false) : (ls.take (k + 1)).filter (keepT l ho) = (ls.take k).filter (keepT l ho) := by
  simpa using keep_no (A := []) hk h
theorem ren_more {ls l A : List Lb} {ho : Bool} {k : Nat} (hk : k < l.length) : flat (A ++ (l.take (k + 1)).map (ren ls ho)) = flat (A ++ (l.take k).map (ren ls ho)) ++ [.string (ren ls ho (l.getD k e0)).1, .string (ren ls ho (l.getD k e0)).2] := by
  rw [List.take_succ_eq_append_getElem hk, List.map_append, getD_mem_lt hk, ← List.append_assoc]; exact flat_snoc _ _
end Go.Proofs.YtcknlidbjnmbjaaGreatDoor.Lab
namespace Go.Proofs.YtcknlidbjnmbjaaGreatDoor.Tgt
open Go.RowKit Go.Proofs.YtcknlidbjnmbjaaGreatDoor.Fil Go.Proofs.YtcknlidbjnmbjaaGreatDoor.Rul
open Go.Proofs.YtcknlidbjnmbjaaGreatDoor.Lab (Lb HasL e0 flat ren keepT jm jp has GoodP jo goodL)
set_option maxHeartbeats 8000000 in
set_option maxRecDepth 100000 in
theorem f24 (t : Tg) (a : Option Addr) (n c : Nat) (l : List Lb) (w : World) (hr : Has w t) (hn : l.length = n) (hl : HasL w a l) (hg : GoodP l) (hg' : GoodP t.ls) :
    Calls Tryz.prog 24 #[agT t, .slice a n c] w fun e w' => ∃ a' m c' b, e = .returned (.tuple #[.slice a' m c', .bool b]) ∧ Below w.heap.size w w' ∧ (b = true → ∃ M, jo t.ls l t.ho = some M ∧ w'.ownsRow w.heap.size 48 2 (.slice a' m c') m (flat M)) ∧ (b = false → jo t.ls l t.ho = none ∧ a' = none ∧ m = 0 ∧ c' = 0) := by
  obtain ⟨ls, la, lc, ev, lm, ho, qs, ra, rc⟩ := t
  obtain ⟨i0, hi, hz0, hz1, hz2⟩ := info_parts Lab.info50
  have H0 := hid (To.new hr)
  have HR := hid hr
  have HN := hid hn
  have HG := hid hg
  have HG' := hid hg'
  have HLL := hid hl
  have hn20 : n ≤ 20 := by rw [← hn]; exact hg.1
  have hl20 : ls.length ≤ 20 := hg'.1
  clear hn hg hg' hr
  obtain ⟨b0, b1, b2, b3, b4⟩ := cells5 H0.out.box
  go_enter Tryz.func24, Tryz.ntmps24
  go_wp2_with (at_make; refine wpList_make_own _ rfl _ _ 28 rfl (w.heap.size + 1) 48 i0 (.agg #[.string ByteArray.empty, .string ByteArray.empty]) 2 Tryz.underlying28 hi hz0 hz1 _ _ _ (ls.length + n) rfl rfl (by omega) ?b2 ?b3 (by simp) ?_)
  case b2 => omega
  case b3 => unfold maxLen; omega
  intro w0 hown0 hgrow0
  have HX0 := hid (H0.out.grown HR.out hgrow0 (fun k h => by cases h))
  have HO0 := hid hown0
  clear hown0 hgrow0 b0 b1 b2 b3 b4
  obtain ⟨b0, b1, b2, b3, b4⟩ := cells5 HX0.out.box
  go_wp2_with fail
  go_loopw [6, 25] (fun so si wx => ∃ (k m c' g : Nat), k ≤ ls.length ∧ m ≤ k ∧ si = .int .i64 k ∧ so = .slice (some ⟨g, 0, none⟩) m c' ∧ Hid (wx.ownsRow (w.heap.size + 1) 48 2 (.slice (some ⟨g, 0, none⟩) m c') m (flat ((ls.take k).filter (keepT l ho)))) ∧ Hid (To w ⟨ls, la, lc, ev, lm, ho, qs, ra, rc⟩ wx)) (fun _ si _ => ls.length - (intOf si).toNat)
  case atStart => exact ⟨0, 0, _, _, Nat.zero_le _, Nat.le_refl _, rfl, rfl, HO0.out, HX0⟩
  case round =>
    clear HX0 HO0 b0 b1 b2 b3 b4
    obtain ⟨k, m, c', g, hk, hm, rfl, rfl, HO, HX⟩ := hrel
    have BO : Hid (∀ i, (Value.slice (some ⟨g, 0, none⟩) m c').ownBlock = some i → w.heap.size + 1 ≤ i) := fun i hi => (HO.out.lt i hi).1
    by_cases hlt : k < ls.length
    · have HKY := hid (Lab.keep_flat (l := l) (ho := ho) hlt)
      have HKN := hid (Lab.keep_same (l := l) (ho := ho) hlt)
      rcases HX.out.has.lab with hl | ⟨b, off, hla, hbl, hc⟩
      · have hl' : ls = [] := hl
        rw [hl'] at hlt; simp at hlt
      have hla' : la = some ⟨b, off, none⟩ := hla
      subst hla'
      obtain ⟨d0', d1'⟩ := hc k hlt
      clear hc hla
      generalize (ls.take k).filter (keepT l ho) = A at *
      have d0 : wr.cell? ⟨b, off + k * 2, none⟩ = some (.string (ls.getD k e0).1) := d0'
      have d1 : wr.cell? ⟨b, off + k * 2 + 1, none⟩ = some (.string (ls.getD k e0).2) := d1'
      clear d0' d1'
      generalize ls.getD k e0 = p at *
      have HB1 := hid (heap_alloc_new wr (.cells #[.string p.1, .string p.2] 48))
      have HO1 := hid (HO.out.alloc (.cells #[.string p.1, .string p.2] 48))
      have HX1 := hid (HX.out.alloc (.cells #[.string p.1, .string p.2] 48))
      obtain ⟨b0, b1, b2, b3, b4⟩ := cells5 HX.out.box
      go_wp2_with fail
      refine (Lab.f44 a n c l p.1 _ HN.out HG.out (HLL.out.below HX1.out.bel)).mono ?_
      rintro e w2 ⟨lo, hpl, rfl, hb2⟩
      have hph := Lab.place_has HG.out hpl
      rw [HN.out] at hph
      rw [hph]
      have HK : Hid (keepT l ho p = (!has l p.1 || !ho)) := rfl
      generalize has l p.1 = hh at *
      have HO2 := hid (Lab.own_below HO1.out hb2)
      have HX2 := hid (HX1.out.below hb2)
      have HB2 := hid (kept HB1.out hb2)
      have hlt3 : wr.heap.size < w2.heap.size := lt_at HB2.out
      have hwr : w.heap.size < wr.heap.size := lt_at HX.out.box
      clear hpl hph hb2 HB1 HO1 HX1 b0 b1 b2 b3 b4 d0 d1
      obtain ⟨b0, b1, b2, b3, b4⟩ := cells5 HX2.out.box
      have q0 := Lab.two0 HB2.out
      have q1 := Lab.two1 HB2.out
      cases hh
      · have HKK := hid (HKY.out HK.out)
        go_wp2_with (at_builtin; refine wpList_append_own _ rfl (.tmp 43) (.tmp 45) 28 rfl (w.heap.size + 1) 48 i0 (.agg #[.string ByteArray.empty, .string ByteArray.empty]) 2 32 Tryz.underlying28 hi hz0 hz1 hz2 rfl (by decide) _ _ _ rfl (HO2.out.alloc _) ⟨w2.heap.size, 0, none⟩ 1 1 [.string p.1, .string p.2] rfl rfl ?g11 ?g12 ?g13 ?g14 ?g15 ?_)
        case g11 =>
          have := Lab.two_new w2 (.string p.1) (.string p.2) 48
          try simp only [World.size_alloc] at this
          exact this
        case g12 => intro u hu; simp at hu; rcases hu with rfl | rfl <;> rfl
        case g13 => unfold maxLen; omega
        case g14 => omega
        case g15 => have := HX2.out.bel.size; simp; omega
        intro v3 w3 hown3 hgr3 _
        obtain ⟨a3, c3, rfl⟩ := Lab.own_form hown3
        obtain ⟨g3, rfl⟩ : ∃ g3, a3 = some ⟨g3, 0, none⟩ := by
          rcases Lab.own_cases hown3 with ⟨_, h0, _⟩ | h
          · omega
          · exact h
        have HO3 : Hid (w3.ownsRow (w.heap.size + 1) 48 2 (.slice (some ⟨g3, 0, none⟩) (m + 1) c3) (m + 1) (flat ((ls.take (k + 1)).filter (keepT l ho)))) := by unfold Hid; rw [HKK.out]; exact hown3
        have HX3 := hid ((HX2.out.alloc (.cells #[.string p.1, .string p.2] 48)).grown HR.out hgr3 (fun i hi => BO.out i hi))
        clear hown3 hgr3 q0 q1 b0 b1 b2 b3 b4
        go_wp2
        go_roundw
        case rel => exact ⟨k + 1, m + 1, c3, g3, by omega, by omega, by go_num, rfl, HO3, HX3⟩
        case measure => simp [intOf]; omega
      · cases ho
        · have HKK := hid (HKY.out HK.out)
          go_wp2_with (at_builtin; refine wpList_append_own _ rfl (.tmp 43) (.tmp 45) 28 rfl (w.heap.size + 1) 48 i0 (.agg #[.string ByteArray.empty, .string ByteArray.empty]) 2 32 Tryz.underlying28 hi hz0 hz1 hz2 rfl (by decide) _ _ _ rfl (HO2.out.alloc _) ⟨w2.heap.size, 0, none⟩ 1 1 [.string p.1, .string p.2] rfl rfl ?g21 ?g22 ?g23 ?g24 ?g25 ?_)
          case g21 =>
            have := Lab.two_new w2 (.string p.1) (.string p.2) 48
            try simp only [World.size_alloc] at this
            exact this
          case g22 => intro u hu; simp at hu; rcases hu with rfl | rfl <;> rfl
          case g23 => unfold maxLen; omega
          case g24 => omega
          case g25 => have := HX2.out.bel.size; simp; omega
          intro v3 w3 hown3 hgr3 _
          obtain ⟨a3, c3, rfl⟩ := Lab.own_form hown3
          obtain ⟨g3, rfl⟩ : ∃ g3, a3 = some ⟨g3, 0, none⟩ := by
            rcases Lab.own_cases hown3 with ⟨_, h0, _⟩ | h
            · omega
            · exact h
          have HO3 : Hid (w3.ownsRow (w.heap.size + 1) 48 2 (.slice (some ⟨g3, 0, none⟩) (m + 1) c3) (m + 1) (flat ((ls.take (k + 1)).filter (keepT l false)))) := by unfold Hid; rw [HKK.out]; exact hown3
          have HX3 := hid ((HX2.out.alloc (.cells #[.string p.1, .string p.2] 48)).grown HR.out hgr3 (fun i hi => BO.out i hi))
          clear hown3 hgr3 q0 q1 b0 b1 b2 b3 b4
          go_wp2
          go_roundw
          case rel => exact ⟨k + 1, m + 1, c3, g3, by omega, by omega, by go_num, rfl, HO3, HX3⟩
          case measure => simp [intOf]; omega
        · have HKK := hid (HKN.out HK.out)
          have HO3 : Hid (w2.ownsRow (w.heap.size + 1) 48 2 (.slice (some ⟨g, 0, none⟩) m c') m (flat ((ls.take (k + 1)).filter (keepT l true)))) := by unfold Hid; rw [HKK.out]; exact HO2.out
          go_wp2
          go_roundw
          case rel => exact ⟨k + 1, m, c', g, by omega, by omega, by go_num, rfl, HO3, HX2⟩
          case measure => simp [intOf]; omega
    · have HO' : Hid (wr.ownsRow (w.heap.size + 1) 48 2 (.slice (some ⟨g, 0, none⟩) m c') m (flat (ls.filter (keepT l ho)))) := by
        have := HO.out
        rw [List.take_of_length_le (by omega)] at this
        exact this
      obtain ⟨b0, b1, b2, b3, b4⟩ := cells5 HX.out.box
      clear HO BO
      go_wp2_with fail
      go_loopw [6, 50] (fun so si wx => ∃ (j m2 c2 g2 : Nat), j ≤ n ∧ m2 ≤ m + j ∧ si = .int .i64 j ∧ so = .slice (some ⟨g2, 0, none⟩) m2 c2 ∧ Hid (wx.ownsRow (w.heap.size + 1) 48 2 (.slice (some ⟨g2, 0, none⟩) m2 c2) m2 (flat (ls.filter (keepT l ho) ++ (l.take j).map (ren ls ho)))) ∧ Hid (To w ⟨ls, la, lc, ev, lm, ho, qs, ra, rc⟩ wx)) (fun _ si _ => n - (intOf si).toNat)
      case atStart => exact ⟨0, m, c', g, Nat.zero_le _, Nat.le_refl _, rfl, rfl, by simpa [Hid] using HO'.out, HX⟩
      case round =>
        clear HX HO' b0 b1 b2 b3 b4
        obtain ⟨j, m2, c2, g2, hj, hm2, rfl, rfl, HO, HX⟩ := hrel
        have BO : Hid (∀ i, (Value.slice (some ⟨g2, 0, none⟩) m2 c2).ownBlock = some i → w.heap.size + 1 ≤ i ∧ i < wr.heap.size) := fun i hi => HO.out.lt i hi
        by_cases hlt2 : j < n
        · rcases hl with hl | ⟨b, off, rfl, hbl, hc⟩
          · exact absurd HN.out (by rw [hl]; simp; omega)
          have hjl : j < l.length := by rw [HN.out]; exact hlt2
          obtain ⟨c0, c1⟩ := hc j hjl
          have d0' := (HX.out.bel.cell (p := ⟨b, off + j * 2, none⟩) hbl).trans c0
          have d1' := (HX.out.bel.cell (p := ⟨b, off + j * 2 + 1, none⟩) hbl).trans c1
          have HRT := hid (Lab.ren_more (ls := ls) (ho := ho) (A := ls.filter (keepT l ho)) hjl)
          have hps : (l.getD j e0).1.size ≤ 40 := by rw [Lab.getD_mem_lt hjl]; exact (Lab.good_small HG.out _ (List.getElem_mem hjl)).1
          clear hc c0 c1 hjl
          generalize ls.filter (keepT l ho) ++ (l.take j).map (ren ls ho) = A at *
          generalize l.getD j e0 = p at *
          have HB1 := hid (heap_alloc_new wr (.cells #[.string p.1, .string p.2] 48))
          have HO1 := hid (HO.out.alloc (.cells #[.string p.1, .string p.2] 48))
          have HX1 := hid (HX.out.alloc (.cells #[.string p.1, .string p.2] 48))
          obtain ⟨b0, b1, b2, b3, b4⟩ := cells5 HX1.out.box
          go_wp2_with fail
          refine (Lab.f44 la ls.length lc ls p.1 _ rfl HG'.out HX1.out.has.lab).mono ?_
          rintro e w2 ⟨lo, hpl, rfl, hb2⟩
          have hph := Lab.place_has HG'.out hpl
          rw [hph]
          have HK1 := hid (Lab.ren_yes (ls := ls) (p := p))
          have HK2 := hid (Lab.ren_no (ls := ls) (ho := ho) (p := p))
          generalize has ls p.1 = hh at *
          have HO2 := hid (Lab.own_below HO1.out hb2)
          have HX2 := hid (HX1.out.below hb2)
          have HB2 := hid (kept HB1.out hb2)
          have hlt3 : wr.heap.size < w2.heap.size := lt_at HB2.out
          have hwr : w.heap.size < wr.heap.size := lt_at HX.out.box
          clear hpl hph hb2 HB1 HO1 HX1 b0 b1 b2 b3 b4 d0' d1'
          obtain ⟨b0, b1, b2, b3, b4⟩ := cells5 HX2.out.box
          have q0 := Lab.two0 HB2.out
          have q1 := Lab.two1 HB2.out
          cases hh
          · have HRN := hid (HK2.out (.inl rfl))
            go_wp2_with (at_builtin; refine wpList_append_own _ rfl (.tmp 72) (.tmp 74) 28 rfl (w.heap.size + 1) 48 i0 (.agg #[.string ByteArray.empty, .string ByteArray.empty]) 2 32 Tryz.underlying28 hi hz0 hz1 hz2 rfl (by decide) _ _ _ rfl (HO2.out.alloc _) ⟨w2.heap.size, 0, none⟩ 1 1 [.string p.1, .string p.2] rfl rfl ?k11 ?k12 ?k13 ?k14 ?k15 ?_)
            case k11 =>
              have := Lab.two_new w2 (.string p.1) (.string p.2) 48
              try simp only [World.size_alloc] at this
              exact this
            case k12 => intro u hu; simp at hu; rcases hu with rfl | rfl <;> rfl
            case k13 => unfold maxLen; omega
            case k14 => omega
            case k15 => have := HX2.out.bel.size; simp; omega
            intro v3 w3 hown3 hgr3 _
            obtain ⟨a3, c3, rfl⟩ := Lab.own_form hown3
            obtain ⟨g3, rfl⟩ : ∃ g3, a3 = some ⟨g3, 0, none⟩ := by
              rcases Lab.own_cases hown3 with ⟨_, h0, _⟩ | h
              · omega
              · exact h
            have HO3 : Hid (w3.ownsRow (w.heap.size + 1) 48 2 (.slice (some ⟨g3, 0, none⟩) (m2 + 1) c3) (m2 + 1) (flat (ls.filter (keepT l ho) ++ (l.take (j + 1)).map (ren ls ho)))) := by unfold Hid; rw [HRT.out, HRN.out]; exact hown3
            have HX3 := hid ((HX2.out.alloc (.cells #[.string p.1, .string p.2] 48)).grown HR.out hgr3 (fun i hi => (BO.out i hi).1))
            clear hown3 hgr3 q0 q1 b0 b1 b2 b3 b4
            go_wp2
            go_roundw
            case rel => exact ⟨j + 1, m2 + 1, c3, g3, by omega, by omega, by go_num, rfl, HO3, HX3⟩
            case measure => simp [intOf]; omega
          · cases ho
            · have HRN := hid (HK1.out rfl)
              have rf := two_frz (o := 0) HB2.out
              have HG2 := hid (grown_set w2 wr.heap.size 0 (.string (Lab.exS ++ p.1)))
              have HO2s := hid (HO2.out.kept HG2.out (.inr (fun e => by
                have h1 := (BO.out g2 rfl).2
                have e' : g2 = wr.heap.size := Option.some.inj e
                omega)))
              have HX2s := hid (HX2.out.grown HR.out HG2.out (fun j e => by have := Option.some.inj e; omega))
              have hsz2 : (w2.setCell ⟨wr.heap.size, 0, none⟩ (.string (Lab.exS ++ p.1))).heap.size = w2.heap.size := by simp
              obtain ⟨W, hW⟩ : ∃ W, W = w2.setCell ⟨wr.heap.size, 0, none⟩ (.string (Lab.exS ++ p.1)) := ⟨_, rfl⟩
              rw [← hW] at HO2s HX2s hsz2
              have HBW : Hid (W.heap[wr.heap.size]? = some (.cells #[.string (Lab.exS ++ p.1), .string p.2] 48)) := by rw [hW]; exact two_set HB2.out _
              have HW := hid hW
              have HSZ := hid hsz2
              clear hW hsz2
              go_upto_region 15 with fail
              clear q0 q1 rf b0 b1 b2 b3 b4
              change Code.wp _ _ _ _ (w2.setCell ⟨wr.heap.size, 0, none⟩ (.string (Lab.exS ++ p.1)))
              rw [← HW.out]
              have q0 := Lab.two0 HBW.out
              have q1 := Lab.two1 HBW.out
              generalize hxn : Lab.exS ++ p.1 = xn at *
              clear hxn
              go_wp2_with (at_builtin; refine wpList_append_own _ rfl (.tmp 72) (.tmp 74) 28 rfl (w.heap.size + 1) 48 i0 (.agg #[.string ByteArray.empty, .string ByteArray.empty]) 2 32 Tryz.underlying28 hi hz0 hz1 hz2 rfl (by decide) _ _ _ rfl (HO2s.out.alloc _) ⟨W.heap.size, 0, none⟩ 1 1 [.string xn, .string p.2] rfl rfl ?e1 ?e2 ?e3 ?e4 ?e5 ?_)
              case e1 =>
                have := Lab.two_new W (.string xn) (.string p.2) 48
                try simp only [World.size_alloc] at this
                exact this
              case e2 => intro u hu; simp at hu; rcases hu with rfl | rfl <;> rfl
              case e3 => unfold maxLen; omega
              case e4 => omega
              case e5 => have := HX2s.out.bel.size; simp; omega
              intro v3 w3 hown3 hgr3 _
              obtain ⟨a3, c3, rfl⟩ := Lab.own_form hown3
              obtain ⟨g3, rfl⟩ : ∃ g3, a3 = some ⟨g3, 0, none⟩ := by
                rcases Lab.own_cases hown3 with ⟨_, h0, _⟩ | h
                · omega
                · exact h
              have HO3 : Hid (w3.ownsRow (w.heap.size + 1) 48 2 (.slice (some ⟨g3, 0, none⟩) (m2 + 1) c3) (m2 + 1) (flat (ls.filter (keepT l false) ++ (l.take (j + 1)).map (ren ls false)))) := by unfold Hid; rw [HRT.out, HRN.out]; exact hown3
              have HX3 := hid ((HX2s.out.alloc (.cells #[.string xn, .string p.2] 48)).grown HR.out hgr3 (fun i hi => (BO.out i hi).1))
              clear hown3 hgr3 q0 q1
              go_wp2
              go_roundw
              case rel => exact ⟨j + 1, m2 + 1, c3, g3, by omega, by omega, by go_num, rfl, HO3, HX3⟩
              case measure => simp [intOf]; omega
            · have HRN := hid (HK2.out (.inr rfl))
              go_wp2_with (at_builtin; refine wpList_append_own _ rfl (.tmp 72) (.tmp 74) 28 rfl (w.heap.size + 1) 48 i0 (.agg #[.string ByteArray.empty, .string ByteArray.empty]) 2 32 Tryz.underlying28 hi hz0 hz1 hz2 rfl (by decide) _ _ _ rfl (HO2.out.alloc _) ⟨w2.heap.size, 0, none⟩ 1 1 [.string p.1, .string p.2] rfl rfl ?k21 ?k22 ?k23 ?k24 ?k25 ?_)
              case k21 =>
                have := Lab.two_new w2 (.string p.1) (.string p.2) 48
                try simp only [World.size_alloc] at this
                exact this
              case k22 => intro u hu; simp at hu; rcases hu with rfl | rfl <;> rfl
              case k23 => unfold maxLen; omega
              case k24 => omega
              case k25 => have := HX2.out.bel.size; simp; omega
              intro v3 w3 hown3 hgr3 _
              obtain ⟨a3, c3, rfl⟩ := Lab.own_form hown3
              obtain ⟨g3, rfl⟩ : ∃ g3, a3 = some ⟨g3, 0, none⟩ := by
                rcases Lab.own_cases hown3 with ⟨_, h0, _⟩ | h
                · omega
                · exact h
              have HO3 : Hid (w3.ownsRow (w.heap.size + 1) 48 2 (.slice (some ⟨g3, 0, none⟩) (m2 + 1) c3) (m2 + 1) (flat (ls.filter (keepT l true) ++ (l.take (j + 1)).map (ren ls true)))) := by unfold Hid; rw [HRT.out, HRN.out]; exact hown3
              have HX3 := hid ((HX2.out.alloc (.cells #[.string p.1, .string p.2] 48)).grown HR.out hgr3 (fun i hi => (BO.out i hi).1))
              clear hown3 hgr3 q0 q1 b0 b1 b2 b3 b4
              go_wp2
              go_roundw
              case rel => exact ⟨j + 1, m2 + 1, c3, g3, by omega, by omega, by go_num, rfl, HO3, HX3⟩
              case measure => simp [intOf]; omega
        · have HJ : Hid (wr.ownsRow (w.heap.size + 1) 48 2 (.slice (some ⟨g2, 0, none⟩) m2 c2) m2 (flat (jp ls l ho))) := by
            have := HO.out
            rw [List.take_of_length_le (by rw [HN.out]; omega)] at this
            exact this
          have HJL : (jp ls l ho).length = m2 := Lab.own_len HJ.out
          have HB := hid HX.out.bel
          have HGE := hid (HJ.out.lt g2 rfl).1
          have HJO := hid (fun L => Lab.join_jo (ls := ls) (l := l) (ho := ho) (L := L) HG'.out HG.out)
          have HFT := hid (fun L => Lab.jp_small (ls := ls) (l := l) (L := L) ho HG'.out HG.out)
          clear HO BO HX
          generalize jp ls l ho = J at *
          subst HJL
          go_wp2_with fail
          refine (Lab.fSort g2 c2 (w.heap.size + 1) J _ HJ.out (by omega)).mono ?_
          rintro e w3 ⟨rfl, L, hp, hs, ho3, hgr3⟩
          have HBe := hid (HB.out.grown hgr3 HB.out.size (fun i e => by have := Option.some.inj e; have := HGE.out; omega))
          have HO3 := hid ho3
          have HL := hid (HJO.out L hp hs)
          have HF := hid (HFT.out L hp)
          have HLN := hid hp.length_eq
          clear hgr3 ho3 hp hs HJ HB HJO HFT
          go_wp2_with fail
          refine (Lab.f23 (some ⟨g2, 0, none⟩) J.length c2 L _ HLN.out (by unfold maxLen; omega) (Lab.HasL.own HO3.out) HF.out).mono ?_
          rintro e w4 ⟨rfl, hb4⟩
          have HO4 := hid (Lab.own_based (Lab.own_below HO3.out hb4) (Nat.le_succ w.heap.size))
          have HB4 := hid (HBe.out.trans (hb4.mono HBe.out.size))
          clear hb4
          cases hgl : goodL L
          · have HN' : Hid (jo ls l ho = none) := by unfold Hid; rw [HL.out, hgl]; rfl
            clear hgl
            go_wp2
            go_ret2
            exact ⟨none, 0, 0, false, rfl, HB4.out, (fun h => absurd h (by simp)), (fun _ => ⟨HN'.out, rfl, rfl, rfl⟩)⟩
          · have HN' : Hid (jo ls l ho = some L) := by unfold Hid; rw [HL.out, hgl]; rfl
            clear hgl
            go_wp2
            go_ret2
            exact ⟨_, _, _, true, rfl, HB4.out, (fun _ => ⟨L, HN'.out, HO4.out⟩), (fun h => absurd h (by simp))⟩
end Go.Proofs.YtcknlidbjnmbjaaGreatDoor.Tgt
