/- The model's DedupSeries. -/
import Derived.Test.YtailoeloonnoeaaRDsb
namespace Go.Proofs.Ytailoeloonnoeaa.Srs
open Go.RowKit
open Go.Proofs.Ytailoeloonnoeaa.Lab (Lb HasL cmpList)
open Go.Proofs.Ytailoeloonnoeaa.Smp (Sm HasS dedT Tml TimeP)
open Go.Proofs.Ytailoeloonnoeaa.Stb (ltP put puts)

/-- What is told of the first k. -/
structure MD (qs R : List Q) (x : ByteArray) (gap : Int) (k : Nat) : Prop where
  eq : R.map pl = puts ltP (jD gap) [] (((qs.take k).map pl).map (drp x))
  fine : ∀ q ∈ R, DR q k
theorem MD.step {qs R : List Q} {x : ByteArray} {gap : Int} {k : Nat} {q d : Q} (h : MD qs R x gap k) (ht : qs.take (k + 1) = qs.take k ++ [q]) (hd : pl d = drp x (pl q)) : puts ltP (jD gap) [] (((qs.take (k + 1)).map pl).map (drp x)) = put ltP (jD gap) (pl d) (R.map pl) := by
  rw [ht, show ((qs.take k ++ [q]).map pl).map (drp x) = ((qs.take k).map pl).map (drp x) ++ [pl d] by simp [hd], Stb.puts_snoc, h.eq]
theorem MD.join {qs A B : List Q} {x : ByteArray} {gap : Int} {p q d p' : Q} {k : Nat} (h : MD qs (A ++ p :: B) x gap k) (ht : qs.take (k + 1) = qs.take k ++ [q]) (hd : pl d = drp x (pl q)) (hA : ∀ y ∈ A, cmpList y.l d.l < 0) (hc : cmpList p.l d.l = 0) (hq : DQ d) (hl : p'.l = p.l) (hs : p'.s = dedT gap p.s d.s) : MD qs (A ++ p' :: B) x gap (k + 1) := by
  refine ⟨?_, fun y hy => ?_⟩
  · rw [MD.step h ht hd, show (A ++ p :: B).map pl = A.map pl ++ pl p :: B.map pl by simp, put_there (s := pl d) (x := pl p) (fun y hy => by obtain ⟨z, hz, rfl⟩ := List.mem_map.1 hy; exact hA z hz) hc, show (A ++ p' :: B).map pl = A.map pl ++ pl p' :: B.map pl by simp]
    simp only [pl, jD, hl, hs]
  · rcases List.mem_append.1 hy with h1 | h1
    · exact (h.fine y (by simp [h1])).mono (Nat.le_succ _)
    · rcases List.mem_cons.1 h1 with h1 | h1
      · rw [h1]; exact (h.fine p (by simp)).join hq hl hs
      · exact (h.fine y (by simp [h1])).mono (Nat.le_succ _)
theorem MD.more {qs A B : List Q} {x : ByteArray} {gap : Int} {q d p' : Q} {k : Nat} (h : MD qs (A ++ B) x gap k) (ht : qs.take (k + 1) = qs.take k ++ [q]) (hd : pl d = drp x (pl q)) (hA : ∀ y ∈ A, cmpList y.l d.l < 0) (hB : ∀ y, B.head? = some y → 0 < cmpList y.l d.l) (hq : DQ d) (he : pl p' = pl d) : MD qs (A ++ p' :: B) x gap (k + 1) := by
  have hl : p'.l = d.l := congrArg Prod.fst he
  have hs : p'.s = d.s := congrArg Prod.snd he
  refine ⟨?_, fun y hy => ?_⟩
  · rw [MD.step h ht hd, show (A ++ B).map pl = A.map pl ++ B.map pl by simp, put_new (s := pl d) (fun y hy => by obtain ⟨z, hz, rfl⟩ := List.mem_map.1 hy; exact hA z hz) (fun y hy => by
      cases B with
      | nil => simp at hy
      | cons z B => simp at hy; rw [← hy]; exact hB z rfl), show (A ++ p' :: B).map pl = A.map pl ++ pl p' :: B.map pl by simp, he]
  · rcases List.mem_append.1 hy with h1 | h1
    · exact (h.fine y (by simp [h1])).mono (Nat.le_succ _)
    · rcases List.mem_cons.1 h1 with h1 | h1
      · rw [h1]; exact hq.dr hl hs
      · exact (h.fine y (by simp [h1])).mono (Nat.le_succ _)
set_option maxRecDepth 10000 in
set_option maxHeartbeats 8000000 in
theorem f5 (a : Option Addr) (n c : Nat) (qs : List Q) (x : ByteArray) (gap : Int) (w : World) (hn : qs.length = n) (h1 : n ≤ 1048576) (hr : HasQ w a qs) (hf : FitQ qs) (hz : SmlQ qs) (hx : x.size ≤ maxLen) :
    Calls Try.prog 5 #[.slice a n c, .string x, .int .i64 gap] w fun e w' => ∃ a' m' c'' R, e = .returned (.slice a' m' c'') ∧ OwnO w.heap.size a' m' c'' R w' ∧ R.map pl = dsL (qs.map pl) x gap ∧ Below w.heap.size w w' := by
  obtain ⟨i0, hi, hz0, hz1, hz2⟩ := info_parts infoQ''
  have HN := hid hn
  have HR := hid hr
  have HF := hid hf
  have HZ := hid hz
  clear hn hr hf hz
  go_enter Try.func5, Try.ntmps5
  go_wp2_with fail
  refine (f12 a n c qs _ HN.out (by unfold maxLen; omega) HR.out HF.out HZ.out).mono ?_
  rintro e w1 ⟨rfl, hb1⟩
  have HB1 := hid hb1
  clear hb1
  cases ga : gdQ qs with
  | false =>
    have HE := hid (dsL_a (L := qs.map pl) (x := x) (gap := gap) (by rw [← gdQ_pl, ga]; simp))
    go_wp2
    go_ret
    exact ⟨none, 0, 0, [], rfl, OwnO.nil _ _, HE.out.symm, HB1.out⟩
  | true =>
  go_wp2_with fail
  refine (Str.f13 x _ hx).mono ?_
  rintro e w1x ⟨rfl, hw⟩; subst w1x
  cases gn : Str.nameL x.data.toList with
  | false =>
    have HE := hid (dsL_b (L := qs.map pl) (x := x) (gap := gap) (by rw [gn]; simp))
    go_wp2
    go_ret
    exact ⟨none, 0, 0, [], rfl, OwnO.nil _ _, HE.out.symm, HB1.out⟩
  | true =>
  by_cases g0 : 0 ≤ gap
  rotate_left
  · have HE := hid (dsL_c (L := qs.map pl) (x := x) (gap := gap) (fun h => g0 h.1))
    go_wp2
    go_ret
    exact ⟨none, 0, 0, [], rfl, OwnO.nil _ _, HE.out.symm, HB1.out⟩
  by_cases g1 : gap ≤ 1000000
  rotate_left
  · have HE := hid (dsL_c (L := qs.map pl) (x := x) (gap := gap) (fun h => g1 h.2))
    go_wp2
    go_ret
    exact ⟨none, 0, 0, [], rfl, OwnO.nil _ _, HE.out.symm, HB1.out⟩
  have HGq := hid (gdQ_iff.1 ga)
  have HPa := hid (show gdL (qs.map pl) = true by rw [← gdQ_pl]; exact ga)
  have HPn := hid gn
  have HPg : Hid (0 ≤ gap ∧ gap ≤ 1000000) := ⟨g0, g1⟩
  have h200 : n ≤ 200 := by have := HGq.out.1; have := HN.out; omega
  have HQd : Hid (∀ q ∈ qs, DQ q) := fun q hq => dq_of (okq_mem HGq.out hq) (fitq_mem HF.out hq)
  clear ga gn
  go_wp2
  go_loopw [7, 31] (fun so si wr => ∃ (k m c1 : Nat) (a' : Option Addr) (R : List Q), k ≤ n ∧ m ≤ k ∧ si = .int .i64 k ∧ so = .slice a' m c1 ∧ Hid (OwnV w.heap.size a' m c1 R wr) ∧ Hid (MD qs R x gap k) ∧ Hid (Below w.heap.size w wr)) (fun _ si _ => n - (intOf si).toNat)
  case atStart => exact ⟨0, 0, 0, none, [], Nat.zero_le _, Nat.zero_le _, rfl, rfl, OwnV.nil _ _, ⟨rfl, fun q hq => (by cases hq)⟩, HB1.out⟩
  case round =>
    clear HB1
    obtain ⟨k, m, c1, a', R, hk, hm, rfl, rfl, HO, HS, HX⟩ := hrel
    by_cases hlt : k < n
    rotate_left
    · obtain rfl : k = n := by omega
      have HM : Hid (R.map pl = dsA (qs.map pl) x gap) := by
        unfold Hid
        rw [dsA_puts, HS.out.eq, List.take_of_length_le (by rw [HN.out]; exact Nat.le_refl _)]
      have HFR := hid (DR.fits HS.out.fine (by omega))
      go_wp2_with fail
      refine (f12 a' m c1 R _ HO.out.len (by unfold maxLen; omega) HO.out.has HFR.out.1 HFR.out.2).mono ?_
      rintro e w4 ⟨rfl, hb4⟩
      have HB4 := hid (HX.out.trans (hb4.mono HX.out.size))
      have HO4 := hid (HO.out.below hb4)
      clear hb4
      cases gc : gdQ R with
      | false =>
        have HE := hid (dsL_o (L := qs.map pl) (x := x) (gap := gap) (by rw [← HM.out, ← gdQ_pl, gc]; simp))
        go_wp2
        go_ret
        exact ⟨none, 0, 0, [], rfl, OwnO.nil _ _, HE.out.symm, HB4.out⟩
      | true =>
        have HE := hid (dsL_y HPa.out HPn.out HPg.out (by rw [← HM.out, ← gdQ_pl]; exact gc))
        have HOO := hid (HO4.out.ownO (good_lab (gdQ_iff.1 gc)))
        go_wp2
        go_ret
        exact ⟨a', m, c1, R, rfl, HOO.out, HM.out.trans HE.out.symm, HB4.out⟩
    obtain ⟨bb, off, rfl, hbl, c0, c1', t1, t2⟩ := (HR.out.below HX.out).at2 k (by rw [HN.out]; exact hlt)
    have hmem := get_mem' (show k < qs.length by rw [HN.out]; exact hlt)
    have HJq := hid (HQd.out _ hmem)
    have HTk := hid (take_get (show k < qs.length by rw [HN.out]; exact hlt))
    have HTw2 : Hid (HasS w (qs.getD k q0).b (qs.getD k q0).s) := by
      obtain ⟨_, _, _, _, _, _, _, t⟩ := HR.out.at2 k (by rw [HN.out]; exact hlt)
      exact t
    clear hmem
    generalize qs.getD k q0 = q at *
    have i1 : (k : Int) < (n : Int) := by omega
    have HW0 := hid ((Below.refl wr.heap.size wr).alloc (Nat.le_refl _) (.cells #[.slice q.a q.l.length q.c, .slice q.b q.s.length q.d] 40))
    have HBx := hid (heap_alloc_new wr (.cells #[.slice q.a q.l.length q.c, .slice q.b q.s.length q.d] 40))
    have HT1 := hid (t1.below HW0.out)
    have HT2 := hid (t2.below HW0.out)
    obtain ⟨W, hW⟩ : ∃ W, W = wr.alloc (.cells #[.slice q.a q.l.length q.c, .slice q.b q.s.length q.d] 40) := ⟨_, rfl⟩
    obtain ⟨e0, e1⟩ := two HBx.out
    rw [← hW] at HW0 HBx HT1 HT2
    have HLw := hid (Lab.f14 q.a q.l.length q.c q.l x { data := #[] } W rfl (by have := HJq.out.l2; omega) HT1.out hx)
    rw [show Lab.withF q.l x { data := #[] } = Lab.selL [x] false q.l from Lab.with_drop q.l x] at HLw
    clear t1 t2 hbl
    go_wp2_with fail
    rw [← hW]
    refine HLw.out.mono ?_
    rintro e w3 ⟨la, lm, lc, rfl, ho3, hb3⟩
    obtain ⟨hlm, hol⟩ := OwnLb.ofRow ho3
    subst hlm
    obtain ⟨dl, hdl⟩ : ∃ dl, dl = Lab.selL [x] false q.l := ⟨_, rfl⟩
    rw [← hdl] at hol ⊢
    have HJ : Hid (DQ ⟨dl, la, lc, q.s, q.b, q.d⟩) := HJq.out.drop x (by rw [hdl]; rfl)
    have HDp : Hid (pl (⟨dl, la, lc, q.s, q.b, q.d⟩ : Q) = drp x (pl q)) := by rw [hdl]; rfl
    have HL3 : Hid (OwnLb wr.heap.size dl la lc w3) := hol.base HW0.out.size
    have HX3 := hid (HW0.out.trans (hb3.mono HW0.out.size))
    have HBx3 := hid (kept HBx.out hb3)
    have HT3 := hid (HT2.out.below hb3)
    have HPl := hid (f15 a' m c1 R la lc dl w3 HO.out.len (by omega) (HO.out.has.below HX3.out) (DR.fits HS.out.fine (by omega)).1 (DR.fits HS.out.fine (by omega)).2 hol.has (by have := HJ.out.l2; simp only at this; omega))
    clear hb3 ho3 hol hdl e0 e1 HBx HT1 HT2 HW0 HLw c0 c1' hW HJq
    go_wp2_with fail
    refine HPl.out.mono ?_
    rintro e w4 ⟨lo, hP, rfl, hb4⟩
    have HX4 := hid (HX3.out.trans (hb4.mono HX3.out.size))
    have HBx4 := hid (kept HBx3.out hb4)
    have HT4 := hid (HT3.out.below hb4)
    have HL4 := hid (HL3.out.below hb4)
    have hlo : lo ≤ m := by have := hP.le; have := HO.out.len; omega
    have HLb : Hid (∀ A p B, R = A ++ p :: B → A.length = lo → lb R lo = p.l) := by
      rintro A p B rfl rfl
      simp [lb]
    obtain ⟨A, B, rfl, hA, hAl, hBg⟩ := hP.part
    have HAl := hid hAl
    have HBg := hid hBg
    clear hb4 hP hAl hBg HPl HX3 HBx3 HT3 HL3
    have hAB : A.length + B.length = m := by have := HO.out.len; simpa using this
    by_cases hth : lo < m ∧ cmpList (lb (A ++ B) lo) dl = 0
    · obtain ⟨p, B', rfl⟩ : ∃ p B', B = p :: B' := by
        cases B with
        | nil => simp at hAB; omega
        | cons p B' => exact ⟨p, B', rfl⟩
      have hth2 := hth.2
      rw [HLb.out A p B' rfl hA] at hth2
      have HJc := hid hth2
      have hdec : decide (lo < m ∧ cmpList (lb (A ++ p :: B') lo) dl = 0) = true := decide_eq_true hth
      rw [hdec]
      clear hth hth2 hdec HLb
      obtain ⟨g, rfl⟩ : ∃ g, a' = some ⟨g, 0, none⟩ := by
        rcases HO.out.row.2 with ⟨_, h⟩ | ⟨g, cap, cur, h, _⟩
        · simp at hAB; omega
        · simp only [Value.slice.injEq] at h; exact ⟨g, h.1⟩
      have hlm : lo < m := by simp at hAB; omega
      have hg : g < wr.heap.size := (HO.out.row.lt g rfl).2
      obtain ⟨y0, y1⟩ := flat_get (A ++ p :: B') lo (by simp [hA])
      rw [show (A ++ p :: B').getD lo q0 = p by simp [← hA]] at y0 y1
      have hop := HO.out.kin.own p (by simp)
      have hdx : Below w4.heap.size w4 w4.drew := (Below.refl _ _).drew
      have hWd : Below wr.heap.size wr w4.drew := HX4.out.trans (hdx.mono HX4.out.size)
      have z1 := (hWd.cell (p := ⟨g, lo * 2 + 1, none⟩) hg).trans ((HO.out.row.cellAt (lo * 2 + 1) (by omega)).trans y1)
      have hpb := HS.out.fine p (by simp)
      have HC := hid (Smp.f17 p.b q.b p.d q.d p.s q.s gap w4.drew (hpb.tml (by omega)) ⟨by have := HJ.out.s2; simp only at this; omega, HJ.out.st⟩ HJ.out.sp (hop.hasS.below hWd) (HT4.out.below hdx) g0 g1)
      have j1 : (0 : Int) ≤ (lo : Int) := by omega
      have j3 : (lo : Int) < (m : Int) := by omega
      have HSB : Hid (SB q wr.heap.size w4.drew) := two (kept HBx4.out hdx)
      have hgne : g ≠ wr.heap.size := by omega
      have hBW : wr.heap.size < w4.heap.size := lt_at HBx4.out
      clear hop y0 y1
      generalize hB : wr.heap.size = Bx at *
      go_wp2_with fail
      refine wp_region_held_drew (S := fun x => SB q Bx x) rfl HSB.out (fun hHeld => ?_)
      refine wpAnyH_take (i := 0) (oi := { dst := some 67, op := _, type := _, pos := _, after := _, guard := _ }) (v := ((.slice (some ⟨g, 0, none⟩) m c1))) rfl (by kernel_rfl) (by kernel_rfl) (by kernel_rfl) (fun _ _ _ h => h) (Or.inl ⟨by rfl, fun w hSw => by (try dsimp only at hSw); go_split_ands; go_simp⟩) (by assumption) ?_
      try simp only [Act.put, List.setIfInBounds_toArray, List.set_cons_zero, List.set_cons_succ]
      refine wpAnyH_take (i := 1) (oi := { dst := some 68, op := _, type := _, pos := _, after := _, guard := _ }) (v := ((.int .i64 (lo : Int)))) rfl (by kernel_rfl) (by kernel_rfl) (by kernel_rfl) (fun _ _ _ h => h) (Or.inl ⟨by rfl, fun w hSw => by (try dsimp only at hSw); go_split_ands; go_simp⟩) (by assumption) ?_
      try simp only [Act.put, List.setIfInBounds_toArray, List.set_cons_zero, List.set_cons_succ]
      refine wpAnyH_take (i := 2) (oi := { dst := some 69, op := _, type := _, pos := _, after := _, guard := _ }) (v := ((.slice (some ⟨g, 0, none⟩) m c1))) rfl (by kernel_rfl) (by kernel_rfl) (by kernel_rfl) (fun _ _ _ h => h) (Or.inl ⟨by rfl, fun w hSw => by (try dsimp only at hSw); go_split_ands; go_simp⟩) (by assumption) ?_
      try simp only [Act.put, List.setIfInBounds_toArray, List.set_cons_zero, List.set_cons_succ]
      refine wpAnyH_take (i := 3) (oi := { dst := some 70, op := _, type := _, pos := _, after := _, guard := _ }) (v := ((.int .i64 (lo : Int)))) rfl (by kernel_rfl) (by kernel_rfl) (by kernel_rfl) (fun _ _ _ h => h) (Or.inl ⟨by rfl, fun w hSw => by (try dsimp only at hSw); go_split_ands; go_simp⟩) (by assumption) ?_
      try simp only [Act.put, List.setIfInBounds_toArray, List.set_cons_zero, List.set_cons_succ]
      refine wpAnyH_take (i := 4) (oi := { dst := some 71, op := _, type := _, pos := _, after := _, guard := _ }) (v := ((.pointer (some ⟨g, lo * 2, none⟩)))) rfl (by kernel_rfl) (by kernel_rfl) (by kernel_rfl) (fun _ _ _ h => h) (Or.inl ⟨by rfl, fun w hSw => by (try dsimp only at hSw); go_split_ands; go_simp⟩) (by assumption) ?_
      try simp only [Act.put, List.setIfInBounds_toArray, List.set_cons_zero, List.set_cons_succ]
      refine wpAnyH_take (i := 5) (oi := { dst := some 72, op := _, type := _, pos := _, after := _, guard := _ }) (v := ((.pointer (some ⟨g, lo * 2 + 1, none⟩)))) rfl (by kernel_rfl) (by kernel_rfl) (by kernel_rfl) (fun _ _ _ h => h) (Or.inl ⟨by rfl, fun w hSw => by (try dsimp only at hSw); go_split_ands; go_simp⟩) (by assumption) ?_
      try simp only [Act.put, List.setIfInBounds_toArray, List.set_cons_zero, List.set_cons_succ]
      refine wpAnyH_take (i := 7) (oi := { dst := some 74, op := _, type := _, pos := _, after := _, guard := _ }) (v := ((.pointer (some ⟨Bx, 1, none⟩)))) rfl (by kernel_rfl) (by kernel_rfl) (by kernel_rfl) (fun _ _ _ h => h) (Or.inl ⟨by rfl, fun w hSw => by (try dsimp only at hSw); go_split_ands; go_simp⟩) (by assumption) ?_
      try simp only [Act.put, List.setIfInBounds_toArray, List.set_cons_zero, List.set_cons_succ]
      refine wpAnyH_take (i := 8) (oi := { dst := some 75, op := _, type := _, pos := _, after := _, guard := _ }) (v := ((.slice q.b q.s.length q.d))) rfl (by kernel_rfl) (by kernel_rfl) (by kernel_rfl) (fun _ _ _ h => h) (Or.inl ⟨by rfl, fun w hSw => by (try dsimp only at hSw); go_split_ands; go_simp⟩) (by assumption) ?_
      try simp only [Act.put, List.setIfInBounds_toArray, List.set_cons_zero, List.set_cons_succ]
      refine wpAnyH_take (i := 9) (oi := { dst := some 76, op := _, type := _, pos := _, after := _, guard := _ }) (v := ((.int .i64 gap))) rfl (by kernel_rfl) (by kernel_rfl) (by kernel_rfl) (fun _ _ _ h => h) (Or.inl ⟨by rfl, fun w hSw => by (try dsimp only at hSw); go_split_ands; go_simp⟩) (by assumption) ?_
      try simp only [Act.put, List.setIfInBounds_toArray, List.set_cons_zero, List.set_cons_succ]
      refine wpAnyH_ready (rs := [6]) (by kernel_rfl) (by simp) (AllReadyH.cons (o := { dst := some 73, op := _, type := _, pos := _, after := _, guard := _ }) rfl ?_ AllReadyH.nil)
      intro K1 hK1
      go_simp
      refine hK1.out _ _ HSB.out (fun _ => ?_)
      clear hK1 K1
      refine wpAnyH_ready (rs := [10]) (by kernel_rfl) (by simp) (AllReadyH.cons (o := { dst := some 77, op := _, type := _, pos := _, after := _, guard := _ }) rfl ?_ AllReadyH.nil)
      intro K2 hK2
      go_simp
      go_wp2_with (go_at_call 17; refine HC.out.mono ?_; rintro e w6 ⟨v6, rfl, ho6, hb6⟩; have hw6 : Below w4.heap.size w4 w6 := hdx.trans (hb6.mono hdx.size))
      refine hK2.out _ _ (two (kept HBx4.out hw6)) (fun _ => ?_)
      clear hK2 K2
      obtain ⟨gb, cb, rfl⟩ := own_formP ho6 (List.length_pos_iff.2 (fun e => hpb.s1 (dedT_emp.1 e).1))
      have hr6 : Below Bx wr w6 := by exact hWd.trans (hb6.mono (by have := hWd.size; omega))
      have HO6 := hid (own_below HO.out.row (hB ▸ hr6))
      have z2 := (hb6.cell (p := ⟨g, lo * 2 + 1, none⟩) (Nat.lt_of_lt_of_le hg (by have := hWd.size; omega))).trans z1
      have f2 := HO6.out.frozenAt (lo * 2 + 1)
      have HE : Hid (∀ wz, wz = w6.setCell ⟨g, lo * 2 + 1, none⟩ (.slice (some ⟨gb, 0, none⟩) (dedT gap p.s q.s).length cb) → OwnV w.heap.size (some ⟨g, 0, none⟩) m c1 (A ++ ⟨p.l, p.a, p.c, dedT gap p.s q.s, some ⟨gb, 0, none⟩, cb⟩ :: B') wz ∧ Below w.heap.size w wz) := by
        rintro wz rfl
        have := HO.out.setAt (hB ▸ hr6) HX.out.size (own_base ho6 (hB ▸ hWd.size))
        rw [hA] at this
        refine ⟨this, ?_⟩
        have hg2 : w.heap.size ≤ g := (HO.out.row.lt g rfl).1
        exact (HX.out.trans ((hB ▸ hr6 : Below wr.heap.size wr w6).mono HX.out.size)).setCell hg2 _
      clear z1
      refine wpAnyH_take (i := 11) (oi := { dst := some 78, op := _, type := _, pos := _, after := _, guard := _ }) (v := ((.pointer (some ⟨g, lo * 2, none⟩)))) rfl (by kernel_rfl) (by kernel_rfl) (by kernel_rfl) (fun _ _ _ h => h) (Or.inl ⟨by rfl, fun w hSw => by (try dsimp only at hSw); go_split_ands; go_simp⟩) (two (kept HBx4.out hw6)) ?_
      try simp only [Act.put, List.setIfInBounds_toArray, List.set_cons_zero, List.set_cons_succ]
      refine wpAnyH_take (i := 12) (oi := { dst := some 79, op := _, type := _, pos := _, after := _, guard := _ }) (v := ((.pointer (some ⟨g, lo * 2 + 1, none⟩)))) rfl (by kernel_rfl) (by kernel_rfl) (by kernel_rfl) (fun _ _ _ h => h) (Or.inl ⟨by rfl, fun w hSw => by (try dsimp only at hSw); go_split_ands; go_simp⟩) (two (kept HBx4.out hw6)) ?_
      try simp only [Act.put, List.setIfInBounds_toArray, List.set_cons_zero, List.set_cons_succ]
      refine wpAnyH_ready (rs := [13]) (by kernel_rfl) (by simp) (AllReadyH.cons (o := { dst := none, op := _, type := _, pos := _, after := _, guard := _ }) rfl ?_ AllReadyH.nil)
      intro K3 hK3
      go_simp
      refine hK3.out _ _ (two (set_else (kept HBx4.out hw6) (by simp only; omega))) (fun _ => ?_)
      clear hK3 K3
      refine wpAnyH_done (by kernel_rfl) ?_ _
      have HJn : Hid (MD qs (A ++ ⟨p.l, p.a, p.c, dedT gap p.s q.s, some ⟨gb, 0, none⟩, cb⟩ :: B') x gap (k + 1)) := MD.join (d := ⟨dl, la, lc, q.s, q.b, q.d⟩) HS.out HTk.out HDp.out HAl.out HJc.out HJ.out rfl rfl
      clear z2 f2 HO6 hr6 ho6 hb6 hw6 HO HS HX HSB HC HBx4 HT4 HX4 HL4 hWd hdx hHeld hpb
      go_wp2
      go_roundw
      case rel => exact ⟨k + 1, m, c1, _, _, by omega, by omega, by go_num, rfl, (HE.out _ rfl).1, HJn.out, (HE.out _ rfl).2⟩
      case measure => simp [intOf]; omega
    · have hdec : decide (lo < m ∧ cmpList (lb (A ++ B) lo) dl = 0) = false := decide_eq_false hth
      rw [hdec]
      have HBp : Hid (∀ y, B.head? = some y → 0 < cmpList y.l dl) := by
        intro y hy
        have h1 := HBg.out y hy
        cases B with
        | nil => cases hy
        | cons z B' =>
          cases hy
          have h2 := HLb.out A y B' rfl hA
          have h3 : lo < m := by simp at hAB; omega
          rw [h2] at hth
          have : ¬ cmpList y.l dl = 0 := fun e => hth ⟨h3, e⟩
          omega
      clear hth hdec HLb HBg
      have hXc : Below w.heap.size w w4 := HX.out.trans (HX4.out.mono HX.out.size)
      have HO5 := hid (own_below HO.out.row HX4.out)
      have hBne : ∀ g, (Value.slice a' m c1).ownBlock = some g → g ≠ wr.heap.size := fun g hg => by have := (HO.out.row.lt g hg).2; omega
      have hBc : wr.heap.size < w4.heap.size := lt_at HBx4.out
      obtain ⟨bs, os, hqs⟩ : ∃ b o, q.b = some ⟨b, o, none⟩ := by
        rcases HTw2.out with h | ⟨b, o, h, _⟩
        · exact absurd h HJ.out.s1
        · exact ⟨b, o, h⟩
      have hsp : 0 < q.s.length := List.length_pos_iff.2 HJ.out.s1
      have HC2 : Hid (∀ x, Below w.heap.size w x → Calls Try.prog 16 #[.slice q.b q.s.length q.d] x fun e w' => ∃ v', e = .returned v' ∧ Smp.Own w' x.heap.size v' q.s ∧ Below x.heap.size x w') := by
        intro x hx
        have h := HTw2.out.below hx
        rw [hqs] at h ⊢
        exact f16 bs os q.d q.s x (by have := HJ.out.s2; simp only at this; omega) h
      have HKi := hid (HO.out.kin.below HX4.out)
      have hwr := HX.out.size
      clear hqs bs os
      generalize hB : wr.heap.size = Bx at *
      have hwb := HX4.out.size
      go_wp2_with (at_builtin; refine wpList_append_own_at _ rfl (.tmp 47) (.tmp 49) 24 rfl w.heap.size 40 i0 (.agg #[.slice none 0 0, .slice none 0 0]) 2 48 Try.underlying24 hi hz0 hz1 hz2 rfl (by decide) _ _ _ rfl (HO5.out.alloc _) ⟨w4.heap.size, 0, none⟩ 1 1 [.slice none 0 0, .slice none 0 0] rfl rfl ?d1 ?d2 ?d3 ?d4 ?d5 ?_)
      case d1 => first | exact Smp.two_new w4 _ _ _ | exact fun j u h => h
      case d2 => first | (intro u hu; simp at hu; rcases hu with rfl | rfl <;> rfl) | (refine ⟨?_, ?_⟩ <;> rfl) | rfl
      case d3 => unfold maxLen; omega
      case d4 => omega
      case d5 => have := hXc.size; simp; omega
      intro v6 w6 hown6 hgr6 _ hat6
      obtain ⟨g6, c6, rfl⟩ := own_formP hown6 (by omega)
      have hmc : m + 1 ≤ c6 := own_capW hown6
      have hba := (Below.refl w4.heap.size w4).alloc (Nat.le_refl _) (.cells #[.slice none 0 0, .slice none 0 0] 40)
      have hX6 : Below w.heap.size w w6 := (hXc.trans (hba.mono hXc.size)).grown hgr6 (by have := hXc.size; simp; omega) (fun j hj => (HO5.out.lt j hj).1)
      have hgB : g6 ≠ Bx := by
        rcases hat6 with e | e
        · exact hBne g6 e.symm
        · have := Option.some.inj (show some g6 = some (w4.heap.size + 1) from e); omega
      have HK6 : Hid (KinV w.heap.size (A ++ B) w6) := (HKi.out.below hba).moved (HO5.out.alloc _) hgr6
      have HL6 : Hid (OwnLb Bx dl la lc w6) := by
        have h1 := HL4.out.below hba
        exact OwnLb.fw (q := ⟨dl, la, lc, q.s, q.b, q.d⟩) h1 (Fw.grownO hgr6) (lb_noRow (q := ⟨dl, la, lc, q.s, q.b, q.d⟩) h1 (HO5.out.alloc _))
      have HR6 : Hid (w6.ownsRow w.heap.size 40 2 (.slice (some ⟨g6, 0, none⟩) (m + 1) c6) (m + 1) (flat (A ++ B ++ [q0]))) := by
        unfold Hid
        rw [flat_append]
        exact hown6
      have hbx6 : w6.heap[Bx]? = some (.cells #[.slice q.a q.l.length q.c, .slice q.b q.s.length q.d] 40) := by
        rw [hgr6.block Bx (by simp; omega) (fun e => hBne Bx e.symm rfl)]
        exact kept HBx4.out hba
      have HNw : Hid (∀ p ∈ A ++ B, blk p.b < w6.heap.size ∧ ∀ g, lbq p = some g → g < Bx) := fun p hp => ⟨(HK6.out.own p hp).hi.1, fun g hg => by have := (HO.out.kin.own p hp).hi.2 g hg; omega⟩
      have HX6 := hid hX6
      have HBx6 := hid hbx6
      have hg6b : w.heap.size ≤ g6 := (HR6.out.lt g6 rfl).1
      clear hown6 hgr6 hat6 hX6 hbx6 hba HO5 HO HKi hBne hXc HX4 HBx4 HT4 HL4
      go_upto_region 11 with fail
      go_cut [7] from 32 to 80 (fun s5 wx => s5 = .slice (some ⟨g6, 0, none⟩) (m + 1) c6 ∧ Hid (∃ x, wx.ownsRow w.heap.size 40 2 (.slice (some ⟨g6, 0, none⟩) (m + 1) c6) (m + 1) (flat (A ++ x :: B))) ∧ Hid (w6.grownBy wx (some g6)))
      case first =>
        have hdr : Below w6.heap.size w6 w6.drew := (Below.refl _ _).drew
        have HR6d := hid (own_below HR6.out hdr)
        have HSB6 : Hid (SB q Bx w6.drew) := two (kept HBx6.out hdr)
        have HFin : Hid (∀ wz, wz.ownsRow w.heap.size 40 2 (.slice (some ⟨g6, 0, none⟩) (m + 1) c6) (m + 1) ((flat (A ++ B ++ [q0])).take ((lo + 1) * 2) ++ flat B ++ (flat (A ++ B ++ [q0])).drop ((lo + 1) * 2 + (flat B).length)) → w6.drew.grownBy wz (some g6) → (∃ x, wz.ownsRow w.heap.size 40 2 (.slice (some ⟨g6, 0, none⟩) (m + 1) c6) (m + 1) (flat (A ++ x :: B))) ∧ w6.grownBy wz (some g6)) := by
          intro wz h1 h2
          obtain ⟨x, hx⟩ := shift_flat A B
          rw [← hA, hx] at h1
          exact ⟨⟨x, h1⟩, ⟨h2.os, h2.tape, h2.output, h2.size, h2.block⟩⟩
        have j0 : (0 : Int) ≤ (lo : Int) := by omega
        have j5 : IntKind.i64.wrap ((lo : Int) + 1) = (lo : Int) + 1 := by rw [IntKind.wrap_i64]; omega
        have j6 : ((lo : Int) + 1).toNat = lo + 1 := by omega
        have j9 : (0 : Int) ≤ (lo : Int) + 1 := by omega
        have j8 : ¬ c6 = lo := by omega
        have jA : (lo : Int) ≤ (m : Int) + 1 := by omega
        have jB : (lo : Int) + 1 ≤ (m : Int) + 1 := by omega
        have jC : lo ≤ m + 1 := by omega
        have jD : lo + 1 ≤ m + 1 := by omega
        have jE : (lo : Int) ≤ (c6 : Int) := by omega
        have jF : (lo : Int) + 1 ≤ (c6 : Int) := by omega
        by_cases hcap : c6 = lo + 1
        · go_wp2_with fail
          refine wp_region_held_drew (S := fun x => SB q Bx x) rfl HSB6.out (fun hHeld => ?_)
          refine wpAnyH_take (i := 0) (oi := { dst := some 51, op := _, type := _, pos := _, after := _, guard := _ }) (v := ((.slice (some ⟨g6, 0, none⟩) (m + 1) c6))) rfl (by kernel_rfl) (by kernel_rfl) (by kernel_rfl) (fun _ _ _ h => h) (Or.inl ⟨by rfl, fun w hSw => by (try dsimp only at hSw); go_split_ands; go_simp⟩) (by assumption) ?_
          try simp only [Act.put, List.setIfInBounds_toArray, List.set_cons_zero, List.set_cons_succ]
          refine wpAnyH_take (i := 1) (oi := { dst := some 52, op := _, type := _, pos := _, after := _, guard := _ }) (v := ((.int .i64 (lo : Int)))) rfl (by kernel_rfl) (by kernel_rfl) (by kernel_rfl) (fun _ _ _ h => h) (Or.inl ⟨by rfl, fun w hSw => by (try dsimp only at hSw); go_split_ands; go_simp⟩) (by assumption) ?_
          try simp only [Act.put, List.setIfInBounds_toArray, List.set_cons_zero, List.set_cons_succ]
          refine wpAnyH_take (i := 2) (oi := { dst := some 53, op := _, type := _, pos := _, after := _, guard := _ }) (v := ((.int .i64 ((lo : Int) + 1)))) rfl (by kernel_rfl) (by kernel_rfl) (by kernel_rfl) (fun _ _ _ h => h) (Or.inl ⟨by rfl, fun w hSw => by (try dsimp only at hSw); go_split_ands; go_simp⟩) (by assumption) ?_
          try simp only [Act.put, List.setIfInBounds_toArray, List.set_cons_zero, List.set_cons_succ]
          refine wpAnyH_take (i := 3) (oi := { dst := some 54, op := _, type := _, pos := _, after := _, guard := _ }) (v := ((.slice (some ⟨g6, 0, none⟩) (m + 1 - (lo + 1)) (c6 - (lo + 1))))) rfl (by kernel_rfl) (by kernel_rfl) (by kernel_rfl) (fun _ _ _ h => h) (Or.inl ⟨by rfl, fun w hSw => by (try dsimp only at hSw); go_split_ands; go_simp⟩) (by assumption) ?_
          try simp only [Act.put, List.setIfInBounds_toArray, List.set_cons_zero, List.set_cons_succ]
          refine wpAnyH_take (i := 4) (oi := { dst := some 55, op := _, type := _, pos := _, after := _, guard := _ }) (v := ((.slice (some ⟨g6, 0, none⟩) (m + 1) c6))) rfl (by kernel_rfl) (by kernel_rfl) (by kernel_rfl) (fun _ _ _ h => h) (Or.inl ⟨by rfl, fun w hSw => by (try dsimp only at hSw); go_split_ands; go_simp⟩) (by assumption) ?_
          try simp only [Act.put, List.setIfInBounds_toArray, List.set_cons_zero, List.set_cons_succ]
          refine wpAnyH_take (i := 5) (oi := { dst := some 56, op := _, type := _, pos := _, after := _, guard := _ }) (v := ((.int .i64 (lo : Int)))) rfl (by kernel_rfl) (by kernel_rfl) (by kernel_rfl) (fun _ _ _ h => h) (Or.inl ⟨by rfl, fun w hSw => by (try dsimp only at hSw); go_split_ands; go_simp⟩) (by assumption) ?_
          try simp only [Act.put, List.setIfInBounds_toArray, List.set_cons_zero, List.set_cons_succ]
          refine wpAnyH_take (i := 6) (oi := { dst := some 57, op := _, type := _, pos := _, after := _, guard := _ }) (v := ((.slice (some ⟨g6, lo * 2, none⟩) (m + 1 - lo) (c6 - lo)))) rfl (by kernel_rfl) (by kernel_rfl) (by kernel_rfl) (fun _ _ _ h => h) (Or.inl ⟨by rfl, fun w hSw => by (try dsimp only at hSw); go_split_ands; go_simp⟩) (by assumption) ?_
          try simp only [Act.put, List.setIfInBounds_toArray, List.set_cons_zero, List.set_cons_succ]
          refine wpAnyH_ready (rs := [7]) (by kernel_rfl) (by simp) (AllReadyH.cons (o := { dst := some 58, op := _, type := _, pos := _, after := _, guard := _ }) rfl ?_ AllReadyH.nil)
          intro K7 hK7
          refine Cpy.step_copy_in rfl (.tmp 54) (.tmp 57) 24 24 rfl 40 i0 2 Try.underlying24 hi hz1 w.heap.size g6 (m + 1) c6 (flat (A ++ B ++ [q0])) HR6d.out (some ⟨g6, 0, none⟩) (some ⟨g6, lo * 2, none⟩) (m + 1 - (lo + 1)) (c6 - (lo + 1)) (m + 1 - lo) (c6 - lo) rfl rfl (m - lo) ((lo + 1) * 2) (lo * 2) (by show min _ _ = _; omega) (flat B) (by rw [flat_len]; omega) (fun h => by omega) (fun j v hj => by rw [List.append_assoc, flat_append A, List.getElem?_append_right (by rw [flat_len, hA]; omega), flat_len, hA, show lo * 2 + j - lo * 2 = j by omega, flat_append, List.getElem?_append_left (List.getElem?_eq_some_iff.1 hj).1]; exact hj) (by rw [flat_len, flat_len]; simp; omega) (flatQ_oneCell B) ?_
          intro w7 hown7 hgr7
          refine hK7.out _ _ (two (by rw [hgr7.block Bx (lt_at (kept HBx6.out hdr)) (fun e => hgB (Option.some.inj e).symm)]; exact kept HBx6.out hdr)) (fun _ => ?_)
          clear hK7 K7
          refine wpAnyH_done (by kernel_rfl) ?_ _
          have H7 := hid (HFin.out w7 hown7 hgr7)
          clear hown7 hgr7 hHeld HR6d HSB6 HFin HR6
          go_wp2
          go_meet
          exact ⟨rfl, H7.out.1, H7.out.2⟩
        · go_wp2_with fail
          refine wp_region_held_drew (S := fun x => SB q Bx x) rfl HSB6.out (fun hHeld => ?_)
          refine wpAnyH_take (i := 0) (oi := { dst := some 51, op := _, type := _, pos := _, after := _, guard := _ }) (v := ((.slice (some ⟨g6, 0, none⟩) (m + 1) c6))) rfl (by kernel_rfl) (by kernel_rfl) (by kernel_rfl) (fun _ _ _ h => h) (Or.inl ⟨by rfl, fun w hSw => by (try dsimp only at hSw); go_split_ands; go_simp⟩) (by assumption) ?_
          try simp only [Act.put, List.setIfInBounds_toArray, List.set_cons_zero, List.set_cons_succ]
          refine wpAnyH_take (i := 1) (oi := { dst := some 52, op := _, type := _, pos := _, after := _, guard := _ }) (v := ((.int .i64 (lo : Int)))) rfl (by kernel_rfl) (by kernel_rfl) (by kernel_rfl) (fun _ _ _ h => h) (Or.inl ⟨by rfl, fun w hSw => by (try dsimp only at hSw); go_split_ands; go_simp⟩) (by assumption) ?_
          try simp only [Act.put, List.setIfInBounds_toArray, List.set_cons_zero, List.set_cons_succ]
          refine wpAnyH_take (i := 2) (oi := { dst := some 53, op := _, type := _, pos := _, after := _, guard := _ }) (v := ((.int .i64 ((lo : Int) + 1)))) rfl (by kernel_rfl) (by kernel_rfl) (by kernel_rfl) (fun _ _ _ h => h) (Or.inl ⟨by rfl, fun w hSw => by (try dsimp only at hSw); go_split_ands; go_simp⟩) (by assumption) ?_
          try simp only [Act.put, List.setIfInBounds_toArray, List.set_cons_zero, List.set_cons_succ]
          refine wpAnyH_take (i := 3) (oi := { dst := some 54, op := _, type := _, pos := _, after := _, guard := _ }) (v := ((.slice (some ⟨g6, (lo + 1) * 2, none⟩) (m + 1 - (lo + 1)) (c6 - (lo + 1))))) rfl (by kernel_rfl) (by kernel_rfl) (by kernel_rfl) (fun _ _ _ h => h) (Or.inl ⟨by rfl, fun w hSw => by (try dsimp only at hSw); go_split_ands; go_simp⟩) (by assumption) ?_
          try simp only [Act.put, List.setIfInBounds_toArray, List.set_cons_zero, List.set_cons_succ]
          refine wpAnyH_take (i := 4) (oi := { dst := some 55, op := _, type := _, pos := _, after := _, guard := _ }) (v := ((.slice (some ⟨g6, 0, none⟩) (m + 1) c6))) rfl (by kernel_rfl) (by kernel_rfl) (by kernel_rfl) (fun _ _ _ h => h) (Or.inl ⟨by rfl, fun w hSw => by (try dsimp only at hSw); go_split_ands; go_simp⟩) (by assumption) ?_
          try simp only [Act.put, List.setIfInBounds_toArray, List.set_cons_zero, List.set_cons_succ]
          refine wpAnyH_take (i := 5) (oi := { dst := some 56, op := _, type := _, pos := _, after := _, guard := _ }) (v := ((.int .i64 (lo : Int)))) rfl (by kernel_rfl) (by kernel_rfl) (by kernel_rfl) (fun _ _ _ h => h) (Or.inl ⟨by rfl, fun w hSw => by (try dsimp only at hSw); go_split_ands; go_simp⟩) (by assumption) ?_
          try simp only [Act.put, List.setIfInBounds_toArray, List.set_cons_zero, List.set_cons_succ]
          refine wpAnyH_take (i := 6) (oi := { dst := some 57, op := _, type := _, pos := _, after := _, guard := _ }) (v := ((.slice (some ⟨g6, lo * 2, none⟩) (m + 1 - lo) (c6 - lo)))) rfl (by kernel_rfl) (by kernel_rfl) (by kernel_rfl) (fun _ _ _ h => h) (Or.inl ⟨by rfl, fun w hSw => by (try dsimp only at hSw); go_split_ands; go_simp⟩) (by assumption) ?_
          try simp only [Act.put, List.setIfInBounds_toArray, List.set_cons_zero, List.set_cons_succ]
          refine wpAnyH_ready (rs := [7]) (by kernel_rfl) (by simp) (AllReadyH.cons (o := { dst := some 58, op := _, type := _, pos := _, after := _, guard := _ }) rfl ?_ AllReadyH.nil)
          intro K7 hK7
          refine Cpy.step_copy_in rfl (.tmp 54) (.tmp 57) 24 24 rfl 40 i0 2 Try.underlying24 hi hz1 w.heap.size g6 (m + 1) c6 (flat (A ++ B ++ [q0])) HR6d.out (some ⟨g6, (lo + 1) * 2, none⟩) (some ⟨g6, lo * 2, none⟩) (m + 1 - (lo + 1)) (c6 - (lo + 1)) (m + 1 - lo) (c6 - lo) rfl rfl (m - lo) ((lo + 1) * 2) (lo * 2) (by show min _ _ = _; omega) (flat B) (by rw [flat_len]; omega) (fun _ => ⟨rfl, rfl⟩) (fun j v hj => by rw [List.append_assoc, flat_append A, List.getElem?_append_right (by rw [flat_len, hA]; omega), flat_len, hA, show lo * 2 + j - lo * 2 = j by omega, flat_append, List.getElem?_append_left (List.getElem?_eq_some_iff.1 hj).1]; exact hj) (by rw [flat_len, flat_len]; simp; omega) (flatQ_oneCell B) ?_
          intro w7 hown7 hgr7
          refine hK7.out _ _ (two (by rw [hgr7.block Bx (lt_at (kept HBx6.out hdr)) (fun e => hgB (Option.some.inj e).symm)]; exact kept HBx6.out hdr)) (fun _ => ?_)
          clear hK7 K7
          refine wpAnyH_done (by kernel_rfl) ?_ _
          have H7 := hid (HFin.out w7 hown7 hgr7)
          clear hown7 hgr7 hHeld HR6d HSB6 HFin HR6
          go_wp2
          go_meet
          exact ⟨rfl, H7.out.1, H7.out.2⟩
      case rest =>
      obtain ⟨rfl, HRx, HGx⟩ := hcut
      obtain ⟨x0, HRx⟩ := HRx.out
      have HRx := hid HRx
      have hXc : Below w.heap.size w wc := HX6.out.grown HGx.out HX6.out.size (fun g e => by cases e; exact hg6b)
      have hbxc : wc.heap[Bx]? = some (.cells #[.slice q.a q.l.length q.c, .slice q.b q.s.length q.d] 40) := by
        rw [HGx.out.block Bx (lt_at HBx6.out) (fun e => hgB (Option.some.inj e).symm)]
        exact HBx6.out
      obtain ⟨e0, e1⟩ := two hbxc
      have HKc : Hid (KinV w.heap.size (A ++ B) wc) := HK6.out.moved HR6.out HGx.out
      have HLc : Hid (OwnLb Bx dl la lc wc) := OwnLb.fw (q := ⟨dl, la, lc, q.s, q.b, q.d⟩) HL6.out (Fw.grownO HGx.out) (lb_noRow (q := ⟨dl, la, lc, q.s, q.b, q.d⟩) HL6.out HR6.out)
      have HD2 := hid (HC2.out wc hXc)
      have hwz : w6.heap.size ≤ wc.heap.size := HGx.out.size
      have j0 : (0 : Int) ≤ (lo : Int) := by omega
      have j3 : (lo : Int) < (m : Int) + 1 := by omega
      have j4 : lo < m + 1 := by omega
      have j5 : (lo : Int) < ((m + 1 : Nat) : Int) := by omega
      have HXc := hid hXc
      clear HK6 HR6 HX6 HGx HBx6 HL6 hXc
      go_wp2_with fail
      refine HD2.out.mono ?_
      rintro e w9 ⟨v9, rfl, ho9, hb9⟩
      obtain ⟨gb, cb, rfl⟩ := own_formP ho9 hsp
      have hgb : wc.heap.size ≤ gb := (ho9.lt gb rfl).1
      have hX9 : Below w.heap.size w w9 := HXc.out.trans (hb9.mono HXc.out.size)
      have HR9 := hid (own_below HRx.out hb9)
      obtain ⟨q', hq'⟩ : ∃ q' : Q, q' = ⟨dl, la, lc, q.s, some ⟨gb, 0, none⟩, cb⟩ := ⟨_, rfl⟩
      have HQ4 : Hid (OwnW w.heap.size q' w9 ∧ (∀ p ∈ A ++ B, Aq q' p) ∧ pl q' = pl (⟨dl, la, lc, q.s, q.b, q.d⟩ : Q)) := by
        rw [hq']
        have hsz := HXc.out.size
        refine ⟨⟨(HLc.out.below hb9).base hwr, rfl, own_base ho9 hsz⟩, fun p hp => ⟨?_, ?_⟩, rfl⟩
        · by_cases e : lbq p = none
          · rw [e]
            by_cases e2 : lbq (⟨dl, la, lc, q.s, some ⟨gb, 0, none⟩, cb⟩ : Q) = none
            · exact .inl e2
            · exact .inr e2
          · refine .inr fun e2 => ?_
            obtain ⟨b, hb'⟩ := Option.ne_none_iff_exists'.1 e
            have g1 := (HNw.out p hp).2 b hb'
            have g2 := ((OwnLb.blk (q := ⟨dl, la, lc, q.s, some ⟨gb, 0, none⟩, cb⟩) HLc.out (e2.trans hb')).2.lt b rfl).1
            omega
        · have := (HNw.out p hp).1
          show gb ≠ _
          omega
      have HQc : Hid (Value.slice q'.a q'.l.length q'.c = .slice la dl.length lc ∧ Value.slice q'.b q'.s.length q'.d = .slice (some ⟨gb, 0, none⟩) q.s.length cb) := by rw [hq']; exact ⟨rfl, rfl⟩
      clear hq' ho9
      obtain ⟨y0, y1⟩ := flat_get (A ++ x0 :: B) lo (by simp; omega)
      have z0 := (HR9.out.cellAt (lo * 2) (by omega)).trans y0
      have f0 := HR9.out.frozenAt (lo * 2)
      have hst := HR9.out.stored (lo * 2) (.slice la dl.length lc)
      have z1' := (HR9.out.cellAt (lo * 2 + 1) (by omega)).trans y1
      have f1' := HR9.out.frozenAt (lo * 2 + 1)
      have HE : Hid (∀ wz, wz = (w9.setCell ⟨g6, lo * 2, none⟩ (.slice la dl.length lc)).setCell ⟨g6, lo * 2 + 1, none⟩ (.slice (some ⟨gb, 0, none⟩) q.s.length cb) → OwnV w.heap.size (some ⟨g6, 0, none⟩) (m + 1) c6 (A ++ q' :: B) wz ∧ Below w.heap.size w wz) := by
        rintro wz rfl
        have hst2 := hst.1.stored (lo * 2 + 1) (.slice (some ⟨gb, 0, none⟩) q.s.length cb)
        refine ⟨?_, (hX9.setCell hg6b _).setCell hg6b _⟩
        have hk9 := (HKc.out.below hb9).cons HQ4.out.1 HQ4.out.2.1
        have hk10 := ((hk9.moved HR9.out hst.2).moved hst.1 hst2.2).perm (perm_mid A B q')
        refine ⟨by simp; omega, ?_, hk10⟩
        have e := flat_set (A ++ x0 :: B) lo q' (by simp; omega)
        rw [HQc.out.1, HQc.out.2, ← hA, set_mid, hA] at e
        rw [← e]
        exact hst2.1
      have HJn : Hid (MD qs (A ++ q' :: B) x gap (k + 1)) := MD.more (d := ⟨dl, la, lc, q.s, q.b, q.d⟩) HS.out HTk.out HDp.out HAl.out HBp.out HJ.out HQ4.out.2.2
      clear hst HR9 HQ4 HQc hX9 hb9 HKc HLc hbxc e0 e1 HS HX HXc HC2 HD2 HRx y0 y1 HNw
      go_wp2
      go_roundw
      case rel => exact ⟨k + 1, m + 1, c6, _, _, by omega, by omega, by go_num, rfl, (HE.out _ rfl).1, HJn.out, (HE.out _ rfl).2⟩
      case measure => simp [intOf]; omega
end Go.Proofs.Ytailoeloonnoeaa.Srs
