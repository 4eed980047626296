/- The model's ReadRelabel: of a good rule's text that rule in memory of its own, of any other text none. -/
import Derived.Test.YtbijhkbmgljjiaaGreatDoorVs
import Derived.Deep.RegionLaw
namespace Go.Proofs.YtbijhkbmgljjiaaGreatDoor.Rdd
open Go.RowKit Go.Proofs.YtbijhkbmgljjiaaGreatDoor.Pat

/-- An append to a row of the call's own, as one step of a region that draws its order. -/
theorem step_append_own {P : Program} {ops : Array Oper} {o : Oper} {a : Act} {w : World} {K : Act → World → Prop} {Q : Exit → Act → World → Prop} {E : Prop}
    (hg : o.guard = none) (s x : Operand) (t : TypeId) (hop : o.op = Op.call { callee := Callee.builtin Builtin.append, args := #[s, x], argTypes := #[t, t] })
    (base : Nat) (e : TypeId) (i : TypeInfo) (z : Value) (size bytes : Nat) (h1 : P.underlying t = some (.slice e)) (h2 : P.info? e = some i) (h3 : i.zero = some z) (h4 : i.size = size) (h5 : i.bytes = bytes) (h6 : z.cells.size = size) (h7 : 0 < size)
    (ao : Option Addr) (n cap : Nat) (olds : List Value) (hs : a.eval s = .slice ao n cap) (hown : w.ownsRow base e size (.slice ao n cap) n olds)
    (ad : Addr) (m c : Nat) (news : List Value) (hx : a.eval x = .slice (some ad) m c) (hn : news.length = m * size) (hc : ∀ j u, news[j]? = some u → w.cell? (ad.add j) = some u) (h1c : ∀ u ∈ news, u.oneCell' = true)
    (b1 : n + m ≤ maxLen) (b2 : (n + m) * bytes ≤ 140737488355328) (hbase : base ≤ w.heap.size)
    (hK : ∀ v' w', w'.ownsRow base e size v' (n + m) (olds ++ news) → w.grownBy w' (Value.slice ao n cap).ownBlock → K (a.put o.dst v') w') :
    if Region.wanted o (yielded ops a.tmps) = true then Oper.wp P o a w K Q else E := by
  have hw : Region.wanted o (yielded ops a.tmps) = true := by simp [Region.wanted, hg]
  rw [if_pos hw]
  obtain ⟨v', w', hrun, r1, r2, _⟩ := run_append_own (P := P) w base t o.type e i z size bytes h1 h2 h3 h4 h5 h6 h7 (.slice ao n cap) n olds hown ad m c news hn hc h1c b1 b2 hbase
  unfold Oper.wp
  simp [execOp, hop, resolve, invoke, builtin, hs, hx, hrun, Result.andThen]
  exact hK v' w' r1 r2
theorem Sm.drew {X : Nat} {w0 w : World} {r : Rel.Rule} {a : Option Addr} {n c : Nat} (h : Sm X w0 r a n c w) : Sm X w0 r a n c w.drew :=
  ⟨h.zer, h.non, h.box, h.row, h.len, ⟨h.bel.os, h.bel.tape, h.bel.output, h.bel.size, h.bel.block⟩, h.pos⟩
abbrev ZC : Obj := .cells (ruleC zr none 0 0) 24
theorem zz_box (w : World) : ((w.alloc ZC).alloc ZC).heap[w.heap.size]? = some ZC ∧ ((w.alloc ZC).alloc ZC).heap[w.heap.size + 1]? = some ZC := by
  refine ⟨box_alloc (heap_alloc_new w ZC) _, ?_⟩
  have := heap_alloc_new (w.alloc ZC) ZC
  simp only [World.size_alloc] at this
  exact this
theorem zz_none (s : ByteArray) (w : World) (hq : ∀ q, Rel.goodR q = true → Rel.txtR q ≠ s.data.toList) : RdlR s w (.returned (.tuple #[Rel.agR zr none 0 0, .bool false])) ((w.alloc ZC).alloc ZC) :=
  ⟨((Below.refl _ w).alloc (Nat.le_refl _) _).alloc (by simp) _, .inr ⟨hq, rfl⟩⟩
abbrev WC : Obj := .cells #[.string ⟨#[]⟩, .string ⟨#[107, 101, 101, 112]⟩, .string ⟨#[100, 114, 111, 112]⟩, .string ⟨#[115, 101, 116]⟩, .string ⟨#[109, 111, 100]⟩, .string ⟨#[109, 97, 112]⟩, .string ⟨#[107, 101, 101, 112, 110, 97, 109, 101, 115]⟩, .string ⟨#[100, 114, 111, 112, 110, 97, 109, 101, 115]⟩, .string ⟨#[108, 111, 119, 101, 114]⟩] 9
theorem wrd9_new (w : World) : Wrd9 w.heap.size (w.alloc WC) := by
  intro k hk
  have h := heap_alloc_new w WC
  rcases (show k = 0 ∨ k = 1 ∨ k = 2 ∨ k = 3 ∨ k = 4 ∨ k = 5 ∨ k = 6 ∨ k = 7 ∨ k = 8 by omega) with rfl | rfl | rfl | rfl | rfl | rfl | rfl | rfl | rfl
  all_goals
    simp only [World.cell?, h]
    rfl
theorem sm_begin {w w1 : World} (hb1 : Below ((w.alloc ZC).alloc ZC).heap.size ((w.alloc ZC).alloc ZC) w1) (A : Int) : Sm (w1.heap.size + 1) w ⟨A, [], ⟨#[]⟩, ⟨#[]⟩, ⟨#[]⟩, ⟨#[]⟩, 0⟩ none 0 0 ((w1.alloc WC).alloc (.cells (ruleC ⟨A, [], ⟨#[]⟩, ⟨#[]⟩, ⟨#[]⟩, ⟨#[]⟩, 0⟩ none 0 0) 24)) := by
  obtain ⟨z0, z1⟩ := zz_box w
  have hsz := hb1.size
  simp only [World.size_alloc] at hsz
  have hbw : Below w.heap.size w w1 := (((Below.refl _ w).alloc (Nat.le_refl _) ZC).alloc (by simp) ZC).trans (hb1.mono (by simp only [World.size_alloc]; omega))
  refine ⟨?_, ?_, ?_, World.ownsRow_nil _ _ _ _, rfl, (hbw.alloc (by omega) _).alloc (by simp only [World.size_alloc]; omega) _, by omega⟩
  · exact box_alloc (box_alloc ((hb1.block _ (by simp only [World.size_alloc]; omega)).trans z0) _) _
  · exact box_alloc (box_alloc ((hb1.block _ (by simp)).trans z1) _) _
  · have := heap_alloc_new (w1.alloc WC) (.cells (ruleC ⟨A, [], ⟨#[]⟩, ⟨#[]⟩, ⟨#[]⟩, ⟨#[]⟩, 0⟩ none 0 0) 24)
    simp only [World.size_alloc] at this
    exact this
set_option maxRecDepth 100000 in
set_option maxHeartbeats 4000000 in
theorem f4 (s : ByteArray) (w : World) (hs : s.size ≤ 1048576) : Calls Tryz.prog 4 #[.string s] w (RdlR s w) := by
  obtain ⟨i0, hi, hz0, hz1, hz2⟩ := info_parts Fil.info9
  obtain ⟨r0, hr0⟩ : ∃ r0 : Rel.Rule, ∀ r, Rel.goodR r = true → Rel.txtR r = s.data.toList → Kn r0 s.data.toList := by
    by_cases h : ∃ r, Rel.goodR r = true ∧ Rel.txtR r = s.data.toList
    · obtain ⟨r, h1, h2⟩ := h
      exact ⟨r, fun _ _ _ => ⟨h1, h2.symm⟩⟩
    · exact ⟨zr, fun r h1 h2 => absurd ⟨r, h1, h2⟩ h⟩
  have HR0 := hid hr0
  clear hr0
  by_cases h2 : 2000 < s.size
  · have HQ : Hid (∀ q, Rel.goodR q = true → Rel.txtR q ≠ s.data.toList) := fun q h1 e => by
      have := txt_short h1
      rw [e] at this
      simp at this; omega
    go_enter Tryz.func4, Tryz.ntmps4
    go_wp2
    obtain ⟨y0, y1, y2, y3, y4, y5, y6⟩ := Rel.cells7 (zz_box w).1
    refine bodyPost_ret (v := .tuple #[Rel.agR zr none 0 0, .bool false]) ?_ rfl (zz_none s w HQ.out)
    rw [results_cell_tmp rfl]
    go_simp
  have HHL := hid (hdw_len s.data.toList)
  have HKW := hid (fun k : Kn r0 s.data.toList => kn_hdw k)
  have HSL : Hid (s.data.toList.length = s.size) := by unfold Hid; simp
  go_enter Tryz.func4, Tryz.ntmps4
  go_wp2_with fail
  refine (f9 s _ hs).mono ?_
  rintro e w1 ⟨hb1, u1, ok1, rfl⟩
  go_wp2_with fail
  refine (Rel.f11 _).mono ?_
  rintro e w2 ⟨rfl, rfl⟩
  go_wp2_with fail
  refine (f10 w1.heap.size (mkS (hdw s.data.toList)) _ ?h9).mono ?_
  case h9 => exact wrd9_new w1
  rintro e w3 ⟨rfl, A, rfl, hA0, hA8, hA⟩
  have HS := hid (sm_begin hb1 A)
  have HA : Hid (Kn r0 s.data.toList → A = r0.act) := fun k => by
    obtain ⟨h1, h2, h3, h4⟩ := HKW.out k
    exact hA _ h3 h4 h1
  clear hA hb1
  have hk0 : (hdw s.data.toList).length ≤ s.size := by have := HHL.out; have := HSL.out; omega
  have HX1 : Hid (s.extract (hdw s.data.toList).length s.size = mkS (s.data.toList.drop (hdw s.data.toList).length)) := ext_mk s.data.toList _
  have HL1 : Hid (Kn r0 s.data.toList → s.data.toList.drop (hdw s.data.toList).length = Rel.t0 r0) := fun k => (HKW.out k).2.1
  have HN1 : Hid ((s.data.toList.drop (hdw s.data.toList).length).length ≤ 2000) := by unfold Hid; have := HSL.out; rw [List.length_drop]; omega
  generalize hlw : hdw s.data.toList = lw at *
  generalize hl1 : s.data.toList.drop lw.length = l1 at *
  clear hlw hl1 HKW HHL
  go_wp2_with fail
  rw [HX1.out]
  refine (f12 (mkS l1) _ _ (by rw [mk_len]; have := HN1.out; omega) (by decide)).mono ?_
  rintro e w4 ⟨rfl, rfl⟩
  generalize hX : w1.heap.size + 1 = X at *
  clear hk0 HX1
  go_upto_if 33 with fail
  go_cut [9] from 33 to 53 (fun s9 wx => ∃ (l2 : List UInt8) (ss : List ByteArray) (a : Option Addr) (c : Nat), s9 = .string (mkS l2) ∧ Hid (Sm X w ⟨A, ss, ⟨#[]⟩, ⟨#[]⟩, ⟨#[]⟩, ⟨#[]⟩, 0⟩ a ss.length c wx) ∧ Hid (Kn r0 s.data.toList → ss = r0.from' ∧ l2 = Rel.t1 r0) ∧ Hid (ss.length ≤ 2001 ∧ l2.length ≤ 2000) ∧ Hid (∀ x ∈ ss, x.size ≤ 2000))
  case first =>
    cases hb : sg sF l1
    · have HB := hid hb
      go_wp2
      go_meet
      exact ⟨l1, [], none, 0, rfl, HS, fun k => by have h := kn_from_no k.1 (HL1.out k) HB.out; rw [(sg_no (sgn_none HB.out)).2] at h; exact h, ⟨by simp, HN1.out⟩, by intro x hx; cases hx⟩
    · have HB := hid hb
      have h6 : 6 ≤ l1.length := sg_len hb
      have HX2 : Hid ((mkS l1).extract 6 (mkS l1).size = mkS (rs sF l1)) := by
        unfold Hid; rw [rs_drop hb]; exact ext_mk l1 6
      go_wp2
      have HN2 : Hid ((rs sF l1).length ≤ 1994) := by unfold Hid; have g1 := rs_len HB.out; have g2 := HN1.out; simp at g1; omega
      generalize hlr : rs sF l1 = lr at *
      have HLR := hid hlr
      clear hlr
      go_loopw [9, 10] (fun s9 _ wr => ∃ (m : Nat) (l' : List UInt8) (acc : List ByteArray) (a : Option Addr) (c : Nat), s9 = .string (mkS l') ∧ Hid (Rel.wrds 2000 lr = (acc.map (·.data.toList) ++ (Rel.wrds m l').1, (Rel.wrds m l').2)) ∧ Hid (Sm X w ⟨A, acc, ⟨#[]⟩, ⟨#[]⟩, ⟨#[]⟩, ⟨#[]⟩, 0⟩ a acc.length c wr) ∧ l'.length ≤ m ∧ acc.length + l'.length ≤ 1994 ∧ Hid (∀ x ∈ acc, x.size ≤ 2000)) (fun s9 _ _ => szOf s9)
      case atStart => exact ⟨2000, lr, [], none, 0, congrArg Value.string HX2.out, rfl, HS, by have := HN2.out; omega, by have := HN2.out; simp; omega, by intro x hx; cases hx⟩
      case round =>
        obtain ⟨m, l', acc, a, c, rfl, HM, HSr, hm, hal, HXr⟩ := hrel
        have hl0 : l'.length ≤ 1994 := by omega
        go_wp2_with fail
        refine (f13 (mkS l') 0 _ (by rw [mk_len]; omega) (by omega)).mono ?_
        rintro e w5 ⟨rfl, rfl⟩
        have HW := hid (wrd_len l')
        have hkl : nmE (by' (mkS l')) 0 ≤ l'.length := nmE_le (Nat.zero_le _)
        obtain ⟨hf1, hf2⟩ := nm_facts l' 0
        have HF1 : Hid ((mkS l').extract 0 (nmE (by' (mkS l')) 0) = mkS (Rel.wrd l').1) := hf1
        have HF2 : Hid ((mkS l').extract (nmE (by' (mkS l')) 0) l'.length = mkS (Rel.wrd l').2) := by unfold Hid; rw [← mk_len l']; exact hf2
        clear hf1 hf2
        generalize nmE (by' (mkS l')) 0 = k at *
        obtain ⟨b0, b1, b2, b3, b4, b5, b6⟩ := Rel.cells7 HSr.out.box
        go_wp2_with fail
        have HSd : Hid (Sm X w ⟨A, acc, ⟨#[]⟩, ⟨#[]⟩, ⟨#[]⟩, ⟨#[]⟩, 0⟩ a acc.length c (w5.alloc (.cells #[.string ((mkS l').extract 0 k)] 9)).drew) := (HSr.out.below ((Below.refl _ w5).alloc (Nat.le_refl _) _)).drew
        have b1d := (Rel.cells7 HSd.out.box).2.1
        go_region_law (refine step_append_own rfl (.tmp 39) (.tmp 43) 22 rfl (X + 1) 9 i0 (.string ByteArray.empty) 1 16 Tryz.underlying22 hi hz0 hz1 hz2 rfl (by decide) a acc.length c (acc.map Value.string) (by simp [Act.eval]) HSd.out.row ⟨w5.heap.size, 0, none⟩ 1 1 [.string ((mkS l').extract 0 k)] (by simp [Act.eval]) rfl (fun j u h => one_row w5 _ _ j u h) (by intro u hu; simp at hu; subst hu; rfl) (by unfold maxLen; omega) (by omega) (by have := lt_block HSd.out.box; omega) ?_; intro v1 w6 hown1 hgr1; obtain ⟨a2, c2, rfl⟩ := own_form hown1; have HSa := hid (HSd.out.app (ss' := acc ++ [mkS (Rel.wrd l').1]) (a' := a2) (c' := c2) hgr1 (by rw [← HF1.out, List.length_append, List.map_append]; exact hown1)); have bx := (Rel.cells7 HSa.out.2).2.1; have rfx := seven_frz (o := 1) HSa.out.2; clear hown1 hgr1)
        all_goals
          have HS2 : Hid (Sm X w ⟨A, acc ++ [mkS (Rel.wrd l').1], ⟨#[]⟩, ⟨#[]⟩, ⟨#[]⟩, ⟨#[]⟩, 0⟩ a2 (acc ++ [mkS (Rel.wrd l').1]).length c2 (w6.setCell ⟨X, 1, none⟩ (.slice a2 (acc.length + 1) c2))) := by
            have h := HSa.out.1
            have hl : (acc ++ [mkS (Rel.wrd l').1]).length = acc.length + 1 := by simp
            unfold Hid
            rw [hl] at h ⊢
            exact h
          clear HSa HSd HSr b1d bx rfx b0 b1 b2 b3 b4 b5 b6
          generalize w6.setCell ⟨X, 1, none⟩ (.slice a2 (acc.length + 1) c2) = w8 at *
          have HU : Hid ((Rel.wrd l').1.length ≤ l'.length ∧ (Rel.wrd l').2.length ≤ l'.length) := by have := HW.out; exact ⟨by omega, by omega⟩
          have HWE := hid (fun h => wrds_end (n := m) (l := l') h)
          have HWM := hid (fun n r h => wrds_more (n := n) (l := l') (r := r) h)
          generalize (Rel.wrd l').1 = u2 at *
          generalize (Rel.wrd l').2 = l2 at *
          clear HW
          go_wp2_with fail
          rw [HF2.out]
          refine (f12 (mkS l2) ⟨#[44]⟩ _ (by rw [mk_len]; have := HU.out; omega) (by decide)).mono ?_
          rintro e w9 ⟨rfl, rfl⟩
          cases hb2 : sg [44] l2
          · have HB2 := hid (sgn_none hb2)
            go_wp2
            go_meet
            refine ⟨l2, acc ++ [mkS u2], a2, c2, rfl, HS2, fun k => kn_from_yes (m := 2000) k.1 (HL1.out k) (by omega) HB.out ?_, ⟨by simp; omega, by have := HU.out; omega⟩, ?_⟩
            · rw [HLR.out, HM.out, HWE.out HB2.out]
              simp
            · intro x hx
              rcases List.mem_append.1 hx with h3 | h3
              · exact HXr.out x h3
              · simp at h3; subst h3; rw [mk_len]; have := HU.out; omega
          · have HB2 := hid (sgn_yes hb2)
            have h1 : 1 ≤ l2.length := sg_len hb2
            have HX3 : Hid ((mkS l2).extract 1 l2.length = mkS (rs [44] l2)) := by
              unfold Hid; rw [rs_drop hb2, ← mk_len l2]; exact ext_mk l2 1
            have HL3 := hid (rs_len hb2)
            go_wp2
            refine ⟨⟨m - 1, rs [44] l2, acc ++ [mkS u2], a2, c2, congrArg Value.string HX3.out, ?_, HS2, ?_, ?_, ?_⟩, ?_⟩
            · unfold Hid
              obtain ⟨m', rfl⟩ : ∃ m', m = m' + 1 := ⟨m - 1, by have := HU.out; omega⟩
              rw [HM.out, HWM.out _ _ HB2.out]
              simp
            · have := HU.out; have := HL3.out; simp at this; omega
            · have := HU.out; have := HL3.out; simp at this ⊢; omega
            · intro x hx
              rcases List.mem_append.1 hx with h3 | h3
              · exact HXr.out x h3
              · simp at h3; subst h3; rw [mk_len]; have := HU.out; omega
            · have e1 : ((mkS l2).extract 1 l2.length).size = (rs [44] l2).length := by rw [HX3.out, mk_len]
              have e2 : (mkS l').size = l'.length := mk_len l'
              show ((mkS l2).extract 1 l2.length).size < (mkS l').size
              rw [e1, e2]
              have := HU.out; have := HL3.out; simp at this; omega
  case rest =>
  clear HS
  obtain ⟨l2, ss, a, c, rfl, HS4, HK4, HN4, HZ⟩ := hcut
  go_wp2_with fail
  refine (f14 (mkS l2) _ _ (by rw [mk_len]; have := HN4.out; omega) (by decide)).mono ?_
  rintro e w5 ⟨hb5, h5⟩
  have HS5 := hid (HS4.out.below hb5)
  clear hb5 HS4
  have rfx5 := seven_frz (o := 2) HS5.out.box
  have bx5 := (Rel.cells7 HS5.out.box).2.2.1
  rcases h5 with ⟨hq5, rfl⟩ | ⟨v5, l5, hq5, rfl, hv5, hl5⟩
  · have HQ : Hid (∀ q, Rel.goodR q = true → Rel.txtR q ≠ s.data.toList) := fun q h1 h2 => by
      have k := HR0.out q h1 h2
      have hq : Rel.beh [32, 115, 101, 112, 32] l2 = none := hq5
      rw [(HK4.out k).2, Rel.back_sep] at hq; cases hq
    have HS6 := hid (HS5.out.sep ⟨#[]⟩)
    obtain ⟨b0, b1, b2, b3, b4, b5, b6⟩ := Rel.cells7 HS6.out.non
    obtain ⟨z0, z1, z2, z3, z4, z5, z6⟩ := Rel.cells7 HS6.out.zer
    have rf0 := seven_frz (o := 0) HS6.out.zer
    have rf1 := seven_frz (o := 1) HS6.out.zer
    have rf2 := seven_frz (o := 2) HS6.out.zer
    have rf3 := seven_frz (o := 3) HS6.out.zer
    have rf4 := seven_frz (o := 4) HS6.out.zer
    have rf5 := seven_frz (o := 5) HS6.out.zer
    have rf6 := seven_frz (o := 6) HS6.out.zer
    have HY := hid (Rel.cells7 (put7_box HS6.out.zer (.int .i64 0) (.slice none 0 0) (.string ⟨#[]⟩) (.string ⟨#[]⟩) (.string ⟨#[]⟩) (.string ⟨#[]⟩) (.int .i64 0)))
    go_wp2
    obtain ⟨y0, y1, y2, y3, y4, y5, y6⟩ := HY.out
    refine bodyPost_ret (v := .tuple #[Rel.agR zr none 0 0, .bool false]) ?_ rfl (HS6.out.none' HQ.out)
    rw [results_cell_tmp rfl]
    go_simp
  have HK5 : Hid (Kn r0 s.data.toList → ss = r0.from' ∧ mkS v5 = r0.sep ∧ l5 = Rel.t2 r0) := fun k => by
    have hq : Rel.beh [32, 115, 101, 112, 32] l2 = some (v5, l5) := hq5
    rw [(HK4.out k).2, Rel.back_sep] at hq
    have h3 := (Prod.mk.injEq _ _ _ _).mp (Option.some.inj hq)
    exact ⟨(HK4.out k).1, mk_eq h3.1.symm, h3.2.symm⟩
  have HN6 : Hid (v5.length ≤ 2000 ∧ l5.length ≤ 2000) := by rw [mk_len] at hv5 hl5; have := HN4.out; exact ⟨by omega, by omega⟩
  have HS6 := hid (HS5.out.sep (mkS v5))
  clear hq5 hv5 hl5 HS5 HK4
  go_wp2_with fail
  refine (f14 (mkS l5) _ _ (by rw [mk_len]; have := HN6.out; omega) (by decide)).mono ?_
  rintro e w7 ⟨hb7, h7⟩
  have HS7 := hid (HS6.out.below hb7)
  clear hb7 HS6
  have rfx7 := seven_frz (o := 3) HS7.out.box
  have bx7 := (Rel.cells7 HS7.out.box).2.2.2.1
  rcases h7 with ⟨hq7, rfl⟩ | ⟨v7, l7, hq7, rfl, hv7, hl7⟩
  · have HQ : Hid (∀ q, Rel.goodR q = true → Rel.txtR q ≠ s.data.toList) := fun q h1 h2 => by
      have k := HR0.out q h1 h2
      have hq : Rel.beh [32, 108, 105, 107, 101, 32] l5 = none := hq7
      rw [(HK5.out k).2.2, Rel.back_pat] at hq; cases hq
    have HS8 := hid (HS7.out.pat ⟨#[]⟩)
    obtain ⟨b0, b1, b2, b3, b4, b5, b6⟩ := Rel.cells7 HS8.out.non
    obtain ⟨z0, z1, z2, z3, z4, z5, z6⟩ := Rel.cells7 HS8.out.zer
    have rf0 := seven_frz (o := 0) HS8.out.zer
    have rf1 := seven_frz (o := 1) HS8.out.zer
    have rf2 := seven_frz (o := 2) HS8.out.zer
    have rf3 := seven_frz (o := 3) HS8.out.zer
    have rf4 := seven_frz (o := 4) HS8.out.zer
    have rf5 := seven_frz (o := 5) HS8.out.zer
    have rf6 := seven_frz (o := 6) HS8.out.zer
    have HY := hid (Rel.cells7 (put7_box HS8.out.zer (.int .i64 0) (.slice none 0 0) (.string ⟨#[]⟩) (.string ⟨#[]⟩) (.string ⟨#[]⟩) (.string ⟨#[]⟩) (.int .i64 0)))
    go_wp2
    obtain ⟨y0, y1, y2, y3, y4, y5, y6⟩ := HY.out
    refine bodyPost_ret (v := .tuple #[Rel.agR zr none 0 0, .bool false]) ?_ rfl (HS8.out.none' HQ.out)
    rw [results_cell_tmp rfl]
    go_simp
  have HK7 : Hid (Kn r0 s.data.toList → ss = r0.from' ∧ mkS v5 = r0.sep ∧ mkS v7 = r0.pat ∧ l7 = Rel.t3 r0) := fun k => by
    have hq : Rel.beh [32, 108, 105, 107, 101, 32] l5 = some (v7, l7) := hq7
    rw [(HK5.out k).2.2, Rel.back_pat] at hq
    have h3 := (Prod.mk.injEq _ _ _ _).mp (Option.some.inj hq)
    exact ⟨(HK5.out k).1, (HK5.out k).2.1, mk_eq h3.1.symm, h3.2.symm⟩
  have HN8 : Hid (v7.length ≤ 2000 ∧ l7.length ≤ 2000) := by rw [mk_len] at hv7 hl7; have := HN6.out; exact ⟨by omega, by omega⟩
  have HS8 := hid (HS7.out.pat (mkS v7))
  clear hq7 hv7 hl7 HS7 HK5
  go_wp2_with fail
  refine (f12 (mkS l7) _ _ (by rw [mk_len]; have := HN8.out; omega) (by decide)).mono ?_
  rintro e w9 ⟨rfl, rfl⟩
  go_upto_if 75 with fail
  go_cut [9] from 75 to 84 (fun s9 wx => ∃ (l10 : List UInt8) (v10 : ByteArray), s9 = .string (mkS l10) ∧ Hid (Sm X w ⟨A, ss, mkS v5, mkS v7, v10, ⟨#[]⟩, 0⟩ a ss.length c wx) ∧ Hid (Kn r0 s.data.toList → v10 = r0.tgt ∧ l10 = Rel.t4 r0) ∧ Hid (v10.size ≤ 2000 ∧ l10.length ≤ 2000))
  case first =>
    cases hb : sg sT l7
    · have HB := hid hb
      go_wp2
      go_meet
      exact ⟨l7, ⟨#[]⟩, rfl, HS8, fun k => by have h := kn_to_no k.1 (HK7.out k).2.2.2 HB.out; rw [(sg_no (sgn_none HB.out)).2] at h; exact h, ⟨Nat.zero_le _, HN8.out.2⟩⟩
    · have HB := hid hb
      have h4 : 4 ≤ l7.length := sg_len hb
      go_wp2_with fail
      refine (f13 (mkS l7) 4 _ (by rw [mk_len]; have := HN8.out; omega) (by rw [mk_len]; exact h4)).mono ?_
      rintro e w10 ⟨rfl, rfl⟩
      have HRS := hid (rs_drop hb)
      have hkl : nmE (by' (mkS l7)) 4 ≤ l7.length := nmE_le h4
      have hkg : 4 ≤ nmE (by' (mkS l7)) 4 := nmE_ge _ _
      obtain ⟨hf1, hf2⟩ := nm_facts l7 4
      have HF1 : Hid ((mkS l7).extract 4 (nmE (by' (mkS l7)) 4) = mkS (Rel.wrd (rs sT l7)).1) := by unfold Hid; rw [HRS.out]; exact hf1
      have HF2 : Hid ((mkS l7).extract (nmE (by' (mkS l7)) 4) l7.length = mkS (Rel.wrd (rs sT l7)).2) := by unfold Hid; rw [HRS.out, ← mk_len l7]; exact hf2
      have HLW : Hid ((Rel.wrd (rs sT l7)).1.length ≤ 2000 ∧ (Rel.wrd (rs sT l7)).2.length ≤ 2000) := by
        have g1 := wrd_len (rs sT l7)
        have g2 := rs_len hb
        have g3 := HN8.out
        exact ⟨by omega, by omega⟩
      clear hf1 hf2
      generalize nmE (by' (mkS l7)) 4 = k at *
      have HS9 := hid (HS8.out.tgt (mkS (Rel.wrd (rs sT l7)).1))
      have bx := (Rel.cells7 HS8.out.box).2.2.2.2.1
      have rfx := seven_frz (o := 4) HS8.out.box
      have hkI : (4 : Int) ≤ (k : Int) := by omega
      have hkL : (k : Int) ≤ (l7.length : Int) := by omega
      go_wp2
      go_meet
      exact ⟨(Rel.wrd (rs sT l7)).2, mkS (Rel.wrd (rs sT l7)).1, congrArg Value.string HF2.out, by rw [HF1.out]; exact HS9, fun k => kn_to_yes k.1 (HK7.out k).2.2.2 HB.out, ⟨by rw [mk_len]; exact HLW.out.1, HLW.out.2⟩⟩
  case rest =>
  clear HS8 rfx5 bx5 rfx7 bx7
  obtain ⟨l10, v10, rfl, HS10, HK10, HN10⟩ := hcut
  go_wp2_with fail
  refine (f14 (mkS l10) _ _ (by rw [mk_len]; have := HN10.out; omega) (by decide)).mono ?_
  rintro e w11 ⟨hb11, h11⟩
  have HS11 := hid (HS10.out.below hb11)
  clear hb11 HS10
  have rfx11 := seven_frz (o := 5) HS11.out.box
  have bx11 := (Rel.cells7 HS11.out.box).2.2.2.2.2.1
  rcases h11 with ⟨hq11, rfl⟩ | ⟨v11, l11, hq11, rfl, hv11, hl11⟩
  · have HQ : Hid (∀ q, Rel.goodR q = true → Rel.txtR q ≠ s.data.toList) := fun q h1 h2 => by
      have k := HR0.out q h1 h2
      have hq : Rel.beh [32, 97, 115, 32] l10 = none := hq11
      rw [(HK10.out k).2, Rel.back_val] at hq; cases hq
    have HS12 := hid (HS11.out.val ⟨#[]⟩)
    obtain ⟨b0, b1, b2, b3, b4, b5, b6⟩ := Rel.cells7 HS12.out.non
    obtain ⟨z0, z1, z2, z3, z4, z5, z6⟩ := Rel.cells7 HS12.out.zer
    have rf0 := seven_frz (o := 0) HS12.out.zer
    have rf1 := seven_frz (o := 1) HS12.out.zer
    have rf2 := seven_frz (o := 2) HS12.out.zer
    have rf3 := seven_frz (o := 3) HS12.out.zer
    have rf4 := seven_frz (o := 4) HS12.out.zer
    have rf5 := seven_frz (o := 5) HS12.out.zer
    have rf6 := seven_frz (o := 6) HS12.out.zer
    have HY := hid (Rel.cells7 (put7_box HS12.out.zer (.int .i64 0) (.slice none 0 0) (.string ⟨#[]⟩) (.string ⟨#[]⟩) (.string ⟨#[]⟩) (.string ⟨#[]⟩) (.int .i64 0)))
    go_wp2
    obtain ⟨y0, y1, y2, y3, y4, y5, y6⟩ := HY.out
    refine bodyPost_ret (v := .tuple #[Rel.agR zr none 0 0, .bool false]) ?_ rfl (HS12.out.none' HQ.out)
    rw [results_cell_tmp rfl]
    go_simp
  have HK11 : Hid (Kn r0 s.data.toList → mkS v11 = r0.val ∧ l11 = Rel.t5 r0) := fun k => by
    have hq : Rel.beh [32, 97, 115, 32] l10 = some (v11, l11) := hq11
    rw [(HK10.out k).2, Rel.back_val] at hq
    have h3 := (Prod.mk.injEq _ _ _ _).mp (Option.some.inj hq)
    exact ⟨mk_eq h3.1.symm, h3.2.symm⟩
  have HN12 : Hid (v11.length ≤ 2000 ∧ l11.length ≤ 2000) := by rw [mk_len] at hv11 hl11; have := HN10.out; exact ⟨by omega, by omega⟩
  have HS12 := hid (HS11.out.val (mkS v11))
  clear hq11 hv11 hl11 HS11
  go_wp2_with fail
  refine (f12 (mkS l11) _ _ (by rw [mk_len]; have := HN12.out; omega) (by decide)).mono ?_
  rintro e w13 ⟨rfl, rfl⟩
  go_upto_if 96 with fail
  go_cut [9, 11] from 96 to 103 (fun s9 s11 wx => ∃ (l14 : List UInt8) (ok14 : Bool) (m14 : Int), s9 = .string (mkS l14) ∧ s11 = .bool ok14 ∧ Hid (Sm X w ⟨A, ss, mkS v5, mkS v7, v10, mkS v11, m14⟩ a ss.length c wx) ∧ Hid (Kn r0 s.data.toList → m14 = r0.md ∧ ok14 = true ∧ l14 = []))
  case first =>
    cases hb : sg sB l11
    · have HB := hid hb
      go_wp2
      go_meet
      exact ⟨l11, true, 0, rfl, rfl, HS12, fun k => ⟨kn_by_no (HK11.out k).2 HB.out, rfl, kn_by_nil (HK11.out k).2 HB.out⟩⟩
    · have HB := hid hb
      have h4 : 4 ≤ l11.length := sg_len hb
      have HX4 : Hid ((mkS l11).extract 4 l11.length = mkS (rs sB l11)) := by
        unfold Hid; rw [rs_drop hb, ← mk_len l11]; exact ext_mk l11 4
      have HL4 : Hid ((rs sB l11).length ≤ 2000) := by have := rs_len hb; have := HN12.out; unfold Hid; omega
      go_wp2_with fail
      rw [HX4.out]
      refine (Rel.f15 (mkS (rs sB l11)) _ (by rw [mk_len]; have := HL4.out; omega)).mono ?_
      rintro e w15 ⟨hb15, m, ok, rfl, hm0, hm1, hm⟩
      have HS15 := hid (HS12.out.below hb15)
      have HS16 := hid (HS15.out.md m)
      have HM : Hid (Kn r0 s.data.toList → m = r0.md ∧ ok = true) := fun k => by
        obtain ⟨h1, h2, h3⟩ := kn_by_all k.1 (HK11.out k).2 HB.out
        exact hm _ h2 h3 h1
      have bx := (Rel.cells7 HS15.out.box).2.2.2.2.2.2
      have rfx := seven_frz (o := 6) HS15.out.box
      clear hb15 hm
      go_wp2
      go_meet
      exact ⟨[], ok, m, rfl, rfl, HS16, fun k => ⟨(HM.out k).1, (HM.out k).2, rfl⟩⟩
  case rest =>
  clear HS12 rfx11 bx11
  obtain ⟨l14, ok14, m14, rfl, rfl, HS14, HK14⟩ := hcut
  have HKA : Hid (Kn r0 s.data.toList → (⟨A, ss, mkS v5, mkS v7, v10, mkS v11, m14⟩ : Rel.Rule) = r0) := fun k => by
    obtain ⟨k1, k2, k3, _⟩ := HK7.out k
    obtain ⟨k4, _⟩ := HK10.out k
    obtain ⟨k5, _⟩ := HK11.out k
    obtain ⟨k6, _, _⟩ := HK14.out k
    have k0 := HA.out k
    rw [k0, k1, k2, k3, k4, k5, k6]
  cases ok14
  · have HQ : Hid (∀ q, Rel.goodR q = true → Rel.txtR q ≠ s.data.toList) := fun q h1 h2 => by
      have := (HK14.out (HR0.out q h1 h2)).2.1
      cases this
    obtain ⟨b0, b1, b2, b3, b4, b5, b6⟩ := Rel.cells7 HS14.out.non
    obtain ⟨z0, z1, z2, z3, z4, z5, z6⟩ := Rel.cells7 HS14.out.zer
    have rf0 := seven_frz (o := 0) HS14.out.zer
    have rf1 := seven_frz (o := 1) HS14.out.zer
    have rf2 := seven_frz (o := 2) HS14.out.zer
    have rf3 := seven_frz (o := 3) HS14.out.zer
    have rf4 := seven_frz (o := 4) HS14.out.zer
    have rf5 := seven_frz (o := 5) HS14.out.zer
    have rf6 := seven_frz (o := 6) HS14.out.zer
    have HY := hid (Rel.cells7 (put7_box HS14.out.zer (.int .i64 0) (.slice none 0 0) (.string ⟨#[]⟩) (.string ⟨#[]⟩) (.string ⟨#[]⟩) (.string ⟨#[]⟩) (.int .i64 0)))
    go_wp2
    obtain ⟨y0, y1, y2, y3, y4, y5, y6⟩ := HY.out
    refine bodyPost_ret (v := .tuple #[Rel.agR zr none 0 0, .bool false]) ?_ rfl (HS14.out.none' HQ.out)
    rw [results_cell_tmp rfl]
    go_simp
  by_cases hl14 : l14 = []
  rotate_left
  · have HQ : Hid (∀ q, Rel.goodR q = true → Rel.txtR q ≠ s.data.toList) := fun q h1 h2 => hl14 (HK14.out (HR0.out q h1 h2)).2.2
    have hne2 : l14.isEmpty = false := by
      cases l14 with
      | nil => exact absurd rfl hl14
      | cons x r => rfl
    have hne : (mkS l14).toList.isEmpty = false := by
      rw [ByteArray.toList_eq]
      exact hne2
    obtain ⟨b0, b1, b2, b3, b4, b5, b6⟩ := Rel.cells7 HS14.out.non
    obtain ⟨z0, z1, z2, z3, z4, z5, z6⟩ := Rel.cells7 HS14.out.zer
    have rf0 := seven_frz (o := 0) HS14.out.zer
    have rf1 := seven_frz (o := 1) HS14.out.zer
    have rf2 := seven_frz (o := 2) HS14.out.zer
    have rf3 := seven_frz (o := 3) HS14.out.zer
    have rf4 := seven_frz (o := 4) HS14.out.zer
    have rf5 := seven_frz (o := 5) HS14.out.zer
    have rf6 := seven_frz (o := 6) HS14.out.zer
    have HY := hid (Rel.cells7 (put7_box HS14.out.zer (.int .i64 0) (.slice none 0 0) (.string ⟨#[]⟩) (.string ⟨#[]⟩) (.string ⟨#[]⟩) (.string ⟨#[]⟩) (.int .i64 0)))
    go_wp2
    obtain ⟨y0, y1, y2, y3, y4, y5, y6⟩ := HY.out
    refine bodyPost_ret (v := .tuple #[Rel.agR zr none 0 0, .bool false]) ?_ rfl (HS14.out.none' HQ.out)
    rw [results_cell_tmp rfl]
    go_simp
  subst hl14
  have HSM : Hid (Rel.SmlR ⟨A, ss, mkS v5, mkS v7, v10, mkS v11, m14⟩) := by
    have g4 := HN4.out; have g6 := HN6.out; have g8 := HN8.out; have g10 := HN10.out; have g12 := HN12.out
    refine sml_of (N := 2001) (by omega) g4.1 (fun x hx => by have := HZ.out x hx; omega) ?_ ?_ ?_ ?_
    · show (mkS v5).size ≤ 2001; rw [mk_len]; omega
    · show (mkS v7).size ≤ 2001; rw [mk_len]; omega
    · show v10.size ≤ 2001; omega
    · show (mkS v11).size ≤ 2001; rw [mk_len]; omega
  obtain ⟨b0, b1, b2, b3, b4, b5, b6⟩ := Rel.cells7 HS14.out.box
  go_wp2_with fail
  refine (Rel.f16 ⟨A, ss, mkS v5, mkS v7, v10, mkS v11, m14⟩ a ss.length c _ rfl (hasT_own rfl HS14.out.row).1 HSM.out).mono ?_
  rintro e w15 ⟨rfl, hb15⟩
  have HS15 := hid (HS14.out.below hb15)
  clear hb15 HS14 b0 b1 b2 b3 b4 b5 b6
  cases hgd : Rel.goodR ⟨A, ss, mkS v5, mkS v7, v10, mkS v11, m14⟩
  · have HQ : Hid (∀ q, Rel.goodR q = true → Rel.txtR q ≠ s.data.toList) := fun q h1 h2 => by
      have k := HR0.out q h1 h2
      have := k.1
      rw [← HKA.out k, hgd] at this; cases this
    obtain ⟨b0, b1, b2, b3, b4, b5, b6⟩ := Rel.cells7 HS15.out.non
    obtain ⟨z0, z1, z2, z3, z4, z5, z6⟩ := Rel.cells7 HS15.out.zer
    have rf0 := seven_frz (o := 0) HS15.out.zer
    have rf1 := seven_frz (o := 1) HS15.out.zer
    have rf2 := seven_frz (o := 2) HS15.out.zer
    have rf3 := seven_frz (o := 3) HS15.out.zer
    have rf4 := seven_frz (o := 4) HS15.out.zer
    have rf5 := seven_frz (o := 5) HS15.out.zer
    have rf6 := seven_frz (o := 6) HS15.out.zer
    have HY := hid (Rel.cells7 (put7_box HS15.out.zer (.int .i64 0) (.slice none 0 0) (.string ⟨#[]⟩) (.string ⟨#[]⟩) (.string ⟨#[]⟩) (.string ⟨#[]⟩) (.int .i64 0)))
    go_wp2
    obtain ⟨y0, y1, y2, y3, y4, y5, y6⟩ := HY.out
    refine bodyPost_ret (v := .tuple #[Rel.agR zr none 0 0, .bool false]) ?_ rfl (HS15.out.none' HQ.out)
    rw [results_cell_tmp rfl]
    go_simp
  have HGD := hid hgd
  obtain ⟨ha1, ha8⟩ := Rel.good_act hgd
  obtain ⟨hm0, hm1⟩ := Rel.good_md hgd
  obtain ⟨b0, b1, b2, b3, b4, b5, b6⟩ := Rel.cells7 HS15.out.box
  have HA1 := hid ha1
  have HA8 := hid ha8
  have HM0 := hid hm0
  have HM1 := hid hm1
  clear ha1 ha8 hm0 hm1
  go_wp2_with fail
  refine (Rel.f17 ⟨A, ss, mkS v5, mkS v7, v10, mkS v11, m14⟩ a ss.length c _ rfl (hasT_own rfl HS15.out.row).1 HSM.out ⟨HA1.out, HA8.out⟩ ⟨HM0.out, HM1.out⟩).mono ?_
  rintro e w16 ⟨rfl, hb16⟩
  have HS16 := hid (HS15.out.below hb16)
  clear hb16 HS15 b0 b1 b2 b3 b4 b5 b6
  by_cases hq : Rel.txtR ⟨A, ss, mkS v5, mkS v7, v10, mkS v11, m14⟩ = s.data.toList
  · have heq : (Rel.txtR ⟨A, ss, mkS v5, mkS v7, v10, mkS v11, m14⟩ == s.toList) = true := by rw [ByteArray.toList_eq, hq]; exact beq_self_eq_true _
    have HE := hid (HS16.out.some' (s := s) HGD.out hq)
    clear hq
    obtain ⟨b0, b1, b2, b3, b4, b5, b6⟩ := Rel.cells7 HS16.out.box
    obtain ⟨z0, z1, z2, z3, z4, z5, z6⟩ := Rel.cells7 HS16.out.zer
    have rf0 := seven_frz (o := 0) HS16.out.zer
    have rf1 := seven_frz (o := 1) HS16.out.zer
    have rf2 := seven_frz (o := 2) HS16.out.zer
    have rf3 := seven_frz (o := 3) HS16.out.zer
    have rf4 := seven_frz (o := 4) HS16.out.zer
    have rf5 := seven_frz (o := 5) HS16.out.zer
    have rf6 := seven_frz (o := 6) HS16.out.zer
    have HY := hid (Rel.cells7 (put7_box HS16.out.zer (.int .i64 A) (.slice a ss.length c) (.string (mkS v5)) (.string (mkS v7)) (.string v10) (.string (mkS v11)) (.int .i64 m14)))
    go_wp2
    obtain ⟨y0, y1, y2, y3, y4, y5, y6⟩ := HY.out
    refine bodyPost_ret (v := .tuple #[Rel.agR ⟨A, ss, mkS v5, mkS v7, v10, mkS v11, m14⟩ a ss.length c, .bool true]) ?_ rfl HE.out
    rw [results_cell_tmp rfl]
    go_simp
  · have heq : (Rel.txtR ⟨A, ss, mkS v5, mkS v7, v10, mkS v11, m14⟩ == s.toList) = false := by
      rw [beq_eq_false_iff_ne, ByteArray.toList_eq]; exact hq
    have HQ : Hid (∀ q, Rel.goodR q = true → Rel.txtR q ≠ s.data.toList) := fun q h1 h2 => by
      have k := HR0.out q h1 h2
      exact hq (by rw [HKA.out k]; exact k.2.symm)
    clear hq
    obtain ⟨b0, b1, b2, b3, b4, b5, b6⟩ := Rel.cells7 HS16.out.non
    obtain ⟨z0, z1, z2, z3, z4, z5, z6⟩ := Rel.cells7 HS16.out.zer
    have rf0 := seven_frz (o := 0) HS16.out.zer
    have rf1 := seven_frz (o := 1) HS16.out.zer
    have rf2 := seven_frz (o := 2) HS16.out.zer
    have rf3 := seven_frz (o := 3) HS16.out.zer
    have rf4 := seven_frz (o := 4) HS16.out.zer
    have rf5 := seven_frz (o := 5) HS16.out.zer
    have rf6 := seven_frz (o := 6) HS16.out.zer
    have HY := hid (Rel.cells7 (put7_box HS16.out.zer (.int .i64 0) (.slice none 0 0) (.string ⟨#[]⟩) (.string ⟨#[]⟩) (.string ⟨#[]⟩) (.string ⟨#[]⟩) (.int .i64 0)))
    go_wp2
    obtain ⟨y0, y1, y2, y3, y4, y5, y6⟩ := HY.out
    refine bodyPost_ret (v := .tuple #[Rel.agR zr none 0 0, .bool false]) ?_ rfl (HS16.out.none' HQ.out)
    rw [results_cell_tmp rfl]
    go_simp
end Go.Proofs.YtbijhkbmgljjiaaGreatDoor.Rdd
