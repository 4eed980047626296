/- The program's ReadRelabel: of a good rule's text that rule in memory of its own, of any other text none. -/
import Derived.Test.YtbijhkbmgljjiaaGreatDoorVh
import Derived.Test.YtbijhkbmgljjiaaGreatDoorRv
namespace Go.Proofs.YtbijhkbmgljjiaaGreatDoor.Rdd
open Go.RowKit Go.Proofs.YtbijhkbmgljjiaaGreatDoor.Pat

abbrev zr : Rel.Rule := ⟨0, [], ⟨#[]⟩, ⟨#[]⟩, ⟨#[]⟩, ⟨#[]⟩, 0⟩
/-- What the call of ReadRelabel leaves. -/
def RdlR (s : ByteArray) (w : World) (e : Ending) (w' : World) : Prop :=
  Below w.heap.size w w' ∧ ((∃ (r : Rel.Rule) (a : Option Addr) (n c : Nat), Rel.goodR r = true ∧ Rel.txtR r = s.data.toList ∧ e = .returned (.tuple #[Rel.agR r a n c, .bool true]) ∧ r.from'.length = n ∧ w'.ownsRow w.heap.size 9 1 (.slice a n c) n (r.from'.map Value.string)) ∨
    ((∀ r, Rel.goodR r = true → Rel.txtR r ≠ s.data.toList) ∧ e = .returned (.tuple #[Rel.agR zr none 0 0, .bool false])))
theorem hasT_own {w : World} {base n c : Nat} {a : Option Addr} {ss : List ByteArray} (hn : ss.length = n) (h : w.ownsRow base 9 1 (.slice a n c) n (ss.map Value.string)) : Fil.HasT w a ss ∧ n ≤ c := by
  rcases h.2 with ⟨h1, h2⟩ | ⟨g, cap, cur, h1, h2, h3, h4, _⟩
  · refine ⟨.inl ?_, ?_⟩
    · rw [h2] at hn; exact List.length_eq_zero_iff.1 hn
    · omega
  · cases h1
    exact ⟨Fil.HasT.own h, h4⟩
/-- The answer's box, the rule's box, the row of its names, in a world that came from w. -/
structure Es (w : World) (X : Nat) (r : Rel.Rule) (a : Option Addr) (n c : Nat) (x : World) : Prop where
  zer : x.heap[w.heap.size]? = some (.cells (ruleC zr none 0 0) 24)
  box : x.heap[X]? = some (.cells (ruleC r a n c) 24)
  row : x.ownsRow (w.heap.size + 1) 9 1 (.slice a n c) n (r.from'.map Value.string)
  bel : Below w.heap.size w x
  glb : Glb x
theorem Es.below {w : World} {X : Nat} {r : Rel.Rule} {a : Option Addr} {n c : Nat} {x y : World} (h : Es w X r a n c x) (hb : Below x.heap.size x y) : Es w X r a n c y :=
  ⟨(hb.block _ (lt_block h.zer)).trans h.zer, (hb.block _ (lt_block h.box)).trans h.box, own_kept (R := 0) h.row ⟨hb.os, hb.tape, hb.output, hb.size, fun j hj _ => hb.block j hj⟩ (by omega), h.bel.trans (hb.mono h.bel.size), h.glb.kept (R := 5) ⟨hb.os, hb.tape, hb.output, hb.size, fun j hj _ => hb.block j hj⟩ (by decide)⟩
theorem put7_below {w x : World} (h : Below w.heap.size w x) (x0 x1 x2 x3 x4 x5 x6 : Value) : Below w.heap.size w (put7 x w.heap.size x0 x1 x2 x3 x4 x5 x6) := by
  have hg : w.grownBy x (some w.heap.size) := ⟨h.os, h.tape, h.output, h.size, fun j hj _ => h.block j hj⟩
  have := put7_new hg (Nat.le_refl _) x0 x1 x2 x3 x4 x5 x6
  exact ⟨this.os, this.tape, this.output, this.size, fun j hj => this.block j hj (by simp; omega)⟩
theorem sml_of {r : Rel.Rule} {N : Nat} (hN : N ≤ 1048576) (hn : r.from'.length ≤ N) (hx : ∀ x ∈ r.from', x.size ≤ N) (z1 : r.sep.size ≤ N) (z2 : r.pat.size ≤ N) (z3 : r.tgt.size ≤ N) (z4 : r.val.size ≤ N) : Rel.SmlR r := by
  refine ⟨by omega, fun i hi => ?_, by omega, by omega, by omega, by omega⟩
  have e : r.from'.getD i ByteArray.empty = r.from'[i] := by simp [hi]
  rw [e]
  have := hx _ (List.getElem_mem hi)
  omega
theorem fit_of {r : Rel.Rule} {N : Nat} (hN : N ≤ 1048576) (a0 : 0 ≤ r.act) (a1 : r.act ≤ 8) (z1 : r.sep.size ≤ N) (z2 : r.pat.size ≤ N) (z3 : r.tgt.size ≤ N) (z4 : r.val.size ≤ N) (m0 : -9223372036854775808 ≤ r.md) (m1 : r.md ≤ 9223372036854775807) : Rel.FitR r :=
  ⟨by omega, by omega, m0, m1, by unfold maxLen; omega, by unfold maxLen; omega, by unfold maxLen; omega, by unfold maxLen; omega⟩
set_option maxHeartbeats 4000000 in
theorem f5 (s : ByteArray) (w : World) (hs : s.size ≤ 1048576) (hG : Glb w) : Calls Tryz.prog 5 #[.string s] w (RdlR s w) := by
  obtain ⟨r0, hr0⟩ : ∃ r0 : Rel.Rule, ∀ r, Rel.goodR r = true → Rel.txtR r = s.data.toList → Kn r0 s.data.toList := by
    by_cases h : ∃ r, Rel.goodR r = true ∧ Rel.txtR r = s.data.toList
    · obtain ⟨r, h1, h2⟩ := h
      exact ⟨r, fun _ _ _ => ⟨h1, h2.symm⟩⟩
    · exact ⟨zr, fun r h1 h2 => absurd ⟨r, h1, h2⟩ h⟩
  have HR0 := hid hr0
  have HG := hid hG
  have hw4 := hG.pow.1
  clear hr0 hG
  go_enter Tryz.func5, Tryz.ntmps5
  go_wp2_with fail
  refine (f18 _ s s.data.toList r0 _ hs ?a1 ?a2 ?a3).mono ?_
  case a1 =>
    refine ⟨0, ⟨?_, Nat.zero_le _⟩, rfl⟩
    have := heap_alloc_new (w.alloc (.cells (ruleC zr none 0 0) 24)) (.cells #[.string s, .int .i64 0] 44)
    simp only [World.size_alloc] at this
    exact this
  case a2 => exact HG.out.kept (R := 5) (Lib.grownBy_allocR (World.grownBy_alloc w _ (some 5)) _) (by decide)
  case a3 => omega
  rintro e w1 ⟨r, a, n, c, ok, rfl, hn, hn1, hx, hown, hgr, ha0, ha8, z1, z2, z3, z4, m0, m1, hk⟩
  have HX : Hid (Es w w1.heap.size r a n c (w1.alloc (.cells (ruleC r a n c) 24))) := by
    have hsz := hgr.size
    simp only [World.size_alloc] at hsz
    have hz : w1.heap[w.heap.size]? = some (.cells (ruleC zr none 0 0) 24) := by
      rw [hgr.block w.heap.size (by simp only [World.size_alloc]; omega) (by simp)]
      exact box_alloc (heap_alloc_new w _) _
    have hww : w.grownBy w1 (some (w.heap.size + 1)) := Lib.grownBy_trans (Lib.grownBy_allocR (World.grownBy_alloc w _ (some (w.heap.size + 1))) _) hgr
    have hbw : Below w.heap.size w w1 := ⟨hww.os, hww.tape, hww.output, hww.size, fun j hj => hww.block j hj (by simp; omega)⟩
    refine ⟨box_alloc hz _, heap_alloc_new _ _, (own_base hown (by simp only [World.size_alloc]; omega)).alloc _, hbw.alloc (by omega) _, ?_⟩
    exact HG.out.kept (R := w.heap.size + 1) (Lib.grownBy_allocR hww _) (by omega)
  have HSM := hid (sml_of hs (by omega) hx z1 z2 z3 z4)
  have HFT := hid (fit_of hs ha0 ha8 z1 z2 z3 z4 m0 m1)
  have HN := hid hn
  have HK : Hid (∀ q, Rel.goodR q = true → Rel.txtR q = s.data.toList → Rel.goodR r = true ∧ Rel.txtR r = s.data.toList ∧ ok = true) := by
    intro q h1 h2
    have k := HR0.out q h1 h2
    obtain ⟨k1, k2⟩ := hk k
    rw [k1]
    exact ⟨k.1, k.2.symm, k2⟩
  obtain ⟨A, ss, sep, pat, tgt, val, md⟩ := r
  clear hn hn1 hx hown hgr ha0 ha8 z1 z2 z3 z4 m0 m1 hk HR0
  generalize hXX : w1.heap.size = X at *
  have HZ : Hid (∀ x, Es w X ⟨A, ss, sep, pat, tgt, val, md⟩ a n c x → (∀ q, Rel.goodR q = true → Rel.txtR q ≠ s.data.toList) → RdlR s w (.returned (.tuple #[Rel.agR zr none 0 0, .bool false])) (put7 x w.heap.size (.int .i64 0) (.slice none 0 0) (.string ⟨#[]⟩) (.string ⟨#[]⟩) (.string ⟨#[]⟩) (.string ⟨#[]⟩) (.int .i64 0))) :=
    fun x hx hq => ⟨put7_below hx.bel _ _ _ _ _ _ _, .inr ⟨hq, rfl⟩⟩
  cases ok
  · have HQ : Hid (∀ q, Rel.goodR q = true → Rel.txtR q ≠ s.data.toList) := fun q h1 h2 => by cases (HK.out q h1 h2).2.2
    obtain ⟨c0, c1, c2, c3, c4, c5, c6⟩ := Rel.cells7 HX.out.zer
    have rf0 := seven_frz (o := 0) HX.out.zer
    have rf1 := seven_frz (o := 1) HX.out.zer
    have rf2 := seven_frz (o := 2) HX.out.zer
    have rf3 := seven_frz (o := 3) HX.out.zer
    have rf4 := seven_frz (o := 4) HX.out.zer
    have rf5 := seven_frz (o := 5) HX.out.zer
    have rf6 := seven_frz (o := 6) HX.out.zer
    have HY := hid (Rel.cells7 (put7_box HX.out.zer (.int .i64 0) (.slice none 0 0) (.string ⟨#[]⟩) (.string ⟨#[]⟩) (.string ⟨#[]⟩) (.string ⟨#[]⟩) (.int .i64 0)))
    go_wp2
    obtain ⟨y0, y1, y2, y3, y4, y5, y6⟩ := HY.out
    refine bodyPost_ret (v := .tuple #[Rel.agR zr none 0 0, .bool false]) ?_ rfl (HZ.out _ HX.out HQ.out)
    rw [results_cell_tmp rfl]
    go_simp
  · obtain ⟨b0, b1, b2, b3, b4, b5, b6⟩ := Rel.cells7 HX.out.box
    go_wp2_with fail
    refine (Rel.f19 ⟨A, ss, sep, pat, tgt, val, md⟩ a n c _ HN.out (hasT_own HN.out HX.out.row).1 HSM.out HFT.out HX.out.glb.tab).mono ?_
    rintro e w3 ⟨rfl, hb3⟩
    have HX3 := hid (HX.out.below hb3)
    clear hb3 HX b0 b1 b2 b3 b4 b5 b6
    cases hgd : Rel.goodR ⟨A, ss, sep, pat, tgt, val, md⟩
    · have HQ : Hid (∀ q, Rel.goodR q = true → Rel.txtR q ≠ s.data.toList) := fun q h1 h2 => by
        have := (HK.out q h1 h2).1
        rw [hgd] at this; cases this
      have HW := HX3
      obtain ⟨c0, c1, c2, c3, c4, c5, c6⟩ := Rel.cells7 HW.out.zer
      have rf0 := seven_frz (o := 0) HW.out.zer
      have rf1 := seven_frz (o := 1) HW.out.zer
      have rf2 := seven_frz (o := 2) HW.out.zer
      have rf3 := seven_frz (o := 3) HW.out.zer
      have rf4 := seven_frz (o := 4) HW.out.zer
      have rf5 := seven_frz (o := 5) HW.out.zer
      have rf6 := seven_frz (o := 6) HW.out.zer
      have HY := hid (Rel.cells7 (put7_box HW.out.zer (.int .i64 0) (.slice none 0 0) (.string ⟨#[]⟩) (.string ⟨#[]⟩) (.string ⟨#[]⟩) (.string ⟨#[]⟩) (.int .i64 0)))
      go_wp2
      obtain ⟨y0, y1, y2, y3, y4, y5, y6⟩ := HY.out
      refine bodyPost_ret (v := .tuple #[Rel.agR zr none 0 0, .bool false]) ?_ rfl (HZ.out _ HW.out HQ.out)
      rw [results_cell_tmp rfl]
      go_simp
    · have HGD := hid hgd
      have HAN := hid (Rel.ans_yes hgd)
      obtain ⟨b0, b1, b2, b3, b4, b5, b6⟩ := Rel.cells7 HX3.out.box
      obtain ⟨ht3, hc3⟩ := hasT_own HN.out HX3.out.row
      have HT3 := hid ht3
      clear ht3
      go_wp2_with fail
      refine (Rel.f20 ⟨A, ss, sep, pat, tgt, val, md⟩ a n c _ hc3 HN.out HT3.out HSM.out HFT.out HX3.out.glb.tab HX3.out.glb.pow).mono ?_
      rintro e w4 ⟨rfl, hb4⟩
      have HW := hid (HX3.out.below hb4)
      clear hb4 HT3 HX3 b0 b1 b2 b3 b4 b5 b6
      rw [HAN.out]
      by_cases hq : Rel.txtR ⟨A, ss, sep, pat, tgt, val, md⟩ = s.data.toList
      · have heq : (Rel.txtR ⟨A, ss, sep, pat, tgt, val, md⟩ == s.toList) = true := by rw [ByteArray.toList_eq, hq]; exact beq_self_eq_true _
        have HE : Hid (∀ x, Es w X ⟨A, ss, sep, pat, tgt, val, md⟩ a n c x → RdlR s w (.returned (.tuple #[Rel.agR ⟨A, ss, sep, pat, tgt, val, md⟩ a n c, .bool true])) (put7 x w.heap.size (.int .i64 A) (.slice a n c) (.string sep) (.string pat) (.string tgt) (.string val) (.int .i64 md))) :=
          fun x hx => ⟨put7_below hx.bel _ _ _ _ _ _ _, .inl ⟨⟨A, ss, sep, pat, tgt, val, md⟩, a, n, c, HGD.out, hq, rfl, HN.out, own_base (put7_own hx.row (by omega) _ _ _ _ _ _ _) (by omega)⟩⟩
        clear hq
        obtain ⟨b0, b1, b2, b3, b4, b5, b6⟩ := Rel.cells7 HW.out.box
        obtain ⟨c0, c1, c2, c3, c4, c5, c6⟩ := Rel.cells7 HW.out.zer
        have rf0 := seven_frz (o := 0) HW.out.zer
        have rf1 := seven_frz (o := 1) HW.out.zer
        have rf2 := seven_frz (o := 2) HW.out.zer
        have rf3 := seven_frz (o := 3) HW.out.zer
        have rf4 := seven_frz (o := 4) HW.out.zer
        have rf5 := seven_frz (o := 5) HW.out.zer
        have rf6 := seven_frz (o := 6) HW.out.zer
        have HY := hid (Rel.cells7 (put7_box HW.out.zer (.int .i64 A) (.slice a n c) (.string sep) (.string pat) (.string tgt) (.string val) (.int .i64 md)))
        go_wp2
        obtain ⟨y0, y1, y2, y3, y4, y5, y6⟩ := HY.out
        refine bodyPost_ret (v := .tuple #[Rel.agR ⟨A, ss, sep, pat, tgt, val, md⟩ a n c, .bool true]) ?_ rfl (HE.out _ HW.out)
        rw [results_cell_tmp rfl]
        go_simp
      · have heq : (Rel.txtR ⟨A, ss, sep, pat, tgt, val, md⟩ == s.toList) = false := by
          rw [beq_eq_false_iff_ne, ByteArray.toList_eq]; exact hq
        have HQ : Hid (∀ q, Rel.goodR q = true → Rel.txtR q ≠ s.data.toList) := fun q h1 h2 => hq (HK.out q h1 h2).2.1
        clear hq
        obtain ⟨c0, c1, c2, c3, c4, c5, c6⟩ := Rel.cells7 HW.out.zer
        have rf0 := seven_frz (o := 0) HW.out.zer
        have rf1 := seven_frz (o := 1) HW.out.zer
        have rf2 := seven_frz (o := 2) HW.out.zer
        have rf3 := seven_frz (o := 3) HW.out.zer
        have rf4 := seven_frz (o := 4) HW.out.zer
        have rf5 := seven_frz (o := 5) HW.out.zer
        have rf6 := seven_frz (o := 6) HW.out.zer
        have HY := hid (Rel.cells7 (put7_box HW.out.zer (.int .i64 0) (.slice none 0 0) (.string ⟨#[]⟩) (.string ⟨#[]⟩) (.string ⟨#[]⟩) (.string ⟨#[]⟩) (.int .i64 0)))
        go_wp2
        obtain ⟨y0, y1, y2, y3, y4, y5, y6⟩ := HY.out
        refine bodyPost_ret (v := .tuple #[Rel.agR zr none 0 0, .bool false]) ?_ rfl (HZ.out _ HW.out HQ.out)
        rw [results_cell_tmp rfl]
        go_simp
end Go.Proofs.YtbijhkbmgljjiaaGreatDoor.Rdd
