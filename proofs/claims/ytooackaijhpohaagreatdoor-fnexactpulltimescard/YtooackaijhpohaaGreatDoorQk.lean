/- The walk of FnExactGoodTarget. -/
import Derived.Test.YtooackaijhpohaaGreatDoorQj
namespace Go.Proofs.YtooackaijhpohaaGreatDoor.Tgt
open Go.RowKit Go.Proofs.YtooackaijhpohaaGreatDoor.Fil Go.Proofs.YtooackaijhpohaaGreatDoor.Rul

theorem Same.trans' {t t' t'' : Tg} (h : Same t t') (h' : Same t t'') : Same t' t'' :=
  ⟨h'.ls.trans h.ls.symm, h'.ev.trans h.ev.symm, h'.lm.trans h.lm.symm, h'.ho.trans h.ho.symm, h'.qn.trans h.qn.symm, fun i hi => (h'.rul i (by rw [← h.qn]; exact hi)).trans (h.rul i (by rw [← h.qn]; exact hi)).symm⟩
theorem Same.fit {t t' : Tg} (h : Same t t') (hf : FitG t) : FitG t' := by
  refine ⟨by rw [h.ls]; exact hf.ln, by rw [h.ls]; exact hf.lab, by rw [h.qn]; exact hf.qn, fun i => ?_, by rw [h.ev]; exact hf.e0, by rw [h.ev]; exact hf.e1, by rw [h.lm]; exact hf.l0, by rw [h.lm]; exact hf.l1⟩
  by_cases hi : i < t.qs.length
  · rw [h.rul i hi]; exact hf.rul i
  · rw [List.getD_eq_getElem?_getD, List.getElem?_eq_none (by rw [h.qn]; omega)]; exact fit_q0
theorem Same.sml {t t' : Tg} (h : Same t t') (hz : Sml t) : Sml t' :=
  ⟨by rw [h.ls]; exact hz.ln, by rw [h.qn]; exact hz.qn, fun i hi => by rw [h.rul i (by rw [← h.qn]; exact hi)]; exact hz.rul i (by rw [← h.qn]; exact hi)⟩
theorem gdQ_same {qs qs' : List Q} (hn : qs'.length = qs.length) (h : ∀ i, i < qs.length → (qs'.getD i q0).r = (qs.getD i q0).r) : gdQ qs' = gdQ qs := by
  unfold gdQ
  refine decide_eq_decide.2 ⟨fun q => ⟨by omega, fun i hi => by rw [← h i hi]; exact q.2 i (by omega)⟩, fun q => ⟨by omega, fun i hi => by rw [h i (by omega)]; exact q.2 i (by omega)⟩⟩
theorem Same.good {t t' : Tg} (h : Same t t') : GoodT t' ↔ GoodT t := by
  unfold GoodT
  rw [h.ls, h.ev, h.lm, gdQ_same h.qn h.rul]
/-- The argument in its box, the copy that was handed in in another one. -/
structure Wx (w : World) (t t' : Tg) (B : Nat) (x : World) : Prop where
  one : x.heap[w.heap.size]? = some (.cells (clT t) 25)
  two : x.heap[B]? = some (.cells (clT t') 31)
  arg : Has x t
  has : Has x t'
  bel : Below w.heap.size w x
theorem Wx.below {w : World} {t t' : Tg} {B : Nat} {x y : World} (h : Wx w t t' B x) (hb : Below x.heap.size x y) : Wx w t t' B y := ⟨kept h.one hb, kept h.two hb, h.arg.below hb, h.has.below hb, h.bel.trans (hb.mono h.bel.size)⟩
/-- The same, cell by cell. -/
abbrev WS (w : World) (t t' : Tg) (B : Nat) (x : World) : Prop :=
  x.cell? ⟨w.heap.size, 0, none⟩ = some (.slice t.la t.ls.length t.lc) ∧ x.cell? ⟨w.heap.size, 1, none⟩ = some (.int .i64 t.ev) ∧ x.cell? ⟨w.heap.size, 2, none⟩ = some (.int .i64 t.lm) ∧ x.cell? ⟨w.heap.size, 3, none⟩ = some (.bool t.ho) ∧ x.cell? ⟨w.heap.size, 4, none⟩ = some (.slice t.ra t.qs.length t.rc) ∧
  x.cell? ⟨B, 0, none⟩ = some (.slice t'.la t'.ls.length t'.lc) ∧ x.cell? ⟨B, 1, none⟩ = some (.int .i64 t'.ev) ∧ x.cell? ⟨B, 2, none⟩ = some (.int .i64 t'.lm) ∧ x.cell? ⟨B, 3, none⟩ = some (.bool t'.ho) ∧ x.cell? ⟨B, 4, none⟩ = some (.slice t'.ra t'.qs.length t'.rc) ∧ Wx w t t' B x
theorem Wx.cells {w : World} {t t' : Tg} {B : Nat} {x : World} (h : Wx w t t' B x) : WS w t t' B x := by
  obtain ⟨b0, b1, b2, b3, b4⟩ := cells5 h.one
  obtain ⟨c0, c1, c2, c3, c4⟩ := cells5 h.two
  exact ⟨b0, b1, b2, b3, b4, c0, c1, c2, c3, c4, h⟩
theorem WS.wx {w : World} {t t' : Tg} {B : Nat} {x : World} (h : WS w t t' B x) : Wx w t t' B x := h.2.2.2.2.2.2.2.2.2.2
theorem WS.below {w : World} {t t' : Tg} {B : Nat} {x y : World} (h : WS w t t' B x) (hb : Below x.heap.size x y) : WS w t t' B y := (h.wx.below hb).cells
theorem below_drew (w : World) : Below w.heap.size w w.drew := (Below.refl _ _).drew
set_option maxHeartbeats 4000000 in
theorem walk3 (t : Tg) (w : World) (hr : Has w t) (hf : FitG t) (ht : Rel.Tab w) :
    Calls Tryz.prog 3 #[agT t] w fun e w' => e = .returned (.bool true) ∧ Below w.heap.size w w' := by
  have hbb := (Below.refl w.heap.size w).alloc (Nat.le_refl _) (.cells (clT t) 25)
  have H0 := hid (show (w.alloc (.cells (clT t) 25)).heap[w.heap.size]? = some (.cells (clT t) 25) ∧ Has (w.alloc (.cells (clT t) 25)) t ∧ Below w.heap.size w (w.alloc (.cells (clT t) 25)) from ⟨heap_alloc_new w _, hr.below hbb, hbb⟩)
  have HF := hid hf
  have HT := hid ht
  clear hr hf ht hbb
  obtain ⟨ls, la, lc, ev, lm, ho, qs, ra, rc⟩ := t
  go_enter Tryz.func3, Tryz.ntmps3
  go_wp2_with fail
  refine (f6 ⟨ls, la, lc, ev, lm, ho, qs, ra, rc⟩ _ H0.out.2.1 HF.out).mono ?_
  rintro e w1 ⟨y, rfl, hy, hb1⟩
  have H1 := hid (show w1.heap[w.heap.size]? = some (.cells (clT ⟨ls, la, lc, ev, lm, ho, qs, ra, rc⟩) 25) ∧ Has w1 ⟨ls, la, lc, ev, lm, ho, qs, ra, rc⟩ ∧ Below w.heap.size w w1 from ⟨kept H0.out.1 hb1, H0.out.2.1.below hb1, H0.out.2.2.trans (hb1.mono H0.out.2.2.size)⟩)
  clear hb1 H0
  by_cases g0 : y < 0
  · go_wp2
    go_ret
    exact ⟨rfl, H1.out.2.2⟩
  have HZ := hid (hy (by omega))
  clear hy
  obtain ⟨b0, b1, b2, b3, b4⟩ := cells5 H1.out.1
  go_wp2_with fail
  refine (f8 ⟨ls, la, lc, ev, lm, ho, qs, ra, rc⟩ _ H1.out.2.1 HZ.out).mono ?_
  rintro e w2 ⟨t2, rfl, hs2, hh2, hb2⟩
  have H2 := hid (show w2.heap[w.heap.size]? = some (.cells (clT ⟨ls, la, lc, ev, lm, ho, qs, ra, rc⟩) 25) ∧ Has w2 ⟨ls, la, lc, ev, lm, ho, qs, ra, rc⟩ ∧ Below w.heap.size w w2 from ⟨kept H1.out.1 hb2, H1.out.2.1.below hb2, H1.out.2.2.trans (hb2.mono H1.out.2.2.size)⟩)
  have HS2 := hid hs2
  have HH2 := hid hh2
  clear hb2 hs2 hh2 H1 b0 b1 b2 b3 b4
  go_wp2_with fail
  refine (f7 t2 _ HH2.out (HS2.out.fit HF.out) (HS2.out.sml HZ.out)).mono ?_
  rintro e w3 ⟨p, rfl, hp, hb3⟩
  have H3 := hid (show w3.heap[w.heap.size]? = some (.cells (clT ⟨ls, la, lc, ev, lm, ho, qs, ra, rc⟩) 25) ∧ Has w3 ⟨ls, la, lc, ev, lm, ho, qs, ra, rc⟩ ∧ Below w.heap.size w w3 from ⟨kept H2.out.1 hb3, H2.out.2.1.below hb3, H2.out.2.2.trans (hb3.mono H2.out.2.2.size)⟩)
  have HP := hid (hp.trans HS2.out.good)
  clear hb3 hp H2 HH2
  obtain ⟨b0, b1, b2, b3, b4⟩ := cells5 H3.out.1
  go_wp2_with fail
  refine (f8 ⟨ls, la, lc, ev, lm, ho, qs, ra, rc⟩ _ H3.out.2.1 HZ.out).mono ?_
  rintro e w4 ⟨t4, rfl, hs4, hh4, hb4⟩
  obtain ⟨ls4, la4, lc4, ev4, lm4, ho4, qs4, ra4, rc4⟩ := t4
  have H5 : Hid (Wx w ⟨ls, la, lc, ev, lm, ho, qs, ra, rc⟩ ⟨ls4, la4, lc4, ev4, lm4, ho4, qs4, ra4, rc4⟩ w4.heap.size (w4.alloc (.cells (clT ⟨ls4, la4, lc4, ev4, lm4, ho4, qs4, ra4, rc4⟩) 31))) := by
    have hb := (Below.refl w4.heap.size w4).alloc (Nat.le_refl _) (.cells (clT ⟨ls4, la4, lc4, ev4, lm4, ho4, qs4, ra4, rc4⟩) 31)
    have hb5 := H3.out.2.2.trans (hb4.mono H3.out.2.2.size)
    exact ⟨kept (kept H3.out.1 hb4) hb, heap_alloc_new w4 _, (H3.out.2.1.below hb4).below hb, hh4.below hb, hb5.trans (hb.mono hb5.size)⟩
  have HS4 := hid hs4
  clear hb4 hs4 hh4 H3 b0 b1 b2 b3 b4
  obtain ⟨c0, c1, c2, c3, c4⟩ := cells5 H5.out.two
  have HT5 := hid (HT.out.below H5.out.bel)
  generalize hBB : w4.heap.size = BB at *
  go_wp2_with fail
  refine (f9 ⟨ls4, la4, lc4, ev4, lm4, ho4, qs4, ra4, rc4⟩ _ H5.out.has (HS4.out.fit HF.out) (HS4.out.sml HZ.out) HT5.out).mono ?_
  rintro e w6 ⟨p', rfl, hp', hb6⟩
  have H6 := hid (H5.out.below hb6)
  have hpp : p' = p := by
    have h1 := hp'.trans HS4.out.good
    have h2 := HP.out
    cases p <;> cases p' <;> simp_all
  subst hpp
  clear hb6 hp' H5 HT5 c0 c1 c2 c3 c4 hBB
  have HS4' := hid HS4.out
  have HZ4 := hid (HS4.out.sml HZ.out)
  cases p'
  all_goals
    go_wp2_with fail
    go_region_held3 (fun x => WS w ⟨ls, la, lc, ev, lm, ho, qs, ra, rc⟩ ⟨ls4, la4, lc4, ev4, lm4, ho4, qs4, ra4, rc4⟩ BB x) (first | exact (H6.out.below (below_drew _)).cells | assumption) (first | (go_at_call 8; refine (f8 ⟨ls, la, lc, ev, lm, ho, qs, ra, rc⟩ _ (Wx.arg (WS.wx (by assumption))) HZ.out).mono ?_; rintro e w7 ⟨t7, rfl, hs7, hh7, hb7⟩; have hq7 := WS.below (by assumption) hb7; clear hb7) | (go_at_call 10; refine (f10 ⟨ls4, la4, lc4, ev4, lm4, ho4, qs4, ra4, rc4⟩ t7 _ (Wx.has (WS.wx (by assumption))) (by assumption) (HS4'.out.trans' (by assumption)) HZ4.out).mono ?_; rintro e w8 ⟨rfl, hb8⟩; have hq8 := WS.below (by assumption) hb8; clear hb8))
    have HX8 := hid hq8.wx
    clear hq8
    go_wp2
    go_ret
    exact ⟨rfl, HX8.out.bel⟩
end Go.Proofs.YtooackaijhpohaaGreatDoor.Tgt
