/- Offsets: both OffsetOfs, and the walk of FnExactOffsetOf. -/
import Derived.Test.YtooackaijhpohaaGreatDoorQk
import Derived.Test.YtooackaijhpohaaGreatDoorHl
namespace Go.Proofs.YtooackaijhpohaaGreatDoor.Tgt
open Go.RowKit Go.Proofs.YtooackaijhpohaaGreatDoor.Fil Go.Proofs.YtooackaijhpohaaGreatDoor.Rul
open Go.Proofs.YtooackaijhpohaaGreatDoor.Lab (Lb HasL)

/-- A target's box, its first two cells besides. -/
abbrev OS (w : World) (t : Tg) (x : World) : Prop := x.cell? ⟨w.heap.size, 0, none⟩ = some (.slice t.la t.ls.length t.lc) ∧ x.cell? ⟨w.heap.size, 1, none⟩ = some (.int .i64 t.ev) ∧ To w t x
theorem To.os {w : World} {t : Tg} {x : World} (h : To w t x) : OS w t x := by
  obtain ⟨b0, b1, _⟩ := cells5 h.box
  exact ⟨b0, b1, h⟩
theorem OS.to {w : World} {t : Tg} {x : World} (h : OS w t x) : To w t x := h.2.2
theorem OS.below {w : World} {t : Tg} {x y : World} (h : OS w t x) (hb : Below x.heap.size x y) : OS w t y := (h.to.below hb).os
/-- What is to be answered. -/
def OffZ (t : Tg) (z : Int) : Prop := (GoodT t ∧ z = (Lab.mix (Lab.txtR t.ls)).tmod t.ev) ∨ (¬ GoodT t ∧ z = 0)
theorem OffZ.uniq {t t' : Tg} {z z' : Int} (h : OffZ t z) (h' : OffZ t' z') (hs : GoodT t ↔ GoodT t') (hl : t'.ls = t.ls) (he : t'.ev = t.ev) : z' = z := by
  rcases h with ⟨h1, h2⟩ | ⟨h1, h2⟩
  · rcases h' with ⟨k1, k2⟩ | ⟨k1, k2⟩
    · rw [h2, k2, hl, he]
    · exact absurd (hs.1 h1) k1
  · rcases h' with ⟨k1, k2⟩ | ⟨k1, k2⟩
    · exact absurd (hs.2 k1) h1
    · rw [h2, k2]
def Offs (t : Tg) (w : World) (e : Ending) (w' : World) : Prop := ∃ z : Int, e = .returned (.int .i64 z) ∧ OffZ t z ∧ Below w.heap.size w w'
set_option maxHeartbeats 4000000 in
theorem f11 (t : Tg) (w : World) (hr : Has w t) (hf : FitG t) (hz : Sml t) :
    Calls Tryz.prog 11 #[agT t] w (Offs t w) := by
  obtain ⟨ls, la, lc, ev, lm, ho, qs, ra, rc⟩ := t
  have H0 := hid (To.new hr)
  have HF := hid hf
  have HZ := hid hz
  clear hr hf hz
  go_enter Tryz.func11, Tryz.ntmps11
  go_wp2_with fail
  refine (f7 ⟨ls, la, lc, ev, lm, ho, qs, ra, rc⟩ _ H0.out.has HF.out HZ.out).mono ?_
  rintro e w1 ⟨b, rfl, hb, hb1⟩
  have H1 := hid (H0.out.below hb1)
  have HP := hid hb
  clear hb1 H0 hb
  cases b
  · have HNG : Hid (¬ GoodT ⟨ls, la, lc, ev, lm, ho, qs, ra, rc⟩) := fun h => by have := HP.out.2 h; cases this
    go_wp2
    go_ret
    exact ⟨0, rfl, .inr ⟨HNG.out, rfl⟩, H1.out.bel⟩
  have HG := hid (HP.out.1 (by first | rfl | trivial))
  have hev : 1 ≤ ev := HG.out.2.1
  have hev2 : ev ≤ 3600 := HG.out.2.2.1
  have hne : (ev == 0) = false := by rw [beq_eq_false_iff_ne]; omega
  have hn0 : ¬ ev = 0 := by omega
  have hwr : IntKind.i64.wrap ((Lab.mix (Lab.txtR ls)).tmod ev) = (Lab.mix (Lab.txtR ls)).tmod ev := by
    have h1 : ((Lab.mix (Lab.txtR ls)).tmod ev).natAbs < ev.natAbs := by rw [Int.natAbs_tmod]; exact Nat.mod_lt _ (by omega)
    rw [IntKind.wrap_i64]; omega
  go_wp2_with fail
  go_region_held3 (fun x => OS w ⟨ls, la, lc, ev, lm, ho, qs, ra, rc⟩ x) (first | exact (H1.out.below (below_drew _)).os | assumption) (first | (go_at_call 30; refine (Lab.f30 la ls.length lc ls _ rfl HZ.out.ln (Has.lab (To.has (OS.to (by assumption)))) HF.out.lab).mono ?_; rintro e w2 ⟨rfl, hb2⟩; have hs2 := OS.below (by assumption) hb2; clear hb2))
  have H2 := hid hs2.to
  clear hs2
  go_wp2
  go_ret
  exact ⟨_, rfl, .inl ⟨HG.out, rfl⟩, H2.out.bel⟩
set_option maxHeartbeats 4000000 in
theorem f12 (t : Tg) (w : World) (hr : Has w t) (hf : FitG t) (hz : Sml t) (ht : Rel.Tab w) :
    Calls Tryz.prog 12 #[agT t] w (Offs t w) := by
  obtain ⟨ls, la, lc, ev, lm, ho, qs, ra, rc⟩ := t
  have H0 := hid (To.new hr)
  have HF := hid hf
  have HZ := hid hz
  have HT := hid (ht.below ((Below.refl w.heap.size w).alloc (Nat.le_refl _) (.cells (clT ⟨ls, la, lc, ev, lm, ho, qs, ra, rc⟩) 31)))
  clear ht
  clear hr hf hz
  go_enter Tryz.func12, Tryz.ntmps12
  go_wp2_with fail
  refine (f9 ⟨ls, la, lc, ev, lm, ho, qs, ra, rc⟩ _ H0.out.has HF.out HZ.out HT.out).mono ?_
  rintro e w1 ⟨b, rfl, hb, hb1⟩
  have H1 := hid (H0.out.below hb1)
  have HP := hid hb
  clear hb1 H0 hb
  cases b
  · have HNG : Hid (¬ GoodT ⟨ls, la, lc, ev, lm, ho, qs, ra, rc⟩) := fun h => by have := HP.out.2 h; cases this
    go_wp2
    go_ret
    exact ⟨0, rfl, .inr ⟨HNG.out, rfl⟩, H1.out.bel⟩
  have HG := hid (HP.out.1 (by first | rfl | trivial))
  have hev : 1 ≤ ev := HG.out.2.1
  have hev2 : ev ≤ 3600 := HG.out.2.2.1
  have hne : (ev == 0) = false := by rw [beq_eq_false_iff_ne]; omega
  have hn0 : ¬ ev = 0 := by omega
  have hwr : IntKind.i64.wrap ((Lab.mix (Lab.txtR ls)).tmod ev) = (Lab.mix (Lab.txtR ls)).tmod ev := by
    have h1 : ((Lab.mix (Lab.txtR ls)).tmod ev).natAbs < ev.natAbs := by rw [Int.natAbs_tmod]; exact Nat.mod_lt _ (by omega)
    rw [IntKind.wrap_i64]; omega
  go_wp2_with fail
  go_region_held3 (fun x => OS w ⟨ls, la, lc, ev, lm, ho, qs, ra, rc⟩ x) (first | exact (H1.out.below (below_drew _)).os | assumption) (first | (go_at_call 31; refine (Lab.f31 la ls.length lc ls _ rfl HZ.out.ln (Has.lab (To.has (OS.to (by assumption)))) HF.out.lab).mono ?_; rintro e w2 ⟨rfl, hb2⟩; have hs2 := OS.below (by assumption) hb2; clear hb2))
  have H2 := hid hs2.to
  clear hs2
  go_wp2
  go_ret
  exact ⟨_, rfl, .inl ⟨HG.out, rfl⟩, H2.out.bel⟩
set_option maxHeartbeats 4000000 in
theorem walk4 (t : Tg) (w : World) (hr : Has w t) (hf : FitG t) (ht : Rel.Tab w) :
    Calls Tryz.prog 4 #[agT t] w fun e w' => e = .returned (.bool true) ∧ Below w.heap.size w w' := by
  have hbb := (Below.refl w.heap.size w).alloc (Nat.le_refl _) (.cells (clT t) 25)
  have H0 := hid (show (w.alloc (.cells (clT t) 25)).heap[w.heap.size]? = some (.cells (clT t) 25) ∧ Has (w.alloc (.cells (clT t) 25)) t ∧ Below w.heap.size w (w.alloc (.cells (clT t) 25)) from ⟨heap_alloc_new w _, hr.below hbb, hbb⟩)
  have HF := hid hf
  have HT := hid ht
  clear hr hf ht hbb
  obtain ⟨ls, la, lc, ev, lm, ho, qs, ra, rc⟩ := t
  go_enter Tryz.func4, Tryz.ntmps4
  go_wp2_with fail
  refine (f6 ⟨ls, la, lc, ev, lm, ho, qs, ra, rc⟩ _ H0.out.2.1 HF.out).mono ?_
  rintro e w1 ⟨y, rfl, hy, hb1⟩
  have H1 := hid (show w1.heap[w.heap.size]? = some (.cells (clT ⟨ls, la, lc, ev, lm, ho, qs, ra, rc⟩) 25) ∧ Has w1 ⟨ls, la, lc, ev, lm, ho, qs, ra, rc⟩ ∧ Below w.heap.size w w1 from ⟨kept H0.out.1 hb1, H0.out.2.1.below hb1, H0.out.2.2.trans (hb1.mono H0.out.2.2.size)⟩)
  clear hb1 H0
  by_cases g0 : y < 0
  · go_wp2
    go_ret
    exact ⟨rfl, H1.out.2.2⟩
  have HZ := hid (hy (by omega))
  clear hy
  obtain ⟨b0, b1, b2, b3, b4⟩ := cells5 H1.out.1
  go_wp2_with fail
  refine (f8 ⟨ls, la, lc, ev, lm, ho, qs, ra, rc⟩ _ H1.out.2.1 HZ.out).mono ?_
  rintro e w2 ⟨t2, rfl, hs2, hh2, hb2⟩
  have H2 := hid (show w2.heap[w.heap.size]? = some (.cells (clT ⟨ls, la, lc, ev, lm, ho, qs, ra, rc⟩) 25) ∧ Has w2 ⟨ls, la, lc, ev, lm, ho, qs, ra, rc⟩ ∧ Below w.heap.size w w2 from ⟨kept H1.out.1 hb2, H1.out.2.1.below hb2, H1.out.2.2.trans (hb2.mono H1.out.2.2.size)⟩)
  have HS2 := hid hs2
  have HH2 := hid hh2
  clear hb2 hs2 hh2 H1 b0 b1 b2 b3 b4
  go_wp2_with fail
  refine (f11 t2 _ HH2.out (HS2.out.fit HF.out) (HS2.out.sml HZ.out)).mono ?_
  rintro e w3 ⟨p, rfl, hp, hb3⟩
  have H3 := hid (show w3.heap[w.heap.size]? = some (.cells (clT ⟨ls, la, lc, ev, lm, ho, qs, ra, rc⟩) 25) ∧ Has w3 ⟨ls, la, lc, ev, lm, ho, qs, ra, rc⟩ ∧ Below w.heap.size w w3 from ⟨kept H2.out.1 hb3, H2.out.2.1.below hb3, H2.out.2.2.trans (hb3.mono H2.out.2.2.size)⟩)
  have HP := hid hp
  clear hb3 hp H2 HH2
  obtain ⟨b0, b1, b2, b3, b4⟩ := cells5 H3.out.1
  go_wp2_with fail
  refine (f8 ⟨ls, la, lc, ev, lm, ho, qs, ra, rc⟩ _ H3.out.2.1 HZ.out).mono ?_
  rintro e w4 ⟨t4, rfl, hs4, hh4, hb4⟩
  obtain ⟨ls4, la4, lc4, ev4, lm4, ho4, qs4, ra4, rc4⟩ := t4
  have H5 : Hid (Wx w ⟨ls, la, lc, ev, lm, ho, qs, ra, rc⟩ ⟨ls4, la4, lc4, ev4, lm4, ho4, qs4, ra4, rc4⟩ w4.heap.size (w4.alloc (.cells (clT ⟨ls4, la4, lc4, ev4, lm4, ho4, qs4, ra4, rc4⟩) 31))) := by
    have hb := (Below.refl w4.heap.size w4).alloc (Nat.le_refl _) (.cells (clT ⟨ls4, la4, lc4, ev4, lm4, ho4, qs4, ra4, rc4⟩) 31)
    have hb5 := H3.out.2.2.trans (hb4.mono H3.out.2.2.size)
    exact ⟨kept (kept H3.out.1 hb4) hb, heap_alloc_new w4 _, (H3.out.2.1.below hb4).below hb, hh4.below hb, hb5.trans (hb.mono hb5.size)⟩
  have HS4 := hid hs4
  clear hb4 hs4 hh4 H3 b0 b1 b2 b3 b4
  obtain ⟨c0, c1, c2, c3, c4⟩ := cells5 H5.out.two
  have HT5 := hid (HT.out.below H5.out.bel)
  generalize hBB : w4.heap.size = BB at *
  go_wp2_with fail
  refine (f12 ⟨ls4, la4, lc4, ev4, lm4, ho4, qs4, ra4, rc4⟩ _ H5.out.has (HS4.out.fit HF.out) (HS4.out.sml HZ.out) HT5.out).mono ?_
  rintro e w6 ⟨p', rfl, hp', hb6⟩
  have H6 := hid (H5.out.below hb6)
  have hpp : p' = p := HP.out.uniq hp' (HS2.out.good.trans HS4.out.good.symm) (HS4.out.ls.trans HS2.out.ls.symm) (HS4.out.ev.trans HS2.out.ev.symm)
  subst hpp
  clear hb6 hp' H5 HT5 c0 c1 c2 c3 c4 hBB
  have HS4' := hid HS4.out
  have HZ4 := hid (HS4.out.sml HZ.out)
  all_goals
    go_wp2_with fail
    go_region_held3 (fun x => WS w ⟨ls, la, lc, ev, lm, ho, qs, ra, rc⟩ ⟨ls4, la4, lc4, ev4, lm4, ho4, qs4, ra4, rc4⟩ BB x) (first | exact (H6.out.below (below_drew _)).cells | assumption) (first | (go_at_call 8; refine (f8 ⟨ls, la, lc, ev, lm, ho, qs, ra, rc⟩ _ (Wx.arg (WS.wx (by assumption))) HZ.out).mono ?_; rintro e w7 ⟨t7, rfl, hs7, hh7, hb7⟩; have hq7 := WS.below (by assumption) hb7; clear hb7) | (go_at_call 10; refine (f10 ⟨ls4, la4, lc4, ev4, lm4, ho4, qs4, ra4, rc4⟩ t7 _ (Wx.has (WS.wx (by assumption))) (by assumption) (HS4'.out.trans' (by assumption)) HZ4.out).mono ?_; rintro e w8 ⟨rfl, hb8⟩; have hq8 := WS.below (by assumption) hb8; clear hb8))
    have HX8 := hid hq8.wx
    clear hq8
    go_wp2
    go_ret
    exact ⟨rfl, HX8.out.bel⟩
end Go.Proofs.YtooackaijhpohaaGreatDoor.Tgt
