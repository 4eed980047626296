/- Good rules: the program's GoodRelabel, and the walk of FnExactGoodRelabel. -/
import Derived.Test.YthjhpgdobneeiaaDoorRe
import Derived.Test.YthjhpgdobneeiaaDoorRga
import Derived.Test.YthjhpgdobneeiaaDoorRgb
import Derived.Test.YthjhpgdobneeiaaDoorRgc
import Derived.Test.YthjhpgdobneeiaaDoorRgd
namespace Go.Proofs.YthjhpgdobneeiaaDoor.Rel
open Go.RowKit Go.Proofs.YthjhpgdobneeiaaDoor.Fil

set_option maxHeartbeats 1000000 in
theorem f8 (r : Rule) (a : Option Addr) (n c : Nat) (w : World) (hn : r.from'.length = n) (hr : HasT w a r.from') (hz : SmlR r) (hf : FitR r) (ht : Tab w) :
    Calls Tryd.prog 8 #[agR r a n c] w fun e w' => e = .returned (.bool (goodR r)) ∧ Below w.heap.size w w' := by
  obtain ⟨A, ss, sep, pat, tgt, val, md⟩ := r
  obtain ⟨lf0, lf1, lf2, lf3, -, -, -, -⟩ := hf
  simp only at hn hr lf0 lf1 lf2 lf3
  by_cases hA : 1 ≤ A ∧ A ≤ 8
  · rcases (show A = 1 ∨ A = 2 ∨ A = 3 ∨ A = 4 ∨ A = 5 ∨ A = 6 ∨ A = 7 ∨ A = 8 by omega) with rfl | rfl | rfl | rfl | rfl | rfl | rfl | rfl
    · exact f8_1 ss sep pat tgt val md a n c w hn hr hz ht lf2 lf3
    · exact f8_2 ss sep pat tgt val md a n c w hn hr hz ht lf2 lf3
    · exact f8_3 ss sep pat tgt val md a n c w hn hr hz ht lf2 lf3
    · exact f8_4 ss sep pat tgt val md a n c w hn hr hz ht lf2 lf3
    · exact f8_5 ss sep pat tgt val md a n c w hn hr hz ht lf2 lf3
    · exact f8_6 ss sep pat tgt val md a n c w hn hr hz ht lf2 lf3
    · exact f8_7 ss sep pat tgt val md a n c w hn hr hz ht lf2 lf3
    · exact f8_8 ss sep pat tgt val md a n c w hn hr hz ht lf2 lf3
  · have HK := hid (good_out (r := ⟨A, ss, sep, pat, tgt, val, md⟩) hA)
    have HB := hid ((Below.refl w.heap.size w).alloc (Nat.le_refl _) (.cells #[.int .i64 A, .slice a n c, .string sep, .string pat, .string tgt, .string val, .int .i64 md] 27))
    clear hn hr
    simp only [agR]
    by_cases h1 : A < 1
    · go_enter Tryd.func8, Tryd.ntmps8
      go_wp2
      go_ret
      exact ⟨ret_bool HK.out.symm, HB.out⟩
    · have h8 : 8 < A := by omega
      clear hA
      go_enter Tryd.func8, Tryd.ntmps8
      go_wp2
      go_ret
      exact ⟨ret_bool HK.out.symm, HB.out⟩

/-- The argument in its box, the copy that was handed in in another one. -/
structure Wx (w : World) (r : Rule) (n c g B : Nat) (a : Option Addr) (x : World) : Prop where
  one : x.heap[w.heap.size]? = some (.cells #[.int .i64 r.act, .slice a n c, .string r.sep, .string r.pat, .string r.tgt, .string r.val, .int .i64 r.md] 24)
  two : x.heap[B]? = some (.cells #[.int .i64 r.act, .slice (some ⟨g, 0, none⟩) n n, .string r.sep, .string r.pat, .string r.tgt, .string r.val, .int .i64 r.md] 27)
  arg : HasT x a r.from'
  txt : HasT x (some ⟨g, 0, none⟩) r.from'
  bel : Below w.heap.size w x
theorem Wx.below {w : World} {r : Rule} {n c g B : Nat} {a : Option Addr} {x y : World} (h : Wx w r n c g B a x) (hb : Below x.heap.size x y) : Wx w r n c g B a y :=
  ⟨kept_at h.one hb, kept_at h.two hb, h.arg.below hb, h.txt.below hb, h.bel.trans (hb.mono h.bel.size)⟩
abbrev WS (w : World) (r : Rule) (n c g B : Nat) (a : Option Addr) (x : World) : Prop := x.cell? ⟨w.heap.size, 0, none⟩ = some (.int .i64 r.act) ∧ x.cell? ⟨w.heap.size, 1, none⟩ = some (.slice a n c) ∧ x.cell? ⟨w.heap.size, 2, none⟩ = some (.string r.sep) ∧ x.cell? ⟨w.heap.size, 3, none⟩ = some (.string r.pat) ∧ x.cell? ⟨w.heap.size, 4, none⟩ = some (.string r.tgt) ∧ x.cell? ⟨w.heap.size, 5, none⟩ = some (.string r.val) ∧ x.cell? ⟨w.heap.size, 6, none⟩ = some (.int .i64 r.md) ∧ x.cell? ⟨B, 0, none⟩ = some (.int .i64 r.act) ∧ x.cell? ⟨B, 1, none⟩ = some (.slice (some ⟨g, 0, none⟩) n n) ∧ x.cell? ⟨B, 2, none⟩ = some (.string r.sep) ∧ x.cell? ⟨B, 3, none⟩ = some (.string r.pat) ∧ x.cell? ⟨B, 4, none⟩ = some (.string r.tgt) ∧ x.cell? ⟨B, 5, none⟩ = some (.string r.val) ∧ x.cell? ⟨B, 6, none⟩ = some (.int .i64 r.md) ∧ Wx w r n c g B a x
theorem Wx.cells {w : World} {r : Rule} {n c g B : Nat} {a : Option Addr} {x : World} (h : Wx w r n c g B a x) : WS w r n c g B a x := by
  obtain ⟨b0, b1, b2, b3, b4, b5, b6⟩ := cells7 h.one
  obtain ⟨c0, c1, c2, c3, c4, c5, c6⟩ := cells7 h.two
  exact ⟨b0, b1, b2, b3, b4, b5, b6, c0, c1, c2, c3, c4, c5, c6, h⟩
theorem WS.wx {w : World} {r : Rule} {n c g B : Nat} {a : Option Addr} {x : World} (h : WS w r n c g B a x) : Wx w r n c g B a x := h.2.2.2.2.2.2.2.2.2.2.2.2.2.2
theorem WS.below {w : World} {r : Rule} {n c g B : Nat} {a : Option Addr} {x y : World} (h : WS w r n c g B a x) (hb : Below x.heap.size x y) : WS w r n c g B a y := (h.wx.below hb).cells
theorem below_drew (w : World) : Below w.heap.size w w.drew := (Below.refl _ _).drew

set_option maxHeartbeats 4000000 in
theorem walk3 (r : Rule) (a : Option Addr) (n c : Nat) (w : World) (hn : r.from'.length = n) (hr : HasT w a r.from') (hf : FitT r.from') (hmax : n ≤ maxLen) (hz : FitR r) (ht : Tab w) :
    Calls Tryd.prog 3 #[agR r a n c] w fun e w' => e = .returned (.bool true) ∧ Below w.heap.size w w' := by
  have HN := hid hn
  have HR := hid hr
  have HF := hid hz
  have HT := hid ht
  have HB0 := hid ((Below.refl w.heap.size w).alloc (Nat.le_refl _) (.cells #[.int .i64 r.act, .slice a n c, .string r.sep, .string r.pat, .string r.tgt, .string r.val, .int .i64 r.md] 24))
  have HW0 := hid (new_at w (.cells #[.int .i64 r.act, .slice a n c, .string r.sep, .string r.pat, .string r.tgt, .string r.val, .int .i64 r.md] 24))
  clear hn hr ht hz
  simp only [agR]
  go_enter Tryd.func3, Tryd.ntmps3
  go_wp2_with fail
  refine (f5 r a n c _ HN.out (HR.out.below HB0.out) hf hmax HF.out).mono ?_
  rintro e w1 ⟨y, rfl, hy, hb1⟩
  have HB1 := hid (HB0.out.trans (hb1.mono HB0.out.size))
  have j1 := kept_at HW0.out hb1
  have HW1 := hid j1
  obtain ⟨b0, b1, b2, b3, b4, b5, b6⟩ := cells7 j1
  clear hb1 HW0 HB0 j1
  by_cases h0 : y < 0
  · go_wp2
    go_ret
    exact ⟨rfl, HB1.out⟩
  have HS := hid (hy (by omega))
  have hbig : n ≤ 1048576 := by rw [← HN.out]; exact HS.out.n
  clear hy
  go_wp2_with fail
  refine (f7 r a n c _ HN.out (HR.out.below HB1.out) hbig).mono ?_
  rintro e w2 ⟨g1, rfl, -, ht2, hb2⟩
  have HB2 := hid (HB1.out.trans (hb2.mono HB1.out.size))
  have HW2 := hid (kept_at HW1.out hb2)
  have HT2 := hid ht2
  clear hb2 ht2 HB1 HW1 b0 b1 b2 b3 b4 b5 b6
  simp only [agR]
  go_wp2_with fail
  refine (f6 r _ n n _ HN.out HT2.out HS.out).mono ?_
  rintro e w3 ⟨rfl, hb3⟩
  have HB3 := hid (HB2.out.trans (hb3.mono HB2.out.size))
  have j3 := kept_at HW2.out hb3
  have HW3 := hid j3
  obtain ⟨b0, b1, b2, b3, b4, b5, b6⟩ := cells7 j3
  clear hb3 HB2 HW2 HT2 j3
  go_wp2_with fail
  refine (f7 r a n c _ HN.out (HR.out.below HB3.out) hbig).mono ?_
  rintro e w4 ⟨g, rfl, -, ht4, hb4⟩
  have HB4 := hid (HB3.out.trans (hb4.mono HB3.out.size))
  have HW4 := hid (kept_at HW3.out hb4)
  have HT4 := hid ht4
  clear hb4 ht4 HB3 HW3 b0 b1 b2 b3 b4 b5 b6
  have HX4 : Hid (Wx w r n c g w4.heap.size a (w4.alloc (.cells #[.int .i64 r.act, .slice (some ⟨g, 0, none⟩) n n, .string r.sep, .string r.pat, .string r.tgt, .string r.val, .int .i64 r.md] 27))) := by
    have hbl := (Below.refl w4.heap.size w4).alloc (Nat.le_refl _) (.cells #[.int .i64 r.act, .slice (some ⟨g, 0, none⟩) n n, .string r.sep, .string r.pat, .string r.tgt, .string r.val, .int .i64 r.md] 27)
    exact ⟨kept_at HW4.out hbl, new_at _ _, (HR.out.below HB4.out).below hbl, HT4.out.below hbl, HB4.out.trans (hbl.mono HB4.out.size)⟩
  simp only [agR]
  go_wp2_with fail
  refine (f8 r _ n n _ HN.out HX4.out.txt HS.out HF.out (HT.out.below HX4.out.bel)).mono ?_
  rintro e w5 ⟨rfl, hb5⟩
  have HX5 := hid (HX4.out.below hb5)
  obtain ⟨B, hB⟩ : ∃ B, B = w4.heap.size := ⟨_, rfl⟩
  rw [← hB] at HX5
  simp only [← hB]
  clear hb5 HX4 HW4 HT4 HB4 hB
  have hq : (goodR r == goodR r) = true := by simp
  generalize goodR r = v at *
  cases v
  all_goals
    go_wp2_with fail
    go_region_held3 (fun w' => WS w r n c g B a w') (first | exact (HX5.out.below (below_drew _)).cells | assumption) (first | (go_at_call 7; refine (f7 r a n c _ HN.out (Wx.arg (WS.wx (by assumption))) hbig).mono ?_; rintro e w6 ⟨g6, rfl, -, ht6, hb6⟩; have hs6 := WS.below (by assumption) hb6; clear hb6) | (go_at_call 9; refine (f9 r _ _ n n n _ HN.out (Wx.txt (WS.wx (by assumption))) (by assumption) hbig).mono ?_; rintro e w7 ⟨rfl, hb7⟩; have hs7 := WS.below (by assumption) hb7; clear hb7))
    have HX7 := hid hs7.wx
    clear hs7
    go_wp2
    go_ret
    exact ⟨rfl, HX7.out.bel⟩
end Go.Proofs.YthjhpgdobneeiaaDoor.Rel
