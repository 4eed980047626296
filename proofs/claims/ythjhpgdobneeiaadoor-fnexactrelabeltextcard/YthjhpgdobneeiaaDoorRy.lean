/- The text of a rule: the model's RelabelText, and the walk of FnExactRelabelText. -/
import Derived.Test.YthjhpgdobneeiaaDoorRu
import Derived.Test.YthjhpgdobneeiaaDoorRv
namespace Go.Proofs.YthjhpgdobneeiaaDoor.Rel
open Go.RowKit Go.Proofs.YthjhpgdobneeiaaDoor.Fil

set_option maxHeartbeats 1000000 in
theorem f10 (r : Rule) (a : Option Addr) (n c : Nat) (w : World) (hn : r.from'.length = n) (hr : HasT w a r.from') (hz : SmlR r) :
    Calls Tryd.prog 10 #[agR r a n c] w fun e w' => e = .returned (.string (mkS (ansR r))) ∧ Below w.heap.size w w' := by
  have HS := hid hz
  have HN := hid hn
  have HX0 : Hid (Rx w r n c a _) := Rx.new hr
  clear hn hr hz
  simp only [agR]
  go_enter Tryd.func10, Tryd.ntmps10
  go_wp2_with fail
  refine (f6 r a n c _ HN.out HX0.out.txt HS.out).mono ?_
  rintro e w1 ⟨rfl, hb1⟩
  have HX := hid (HX0.out.below hb1)
  obtain ⟨b0, b1, b2, b3, b4, b5, b6⟩ := cells7 HX.out.one
  clear hb1 HX0
  by_cases hg : goodR r = true
  rotate_left
  · have hg' : goodR r = false := by simpa using hg
    have HA := hid (ans_no hg')
    clear hg
    go_wp2
    go_ret
    exact ⟨by rw [HA.out]; rfl, HX.out.bel⟩
  have HA := hid (ans_yes hg)
  have hA := good_act hg
  have hm := good_md hg
  go_wp2_with fail
  refine (f23 r a n c _ HN.out HX.out.txt HS.out hA hm).mono ?_
  rintro e w2 ⟨rfl, hb2⟩
  have HX2 := hid (HX.out.below hb2)
  clear hb2
  go_wp2
  go_ret
  exact ⟨by rw [HA.out]; rfl, HX2.out.bel⟩

set_option maxHeartbeats 4000000 in
theorem walk4 (r : Rule) (a : Option Addr) (n c : Nat) (w : World) (hn : r.from'.length = n) (hr : HasT w a r.from') (hf : FitT r.from') (hmax : n ≤ maxLen) (hz : FitR r) (ht : Tab w) (hp : Pow w) :
    Calls Tryd.prog 4 #[agR r a n c] w fun e w' => e = .returned (.bool true) ∧ Below w.heap.size w w' := by
  have HN := hid hn
  have HR := hid hr
  have HF := hid hz
  have HT := hid ht
  have HP := hid hp
  have HB0 := hid ((Below.refl w.heap.size w).alloc (Nat.le_refl _) (.cells #[.int .i64 r.act, .slice a n c, .string r.sep, .string r.pat, .string r.tgt, .string r.val, .int .i64 r.md] 24))
  have HW0 := hid (new_at w (.cells #[.int .i64 r.act, .slice a n c, .string r.sep, .string r.pat, .string r.tgt, .string r.val, .int .i64 r.md] 24))
  clear hn hr ht hz hp
  simp only [agR]
  go_enter Tryd.func4, Tryd.ntmps4
  go_wp2_with fail
  refine (f5 r a n c _ HN.out (HR.out.below HB0.out) hf hmax HF.out).mono ?_
  rintro e w1 ⟨y, rfl, hy, hb1⟩
  have HB1 := hid (HB0.out.trans (hb1.mono HB0.out.size))
  have j1 := kept_at HW0.out hb1
  have HW1 := hid j1
  obtain ⟨b0, b1, b2, b3, b4, b5, b6⟩ := cells7 j1
  clear hb1 HW0 HB0 j1
  by_cases h0 : y < 0
  · go_wp2
    go_ret
    exact ⟨rfl, HB1.out⟩
  have HS := hid (hy (by omega))
  have hbig : n ≤ 1048576 := by rw [← HN.out]; exact HS.out.n
  clear hy
  go_wp2_with fail
  refine (f7 r a n c _ HN.out (HR.out.below HB1.out) hbig).mono ?_
  rintro e w2 ⟨g1, rfl, -, ht2, hb2⟩
  have HB2 := hid (HB1.out.trans (hb2.mono HB1.out.size))
  have HW2 := hid (kept_at HW1.out hb2)
  have HT2 := hid ht2
  clear hb2 ht2 HB1 HW1 b0 b1 b2 b3 b4 b5 b6
  simp only [agR]
  go_wp2_with fail
  refine (f10 r _ n n _ HN.out HT2.out HS.out).mono ?_
  rintro e w3 ⟨rfl, hb3⟩
  have HB3 := hid (HB2.out.trans (hb3.mono HB2.out.size))
  have j3 := kept_at HW2.out hb3
  have HW3 := hid j3
  obtain ⟨b0, b1, b2, b3, b4, b5, b6⟩ := cells7 j3
  clear hb3 HB2 HW2 HT2 j3
  go_wp2_with fail
  refine (f7 r a n c _ HN.out (HR.out.below HB3.out) hbig).mono ?_
  rintro e w4 ⟨g, rfl, -, ht4, hb4⟩
  have HB4 := hid (HB3.out.trans (hb4.mono HB3.out.size))
  have HW4 := hid (kept_at HW3.out hb4)
  have HT4 := hid ht4
  clear hb4 ht4 HB3 HW3 b0 b1 b2 b3 b4 b5 b6
  have HX4 : Hid (Wx w r n c g w4.heap.size a (w4.alloc (.cells #[.int .i64 r.act, .slice (some ⟨g, 0, none⟩) n n, .string r.sep, .string r.pat, .string r.tgt, .string r.val, .int .i64 r.md] 27))) := by
    have hbl := (Below.refl w4.heap.size w4).alloc (Nat.le_refl _) (.cells #[.int .i64 r.act, .slice (some ⟨g, 0, none⟩) n n, .string r.sep, .string r.pat, .string r.tgt, .string r.val, .int .i64 r.md] 27)
    exact ⟨kept_at HW4.out hbl, new_at _ _, (HR.out.below HB4.out).below hbl, HT4.out.below hbl, HB4.out.trans (hbl.mono HB4.out.size)⟩
  simp only [agR]
  go_wp2_with fail
  refine (f11 r _ n _ HN.out HX4.out.txt HS.out HF.out (HT.out.below HX4.out.bel) (HP.out.below HX4.out.bel)).mono ?_
  rintro e w5 ⟨rfl, hb5⟩
  have HX5 := hid (HX4.out.below hb5)
  obtain ⟨B, hB⟩ : ∃ B, B = w4.heap.size := ⟨_, rfl⟩
  rw [← hB] at HX5
  simp only [← hB]
  clear hb5 HX4 HW4 HT4 HB4 hB
  have hq := str_same (mkS (ansR r))
  generalize mkS (ansR r) = v at *
  go_wp2_with fail
  go_region_held3 (fun w' => WS w r n c g B a w') (first | exact (HX5.out.below (below_drew _)).cells | assumption) (first | (go_at_call 7; refine (f7 r a n c _ HN.out (Wx.arg (WS.wx (by assumption))) hbig).mono ?_; rintro e w6 ⟨g6, rfl, -, ht6, hb6⟩; have hs6 := WS.below (by assumption) hb6; clear hb6) | (go_at_call 9; refine (f9 r _ _ n n n _ HN.out (Wx.txt (WS.wx (by assumption))) (by assumption) hbig).mono ?_; rintro e w7 ⟨rfl, hb7⟩; have hs7 := WS.below (by assumption) hb7; clear hb7))
  have HX7 := hid hs7.wx
  clear hs7
  go_wp2
  go_ret
  exact ⟨rfl, HX7.out.bel⟩
end Go.Proofs.YthjhpgdobneeiaaDoor.Rel
