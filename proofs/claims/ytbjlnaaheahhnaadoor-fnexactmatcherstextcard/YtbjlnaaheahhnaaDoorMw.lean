/- The text of matchers: what both MatchersText come to; the walk of FnExactMatchersText. -/
import Derived.Test.YtbjlnaaheahhnaaDoorMz
namespace Go.Proofs.YtbjlnaaheahhnaaDoor.Pat
open Go.RowKit

theorem f6 (a : Option Addr) (n c : Nat) (ms : List Mt) (w : World) (hn : ms.length = n) (hmax : n ≤ maxLen) (hr : HasM w a ms) (hf : FitM ms) :
    Calls Tryd.prog 6 #[.slice a n c] w fun e w' => e = .returned (.string (mkS (txtN ms))) ∧ Below w.heap.size w w' := by
  have HN := hid hn
  clear hn
  go_enter Tryd.func6, Tryd.ntmps6
  go_wp2_with fail
  refine (f15 a n c ms _ HN.out hmax hr hf).mono ?_
  rintro e w1 ⟨rfl, hb0⟩
  have HB1 := hid hb0
  have R1 := hid (hr.below hb0)
  clear hb0
  by_cases hg : goodM ms = true
  · have HY := hid (txtN_yes hg)
    have HS := hid (good_smlM hg)
    go_wp2_with fail
    refine (f16 a n c ms _ HN.out R1.out HS.out).mono ?_
    rintro e w2 ⟨rfl, hb2⟩
    have HB2 := hid (HB1.out.trans (hb2.mono HB1.out.size))
    clear hb2
    go_wp2
    go_ret
    exact ⟨by rw [HY.out]; rfl, HB2.out⟩
  · have hg' : goodM ms = false := by simpa using hg
    have HY := hid (txtN_no hg')
    go_wp2
    go_ret
    exact ⟨by rw [HY.out]; rfl, HB1.out⟩
theorem f8 (a : Option Addr) (n c : Nat) (ms : List Mt) (w : World) (hn : ms.length = n) (hmax : n ≤ maxLen) (hr : HasM w a ms) (hf : FitM ms) (hs : Sgn w) :
    Calls Tryd.prog 8 #[.slice a n c] w fun e w' => e = .returned (.string (mkS (txtN ms))) ∧ Below w.heap.size w w' := by
  have HN := hid hn
  have HG := hid hs
  clear hn hs
  go_enter Tryd.func8, Tryd.ntmps8
  go_wp2_with fail
  refine (f18 a n c ms _ HN.out hmax hr hf).mono ?_
  rintro e w1 ⟨rfl, hb0⟩
  have HB1 := hid hb0
  have R1 := hid (hr.below hb0)
  clear hb0
  by_cases hg : goodM ms = true
  · have HY := hid (txtN_yes hg)
    have HS := hid (good_smlM hg)
    go_wp2_with fail
    refine (f19 a n c ms _ HN.out R1.out HS.out (HG.out.below HB1.out)).mono ?_
    rintro e w2 ⟨rfl, hb2⟩
    have HB2 := hid (HB1.out.trans (hb2.mono HB1.out.size))
    clear hb2
    go_wp2
    go_ret
    exact ⟨by rw [HY.out]; rfl, HB2.out⟩
  · have hg' : goodM ms = false := by simpa using hg
    have HY := hid (txtN_no hg')
    go_wp2
    go_ret
    exact ⟨by rw [HY.out]; rfl, HB1.out⟩
theorem str_same (a : ByteArray) : (a.toList != a.toList) = false := by simp
set_option maxHeartbeats 1000000 in
theorem walk3 (a : Option Addr) (n c : Nat) (ms : List Mt) (w : World) (hn : ms.length = n) (hmax : n ≤ maxLen) (hr : HasM w a ms) (hf : FitM ms) (hs : Sgn w) :
    Calls Tryd.prog 3 #[.slice a n c] w fun e w' => e = .returned (.bool true) ∧ Below w.heap.size w w' := by
  have HN := hid hn
  have HG := hid hs
  clear hn hs
  go_enter Tryd.func3, Tryd.ntmps3
  go_wp2_with fail
  refine (f5 a n c ms _ HN.out hr hf hmax).mono ?_
  rintro e w1 ⟨y, rfl, hy, y0, y1, hb1⟩
  have HB1 := hid hb1
  by_cases h0 : y < 0
  · go_wp2
    go_ret
    exact ⟨rfl, HB1.out⟩
  have hbig := hy (by omega)
  have R1 := hid (hr.below hb1)
  clear hy hb1
  go_wp2_with fail
  refine (f7 a n c ms _ HN.out hbig R1.out).mono ?_
  rintro e w2 ⟨rfl, ho2, hb2⟩
  have HB2 := hid (HB1.out.trans (hb2.mono HB1.out.size))
  have R2 := hid (R1.out.below hb2)
  have X2 := hid (HasM.own ho2)
  clear hb2 ho2
  go_wp2_with fail
  refine (f6 _ n n ms _ HN.out hmax X2.out hf).mono ?_
  rintro e w3 ⟨rfl, hb3⟩
  have HB3 := hid (HB2.out.trans (hb3.mono HB2.out.size))
  have R3 := hid (R2.out.below hb3)
  clear hb3 X2
  go_wp2_with fail
  refine (f7 a n c ms _ HN.out hbig R3.out).mono ?_
  rintro e w4 ⟨rfl, ho4, hb4⟩
  have HB4 := hid (HB3.out.trans (hb4.mono HB3.out.size))
  have R4 := hid (R3.out.below hb4)
  have X4 := hid (HasM.own ho4)
  clear hb4 ho4
  go_wp2_with fail
  refine (f8 _ n n ms _ HN.out hmax X4.out hf (HG.out.below HB4.out)).mono ?_
  rintro e w5 ⟨rfl, hb5⟩
  have HB5 := hid (HB4.out.trans (hb5.mono HB4.out.size))
  have R5 := hid (R4.out.below hb5)
  have X5 := hid (X4.out.below hb5)
  clear hb5 X4
  have hq := str_same (mkS (txtN ms))
  generalize mkS (txtN ms) = v at *
  go_wp2_with fail
  refine (f7 a n c ms _ HN.out hbig R5.out).mono ?_
  rintro e w6 ⟨rfl, ho6, hb6⟩
  have HB6 := hid (HB5.out.trans (hb6.mono HB5.out.size))
  have X6 := hid (X5.out.below hb6)
  have Y6 := hid (HasM.own ho6)
  clear hb6 ho6
  go_wp2_with fail
  refine (f9 _ _ n n n ms _ HN.out hbig X6.out Y6.out).mono ?_
  rintro e w7 ⟨rfl, hb7⟩
  have HB7 := hid (HB6.out.trans (hb7.mono HB6.out.size))
  clear hb7
  go_wp2
  go_ret
  exact ⟨rfl, HB7.out⟩
end Go.Proofs.YtbjlnaaheahhnaaDoor.Pat
