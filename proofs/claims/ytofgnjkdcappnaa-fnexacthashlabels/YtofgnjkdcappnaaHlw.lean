/- The walk of FnExactHashLabels. -/
import Derived.Test.YtofgnjkdcappnaaHl
namespace Go.Proofs.Ytofgnjkdcappnaa.Lab
open Go.RowKit Go.Proofs.Ytofgnjkdcappnaa.Str

set_option maxHeartbeats 1000000 in
theorem walk7 (a : Option Addr) (n c : Nat) (ls : List Lb) (w : World) (hn : ls.length = n) (hmax : n ≤ maxLen) (hr : HasL w a ls) (hf : Fit ls) :
    Calls Try.prog 7 #[.slice a n c] w fun e w' => e = .returned (.bool true) ∧ Below w.heap.size w w' := by
  have HN := hid hn
  clear hn
  go_enter Try.func7, Try.ntmps7
  go_wp2_with fail
  refine (f12 a n c ls _ HN.out hr hf hmax).mono ?_
  rintro e w1 ⟨y, rfl, hy, y0, y1, hb1⟩
  have HB1 := hid hb1
  by_cases h0 : y < 0
  · go_wp2
    go_ret
    exact ⟨rfl, HB1.out⟩
  · have hbig := hy (by omega)
    have hr1 := hr.below hb1
    clear hy hb1
    go_wp2_with fail
    refine (f14 a n c ls _ HN.out hbig hr1).mono ?_
    rintro e w2 ⟨rfl, ho2, hb2⟩
    have HB2 := hid (HB1.out.trans (hb2.mono HB1.out.size))
    have hr2 := hr1.below hb2
    clear hb2
    go_wp2_with fail
    refine (f25 _ n n ls _ HN.out hbig (HasL.own ho2) hf).mono ?_
    rintro e w3 ⟨rfl, hb3⟩
    have HB3 := hid (HB2.out.trans (hb3.mono HB2.out.size))
    have hr3 := hr2.below hb3
    clear hb3 ho2
    go_wp2_with fail
    refine (f14 a n c ls _ HN.out hbig hr3).mono ?_
    rintro e w4 ⟨rfl, ho4, hb4⟩
    have HB4 := hid (HB3.out.trans (hb4.mono HB3.out.size))
    have hr4 := hr3.below hb4
    clear hb4
    go_wp2_with fail
    refine (f26 _ n n ls _ HN.out hbig (HasL.own ho4) hf).mono ?_
    rintro e w5 ⟨rfl, hb5⟩
    have HB5 := hid (HB4.out.trans (hb5.mono HB4.out.size))
    have hr5 := hr4.below hb5
    have hx5 := (HasL.own ho4).below hb5
    clear hb5 ho4
    go_wp2_with fail
    refine (f14 a n c ls _ HN.out hbig hr5).mono ?_
    rintro e w6 ⟨rfl, ho6, hb6⟩
    have HB6 := hid (HB5.out.trans (hb6.mono HB5.out.size))
    have hx6 := hx5.below hb6
    clear hb6
    go_wp2_with fail
    refine (f16 _ _ n n n ls _ HN.out hbig hx6 (HasL.own ho6)).mono ?_
    rintro e w7 ⟨rfl, hb7⟩
    have HB7 := hid (HB6.out.trans (hb7.mono HB6.out.size))
    clear hb7 ho6
    go_wp2
    go_ret
    exact ⟨rfl, HB7.out⟩
end Go.Proofs.Ytofgnjkdcappnaa.Lab
