/- The walk of FnExactGoodAggs. -/
import Derived.Test.YtcbcecogoemgeaaAe
import Derived.Test.YtcbcecogoemgeaaAd
namespace Go.Proofs.Ytcbcecogoemgeaa.Agl
open Go.RowKit

set_option maxHeartbeats 1000000 in
theorem walkGood (a : Option Addr) (c : Nat) (res : Int) (ls : List Ag) (w : World) (hmax : ls.length ≤ maxLen) (hr : HasA w a ls) :
    Calls Try.prog 3 #[.slice a ls.length c, .int .i64 res] w fun e w' => e = .returned (.bool true) ∧ Below w.heap.size w w' := by
  have HM := hid hmax
  by_cases hbig : ls.length ≤ 1048576
  · have hif : (if (1048576 : Int) < (ls.length : Int) then (-1 : Int) else 1048576 - (ls.length : Int)) = 1048576 - (ls.length : Int) := if_neg (by omega)
    go_enter Try.func3, Try.ntmps3
    go_wp2_with fail
    refine (f5 a ls.length c 1048576 _ HM.out (by omega) (by omega)).mono ?_
    rw [hif]
    rintro e w1 ⟨rfl, rfl⟩
    go_wp2_with fail
    refine (f7 a c ls _ hbig hr).mono ?_
    rintro e w2 ⟨rfl, ho2, hb2⟩
    have HB2 := hid hb2
    have hr2 := hr.below hb2
    clear hb2
    go_wp2_with fail
    refine (f6 _ _ res ls _ hbig (HasA.own ho2)).mono ?_
    rintro e w3 ⟨rfl, hb3⟩
    have HB3 := hid (HB2.out.trans (hb3.mono HB2.out.size))
    have hr3 := hr2.below hb3
    clear hb3 ho2
    go_wp2_with fail
    refine (f7 a c ls _ hbig hr3).mono ?_
    rintro e w4 ⟨rfl, ho4, hb4⟩
    have HB4 := hid (HB3.out.trans (hb4.mono HB3.out.size))
    have hr4 := hr3.below hb4
    clear hb4
    go_wp2_with fail
    refine (f8 _ _ res ls _ hbig (HasA.own ho4)).mono ?_
    rintro e w5 ⟨rfl, hb5⟩
    have HB5 := hid (HB4.out.trans (hb5.mono HB4.out.size))
    have hr5 := hr4.below hb5
    have hx5 := (HasA.own ho4).below hb5
    clear hb5 ho4
    generalize goodA res ls = g
    go_wp2_with fail
    refine (f7 a c ls _ hbig hr5).mono ?_
    rintro e w6 ⟨rfl, ho6, hb6⟩
    have HB6 := hid (HB5.out.trans (hb6.mono HB5.out.size))
    have hx6 := hx5.below hb6
    clear hb6
    go_wp2_with fail
    refine (f9 _ _ _ _ ls _ hbig hx6 (HasA.own ho6)).mono ?_
    rintro e w7 ⟨rfl, hb7⟩
    have HB7 := hid (HB6.out.trans (hb7.mono HB6.out.size))
    clear hb7 ho6
    go_wp2
    go_ret
    exact ⟨rfl, HB7.out⟩
  · have hif : (if (1048576 : Int) < (ls.length : Int) then (-1 : Int) else 1048576 - (ls.length : Int)) = -1 := if_pos (by omega)
    go_enter Try.func3, Try.ntmps3
    go_wp2_with fail
    refine (f5 a ls.length c 1048576 _ HM.out (by omega) (by omega)).mono ?_
    rw [hif]
    rintro e w1 ⟨rfl, rfl⟩
    go_wp2
    go_ret
    exact ⟨rfl, Below.refl _ _⟩
end Go.Proofs.Ytcbcecogoemgeaa.Agl
