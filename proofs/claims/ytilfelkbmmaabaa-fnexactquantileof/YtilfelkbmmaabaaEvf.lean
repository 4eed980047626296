/- The walk of FnExactQuantileOf. -/
import Derived.Test.YtilfelkbmmaabaaEve
namespace Go.Proofs.Ytilfelkbmmaabaa.Quo
open Go.RowKit
open Go.Proofs.Ytilfelkbmmaabaa.Ino (Has)
set_option maxHeartbeats 2000000 in
theorem walkQuantile (a : Option Addr) (n c : Nat) (zs : List Int) (q : Int) (w : World) (hn : zs.length = n) (_hm : n ≤ maxLen) (hr : Has w a zs) :
    Calls Try.prog 5 #[.slice a n c, .int .i64 q] w fun e w' => e = .returned (.bool true) ∧ Below w.heap.size w w' := by
  by_cases hb : n > 1048576
  · go_enter Try.func5, Try.ntmps5
    go_wp2
    go_ret
    exact ⟨rfl, Below.refl _ _⟩
  have hb' : n ≤ 1048576 := by omega
  have HR := hid hr
  have HN := hid hn
  clear hr hn
  have HC1 := fun x h => hid (Ino.f12 a n c zs x HN.out hb' h)
  have HC2 := fun g x h => hid (f11 g n n zs q x HN.out hb' h)
  have HC3 := fun g x h => hid (f7 g n n zs q x HN.out hb' h)
  have HC4 := fun g g' x h h' => hid (Ino.f13 g g' n n n n zs x HN.out rfl hb' h h')
  generalize qv zs q = V at *
  generalize qb zs = B at *
  go_enter Try.func5, Try.ntmps5
  go_wp2_with fail
  refine (HC1 _ HR.out).out.mono ?_
  rintro e w1 ⟨rfl, ho, hb1⟩
  have HO1 := hid (Has.own ho)
  have HB1 := hid hb1
  clear ho hb1
  go_wp2_with fail
  refine (HC2 _ _ HO1.out).out.mono ?_
  rintro e w2 ⟨rfl, hb2⟩
  have HB2 := hid (HB1.out.trans (hb2.mono HB1.out.size))
  clear hb2
  go_wp2_with fail
  refine (HC1 _ (HR.out.below HB2.out)).out.mono ?_
  rintro e w3 ⟨rfl, ho, hb3⟩
  have HO3 := hid (Has.own ho)
  have HB3 := hid (HB2.out.trans (hb3.mono HB2.out.size))
  clear ho hb3
  go_wp2_with fail
  refine (HC3 _ _ HO3.out).out.mono ?_
  rintro e w4 ⟨rfl, hb4⟩
  have HB4 := hid (HB3.out.trans (hb4.mono HB3.out.size))
  have HO4 := hid (HO3.out.below hb4)
  clear hb4
  have g1 : (V != V) = false := by simp
  have g2 : (B != B) = false := by simp
  go_wp2_with fail
  refine (HC1 _ (HR.out.below HB4.out)).out.mono ?_
  rintro e w5 ⟨rfl, ho, hb5⟩
  have HO5 := hid (Has.own ho)
  have HB5 := hid (HB4.out.trans (hb5.mono HB4.out.size))
  have HO6 := hid (HO4.out.below hb5)
  clear ho hb5
  go_wp2_with fail
  refine (HC4 _ _ _ HO6.out HO5.out).out.mono ?_
  rintro e w6 ⟨rfl, q6, hw6⟩
  have HB6 : Hid (Below w.heap.size w w6) := by
    unfold Hid; rw [hw6]
    exact Ino.below_drewN HB5.out q6
  clear hw6
  go_wp2
  go_ret
  exact ⟨rfl, HB6.out⟩
end Go.Proofs.Ytilfelkbmmaabaa.Quo
