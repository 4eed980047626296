/- The walk of FnExactWidthOf. -/
import Derived.Test.YtkamglkagfcfpaaWo
namespace Go.Proofs.Ytkamglkagfcfpaa.Shf
open Go.RowKit
set_option maxHeartbeats 1000000 in
theorem walkWidth (b l : Int) (w : World) (hb0 : -9223372036854775808 ≤ b) (hb1 : b ≤ 9223372036854775807) (hl0 : -9223372036854775808 ≤ l) (hl1 : l ≤ 9223372036854775807) :
    Calls Try.prog 3 #[.int .i64 b, .int .i64 l] w fun e w' => e = .returned (.bool true) ∧ Below w.heap.size w w' := by
  have HC1 := fun x => hid (f4 b l x hb0 hb1 hl0 hl1)
  have HC2 := fun x => hid (f5 b l x hb0 hb1 hl0 hl1)
  generalize wid b l = W at *
  go_enter Try.func3, Try.ntmps3
  go_wp2_with fail
  refine (HC1 _).out.mono ?_
  rintro e w1 ⟨rfl, hb⟩
  have HB := hid hb
  clear hb
  go_wp2_with fail
  refine (HC2 _).out.mono ?_
  rintro e w2 ⟨rfl, hb⟩
  have HB2 := hid (HB.out.trans (hb.mono HB.out.size))
  clear hb
  have g : (W != W) = false := by simp
  go_wp2
  go_ret
  exact ⟨rfl, HB2.out⟩
end Go.Proofs.Ytkamglkagfcfpaa.Shf
