/- Templates: the walk of FnExactGoodTemplate. -/
import Derived.Test.YthmoobpboalpdaaGtc
namespace Go.Proofs.Ythmoobpboalpdaa.Tpl
open Go.RowKit Go.Proofs.Ythmoobpboalpdaa.Pat
theorem walkGT (s : ByteArray) (w : World) (hs : s.size ≤ maxLen) : Calls Try.prog 3 #[.string s] w fun e w' => e = .returned (.bool true) ∧ Below w.heap.size w w' := by
  have hs' := hs
  unfold maxLen at hs'
  by_cases hbig : 1048576 < s.size
  · go_enter Try.func3, Try.ntmps3
    go_wp2
    go_ret
    exact ⟨rfl, Below.refl _ _⟩
  go_enter Try.func3, Try.ntmps3
  go_wp2_with (go_at_call 4; refine (f4 s _ hs).mono ?_; rintro e w1 ⟨rfl, hb1⟩)
  go_wp2_with (go_at_call 5; refine (f5 s _ hs).mono ?_; rintro e w2 ⟨rfl, hb2⟩)
  all_goals
    go_ret
    exact ⟨rfl, hb1.trans (hb2.mono hb1.size)⟩
end Go.Proofs.Ythmoobpboalpdaa.Tpl
