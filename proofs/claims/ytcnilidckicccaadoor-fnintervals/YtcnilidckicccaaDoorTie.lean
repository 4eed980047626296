/-
  DERIVED. GIVEN WITH THE SEED: THE PROGRAM's TIES (one call each: nine closed facts by the kernel) AND EACH ROW's TIE, after the 31st guide's Derived/Test/Toyas{Tie, Card}.lean. No idea stands in it: it is a product of the set-up. Laid BY PROGRAM, IN A SANDBOX (cutbox-door.mjs). By AI agents, Wed Nov 11 2026. No macro, syntax, notation, axiom, sorry.
-/
import Derived.Test.YtcnilidckicccaaDoorRows
import Derived.LaidByTextLater
import Derived.SevenTiedAt
import Derived.LaidSub
import Derived.LaidOnce
namespace Go.Proofs.YtcnilidckicccaaDoor
open Go
set_option maxRecDepth 100000
theorem seatTie1 : Tryd.prog.laidByTextLater [("loop.example/g00039/impl.monthDays", Rows.laid_loop_example_g00039_impl_monthDays), ("loop.example/g00039/impl.rangeLimits", Rows.laid_loop_example_g00039_impl_rangeLimits)] [.data, .data] true :=
  Program.laidByTextLater_by_one 24 8 13 (by kernel_rfl) (by kernel_rfl) (by kernel_rfl) (by kernel_rfl) (by kernel_rfl) (by kernel_rfl) (fun _ _ => by kernel_rfl)
theorem noOwnUnsafe : Tryd.pinned.checked.prog.headLifts.contains "ownunsafe" = false := by kernel_rfl
theorem tie : Tryd.prog.laidByTextLater [("loop.example/g00039/impl.monthDays", Rows.laid_loop_example_g00039_impl_monthDays), ("loop.example/g00039/impl.rangeLimits", Rows.laid_loop_example_g00039_impl_rangeLimits)] [.data, .data] true :=
  Program.laidByTextLater.sub seatTie1 ["loop.example/g00039/impl.monthDays", "loop.example/g00039/impl.rangeLimits"] (by kernel_rfl) (by kernel_rfl)
theorem fnIntervals_row_tie : Rows.fnIntervalsRow.laidByTextAt .later Tryd.pinned [.data, .data] true :=
  OpenClaim.laidByTextAt_later rfl rfl tie noOwnUnsafe
theorem fnExactInInterval_row_tie : Rows.fnExactInIntervalRow.laidByTextAt .later Tryd.pinned [.data, .data] true :=
  OpenClaim.laidByTextAt_later rfl rfl tie noOwnUnsafe
theorem tie2 : Tryd.prog.laidByTextLater [("loop.example/g00039/impl.rangeLimits", Rows.laid_loop_example_g00039_impl_rangeLimits)] [.data] true :=
  Program.laidByTextLater.sub seatTie1 ["loop.example/g00039/impl.rangeLimits"] (by kernel_rfl) (by kernel_rfl)
theorem fnExactGoodInterval_row_tie : Rows.fnExactGoodIntervalRow.laidByTextAt .later Tryd.pinned [.data] true :=
  OpenClaim.laidByTextAt_later rfl rfl tie2 noOwnUnsafe
theorem fnIntervalsUpto_row_tie : Rows.fnIntervalsUptoRow.laidByTextAt .later Tryd.pinned [.data, .data] true :=
  OpenClaim.laidByTextAt_later rfl rfl tie noOwnUnsafe
theorem fnExactGoodIntervalUpto_row_tie : Rows.fnExactGoodIntervalUptoRow.laidByTextAt .later Tryd.pinned [.data] true :=
  OpenClaim.laidByTextAt_later rfl rfl tie2 noOwnUnsafe
theorem fnExactInIntervalUpto_row_tie : Rows.fnExactInIntervalUptoRow.laidByTextAt .later Tryd.pinned [.data, .data] true :=
  OpenClaim.laidByTextAt_later rfl rfl tie noOwnUnsafe
end Go.Proofs.YtcnilidckicccaaDoor
