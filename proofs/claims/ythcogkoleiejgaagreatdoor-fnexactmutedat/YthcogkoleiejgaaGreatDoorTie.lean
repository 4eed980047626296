/-
  DERIVED. GIVEN WITH THE SEED: THE PROGRAM's TIES (one call each: nine closed facts by the kernel) AND EACH ROW's TIE, after the 31st guide's Derived/Test/Toyas{Tie, Card}.lean. No idea stands in it: it is a product of the set-up. Laid BY PROGRAM, IN A SANDBOX (cutbox-door.mjs). By AI agents, Wed Nov 11 2026. No macro, syntax, notation, axiom, sorry.
-/
import Derived.Test.YthcogkoleiejgaaGreatDoorRows
import Derived.LaidByTextLater
import Derived.SevenTiedAt
import Derived.LaidSub
import Derived.LaidOnce
namespace Go.Proofs.YthcogkoleiejgaaGreatDoor
open Go
set_option maxRecDepth 100000
theorem seatTie1 : Tryz.prog.laidByTextLater [("loop.example/g00039/impl.monthDays", Rows.laid_loop_example_g00039_impl_monthDays), ("loop.example/g00039/impl.rangeLimits", Rows.laid_loop_example_g00039_impl_rangeLimits)] [.data, .data] true :=
  Program.laidByTextLater_by_one 24 8 13 (by kernel_rfl) (by kernel_rfl) (by kernel_rfl) (by kernel_rfl) (by kernel_rfl) (by kernel_rfl) (fun _ _ => by kernel_rfl)
theorem noOwnUnsafe : Tryz.pinned.checked.prog.headLifts.contains "ownunsafe" = false := by kernel_rfl
theorem tie : Tryz.prog.laidByTextLater [("loop.example/g00039/impl.rangeLimits", Rows.laid_loop_example_g00039_impl_rangeLimits)] [.data] true :=
  Program.laidByTextLater.sub seatTie1 ["loop.example/g00039/impl.rangeLimits"] (by kernel_rfl) (by kernel_rfl)
theorem fnExactGoodNotify_row_tie : Rows.fnExactGoodNotifyRow.laidByTextAt .later Tryz.pinned [.data] true :=
  OpenClaim.laidByTextAt_later rfl rfl tie noOwnUnsafe
theorem fnExactGoodMembers_row_tie : Rows.fnExactGoodMembersRow.laidByTextAt .later Tryz.pinned [.data] true :=
  OpenClaim.laidByTextAt_later rfl rfl tie noOwnUnsafe
theorem tie2 : Tryz.prog.laidByTextLater [("loop.example/g00039/impl.monthDays", Rows.laid_loop_example_g00039_impl_monthDays), ("loop.example/g00039/impl.rangeLimits", Rows.laid_loop_example_g00039_impl_rangeLimits)] [.data, .data] true :=
  Program.laidByTextLater.sub seatTie1 ["loop.example/g00039/impl.monthDays", "loop.example/g00039/impl.rangeLimits"] (by kernel_rfl) (by kernel_rfl)
theorem fnExactMutedAt_row_tie : Rows.fnExactMutedAtRow.laidByTextAt .later Tryz.pinned [.data, .data] true :=
  OpenClaim.laidByTextAt_later rfl rfl tie2 noOwnUnsafe
theorem fnExactGoodNotifyUpto_row_tie : Rows.fnExactGoodNotifyUptoRow.laidByTextAt .later Tryz.pinned [.data] true :=
  OpenClaim.laidByTextAt_later rfl rfl tie noOwnUnsafe
theorem fnExactGoodMembersUpto_row_tie : Rows.fnExactGoodMembersUptoRow.laidByTextAt .later Tryz.pinned [.data] true :=
  OpenClaim.laidByTextAt_later rfl rfl tie noOwnUnsafe
theorem fnExactMutedAtUpto_row_tie : Rows.fnExactMutedAtUptoRow.laidByTextAt .later Tryz.pinned [.data, .data] true :=
  OpenClaim.laidByTextAt_later rfl rfl tie2 noOwnUnsafe
end Go.Proofs.YthcogkoleiejgaaGreatDoor
