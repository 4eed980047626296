/-
  DERIVED. GIVEN WITH THE SEED: THE PROGRAM's TIES (one call each: nine closed facts by the kernel) AND EACH ROW's TIE, after the 31st guide's Derived/Test/Toyas{Tie, Card}.lean. No idea stands in it: it is a product of the set-up. Laid BY PROGRAM, IN A SANDBOX (cutbox-door.mjs). By AI agents, Wed Nov 11 2026. No macro, syntax, notation, axiom, sorry.
-/
import Derived.Test.YtbdlahhejfamhaaGreatDoorRows
import Derived.LaidByTextLater
import Derived.SevenTiedAt
import Derived.LaidSub
import Derived.LaidOnce
namespace Go.Proofs.YtbdlahhejfamhaaGreatDoor
open Go
set_option maxRecDepth 100000
theorem seatTie1 : Tryz.prog.laidByTextLater [("unicode.White_Space", Rows.laid_unicode_White_Space), ("strings.asciiSpace", Rows.laid_strings_asciiSpace), ("loop.example/g00039/impl.opShapes", Rows.laid_loop_example_g00039_impl_opShapes), ("loop.example/g00039/impl.aggShapes", Rows.laid_loop_example_g00039_impl_aggShapes), ("loop.example/g00039/impl.functionShapes", Rows.laid_loop_example_g00039_impl_functionShapes)] [.listed, .data, .data, .wider, .data] true :=
  Program.laidByTextLater_by_one 93 8 257 (by kernel_rfl) (by kernel_rfl) (by kernel_rfl) (by kernel_rfl) (by kernel_rfl) (by kernel_rfl) (fun _ _ => by kernel_rfl)
theorem noOwnUnsafe : Tryz.pinned.checked.prog.headLifts.contains "ownunsafe" = false := by kernel_rfl
theorem tie : Tryz.prog.laidByTextLater [("unicode.White_Space", Rows.laid_unicode_White_Space), ("strings.asciiSpace", Rows.laid_strings_asciiSpace), ("loop.example/g00039/impl.opShapes", Rows.laid_loop_example_g00039_impl_opShapes), ("loop.example/g00039/impl.aggShapes", Rows.laid_loop_example_g00039_impl_aggShapes), ("loop.example/g00039/impl.functionShapes", Rows.laid_loop_example_g00039_impl_functionShapes)] [.listed, .data, .data, .wider, .data] true :=
  Program.laidByTextLater.sub seatTie1 ["unicode.White_Space", "strings.asciiSpace", "loop.example/g00039/impl.opShapes", "loop.example/g00039/impl.aggShapes", "loop.example/g00039/impl.functionShapes"] (by kernel_rfl) (by kernel_rfl)
theorem fnExactKindOfQuery_row_tie : Rows.fnExactKindOfQueryRow.laidByTextAt .later Tryz.pinned [.listed, .data, .data, .wider, .data] true :=
  OpenClaim.laidByTextAt_later rfl rfl tie noOwnUnsafe
theorem fnExactFoldQuery_row_tie : Rows.fnExactFoldQueryRow.laidByTextAt .later Tryz.pinned [.listed, .data, .data, .wider, .data] true :=
  OpenClaim.laidByTextAt_later rfl rfl tie noOwnUnsafe
theorem fnExactNeedsOf_row_tie : Rows.fnExactNeedsOfRow.laidByTextAt .later Tryz.pinned [.listed, .data, .data, .wider, .data] true :=
  OpenClaim.laidByTextAt_later rfl rfl tie noOwnUnsafe
theorem fnExactShardable_row_tie : Rows.fnExactShardableRow.laidByTextAt .later Tryz.pinned [.listed, .data, .data, .wider, .data] true :=
  OpenClaim.laidByTextAt_later rfl rfl tie noOwnUnsafe
theorem fnExactGoodGroup_row_tie : Rows.fnExactGoodGroupRow.laidByTextAt .later Tryz.pinned [.listed, .data, .data, .wider, .data] true :=
  OpenClaim.laidByTextAt_later rfl rfl tie noOwnUnsafe
theorem fnExactKindOfQueryUpto_row_tie : Rows.fnExactKindOfQueryUptoRow.laidByTextAt .later Tryz.pinned [.listed, .data, .data, .wider, .data] true :=
  OpenClaim.laidByTextAt_later rfl rfl tie noOwnUnsafe
theorem fnExactFoldQueryUpto_row_tie : Rows.fnExactFoldQueryUptoRow.laidByTextAt .later Tryz.pinned [.listed, .data, .data, .wider, .data] true :=
  OpenClaim.laidByTextAt_later rfl rfl tie noOwnUnsafe
theorem fnExactNeedsOfUpto_row_tie : Rows.fnExactNeedsOfUptoRow.laidByTextAt .later Tryz.pinned [.listed, .data, .data, .wider, .data] true :=
  OpenClaim.laidByTextAt_later rfl rfl tie noOwnUnsafe
theorem fnExactShardableUpto_row_tie : Rows.fnExactShardableUptoRow.laidByTextAt .later Tryz.pinned [.listed, .data, .data, .wider, .data] true :=
  OpenClaim.laidByTextAt_later rfl rfl tie noOwnUnsafe
theorem fnExactGoodGroupUpto_row_tie : Rows.fnExactGoodGroupUptoRow.laidByTextAt .later Tryz.pinned [.listed, .data, .data, .wider, .data] true :=
  OpenClaim.laidByTextAt_later rfl rfl tie noOwnUnsafe
end Go.Proofs.YtbdlahhejfamhaaGreatDoor
