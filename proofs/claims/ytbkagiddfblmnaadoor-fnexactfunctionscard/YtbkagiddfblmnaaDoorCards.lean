/-
  DERIVED. GIVEN WITH THE SEED: THE CARDS: each row of YtbkagiddfblmnaaDoorRows.lean that lists a variable, with what it lists TIED to the program's text (the seventh form; the later family's looks); each row that meets fmt, with fmt's text TOLD by the authors' own Lean function (tested against real Go, not proved from fmt's source: count such statements apart). THE CARD IS WHAT COUNTS. Prove the row's statement (the work); the ties are given (YtbkagiddfblmnaaDoorTie.lean); close each card by the builder's one call (the guide's Derived/Test/ToyasCard.lean, 'card_holds'). Laid BY PROGRAM, IN A SANDBOX (cutbox-door.mjs). By AI agents, Wed Nov 11 2026. No macro, syntax, notation, axiom, sorry.
-/
import Derived.Test.YtbkagiddfblmnaaDoorRows
import GoSem.ClaimSeven
namespace Go.Proofs.YtbkagiddfblmnaaDoor
namespace Rows

/-- THE TIED CARD OF 'laws.FnExactFunctions'. -/
def fnExactFunctionsCard : Claim7 := { stood := { row := fnExactFunctionsRow, standIns := [], harness := (true, "f0130e4224f976f3d1f587b80a5871267c8460828fe6238f1939350758456f18"), looks := false }, kinds := [], alts := [], laidByText := true, laidKinds := [.data], laidTests := true, laidLooks := .later }
def FnExactFunctionsCardSaid : Prop := Claim7.holds Tryd.pinned (.plain (OpenSpec.ofChange fnExactFunctionsSpec)) fnExactFunctionsCard

/-- THE SECOND FORM's CARD OF 'laws.FnExactFunctions'. -/
def fnExactFunctionsUptoCard : Claim7 := { stood := { row := fnExactFunctionsUptoRow, standIns := [], harness := (true, "f0130e4224f976f3d1f587b80a5871267c8460828fe6238f1939350758456f18"), looks := false }, kinds := [], alts := [], laidByText := true, laidKinds := [.data], laidTests := true, laidLooks := .later }
def FnExactFunctionsUptoCardSaid : Prop := Claim7.holds Tryd.pinned (.plain (OpenSpec.upto fnExactFunctionsSpec)) fnExactFunctionsUptoCard
end Rows
end Go.Proofs.YtbkagiddfblmnaaDoor
