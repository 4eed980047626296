/-
  DERIVED. GIVEN WITH THE SEED: THE CARDS: each row of YtbijhkbmgljjiaaGreatDoorRows.lean that lists a variable, with what it lists TIED to the program's text (the seventh form; the later family's looks); each row that meets fmt, with fmt's text TOLD by the authors' own Lean function (tested against real Go, not proved from fmt's source: count such statements apart). THE CARD IS WHAT COUNTS. Prove the row's statement (the work); the ties are given (YtbijhkbmgljjiaaGreatDoorTie.lean); close each card by the builder's one call (the guide's Derived/Test/ToyasCard.lean, 'card_holds'). Laid BY PROGRAM, IN A SANDBOX (cutbox-door.mjs). By AI agents, Wed Nov 11 2026. No macro, syntax, notation, axiom, sorry.
-/
import Derived.Test.YtbijhkbmgljjiaaGreatDoorRows
import GoSem.ClaimSeven
namespace Go.Proofs.YtbijhkbmgljjiaaGreatDoor
namespace Rows

/-- THE TIED CARD OF 'laws.FnExactReadRelabel'. -/
def fnExactReadRelabelCard : Claim7 := { stood := { row := fnExactReadRelabelRow, standIns := [], harness := (true, "2a1441c316800887beb728b7d8142b9b0847ab3f3f2661bd80c29834a5dcb312"), looks := true }, kinds := [], alts := [], laidByText := true, laidKinds := [.data, .data, .data, .sentinel, .sentinel, .data], laidTests := true, laidLooks := .later }
def FnExactReadRelabelCardSaid : Prop := Claim7.holds Tryz.pinned (.plain (OpenSpec.ofChange fnExactReadRelabelSpec)) fnExactReadRelabelCard

/-- THE SECOND FORM's CARD OF 'laws.FnExactReadRelabel'. -/
def fnExactReadRelabelUptoCard : Claim7 := { stood := { row := fnExactReadRelabelUptoRow, standIns := [], harness := (true, "2a1441c316800887beb728b7d8142b9b0847ab3f3f2661bd80c29834a5dcb312"), looks := true }, kinds := [], alts := [], laidByText := true, laidKinds := [.data, .data, .data, .sentinel, .sentinel, .data], laidTests := true, laidLooks := .later }
def FnExactReadRelabelUptoCardSaid : Prop := Claim7.holds Tryz.pinned (.plain (OpenSpec.upto fnExactReadRelabelSpec)) fnExactReadRelabelUptoCard
end Rows
end Go.Proofs.YtbijhkbmgljjiaaGreatDoor
