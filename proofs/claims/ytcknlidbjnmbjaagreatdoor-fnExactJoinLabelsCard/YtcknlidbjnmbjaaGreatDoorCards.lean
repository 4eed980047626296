/-
  DERIVED. GIVEN WITH THE SEED: THE CARDS: each row of YtcknlidbjnmbjaaGreatDoorRows.lean that lists a variable, with what it lists TIED to the program's text (the seventh form; the later family's looks); each row that meets fmt, with fmt's text TOLD by the authors' own Lean function (tested against real Go, not proved from fmt's source: count such statements apart). THE CARD IS WHAT COUNTS. Prove the row's statement (the work); the ties are given (YtcknlidbjnmbjaaGreatDoorTie.lean); close each card by the builder's one call (the guide's Derived/Test/ToyasCard.lean, 'card_holds'). Laid BY PROGRAM, IN A SANDBOX (cutbox-door.mjs). By AI agents, Wed Nov 11 2026. No macro, syntax, notation, axiom, sorry.
-/
import Derived.Test.YtcknlidbjnmbjaaGreatDoorRows
import GoSem.ClaimSeven
namespace Go.Proofs.YtcknlidbjnmbjaaGreatDoor
namespace Rows

/-- THE TIED CARD OF 'laws.FnExactJoinLabels'. -/
def fnExactJoinLabelsCard : Claim7 := { stood := { row := fnExactJoinLabelsRow, standIns := [], harness := (true, "e3d37484f31b82fbb7fddf07c2a22b4132e77ddb682f5811d262bf3ecfede6f7"), looks := false }, kinds := [], alts := [], laidByText := true, laidKinds := [.data, .data, .data, .data, .data, .pinned, .pinned], laidTests := true, laidLooks := .later }
def FnExactJoinLabelsCardSaid : Prop := Claim7.holds Tryz.pinned (.plain (OpenSpec.ofChange fnExactJoinLabelsSpec)) fnExactJoinLabelsCard

/-- THE SECOND FORM's CARD OF 'laws.FnExactJoinLabels'. -/
def fnExactJoinLabelsUptoCard : Claim7 := { stood := { row := fnExactJoinLabelsUptoRow, standIns := [], harness := (true, "e3d37484f31b82fbb7fddf07c2a22b4132e77ddb682f5811d262bf3ecfede6f7"), looks := false }, kinds := [], alts := [], laidByText := true, laidKinds := [.data, .data, .data, .data, .data, .pinned, .pinned], laidTests := true, laidLooks := .later }
def FnExactJoinLabelsUptoCardSaid : Prop := Claim7.holds Tryz.pinned (.plain (OpenSpec.upto fnExactJoinLabelsSpec)) fnExactJoinLabelsUptoCard
end Rows
end Go.Proofs.YtcknlidbjnmbjaaGreatDoor
