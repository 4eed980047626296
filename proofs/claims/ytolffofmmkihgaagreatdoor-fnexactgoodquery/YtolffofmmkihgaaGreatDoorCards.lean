/-
  DERIVED. GIVEN WITH THE SEED: THE CARDS: each row of YtolffofmmkihgaaGreatDoorRows.lean that lists a variable, with what it lists TIED to the program's text (the seventh form; the later family's looks); each row that meets fmt, with fmt's text TOLD by the authors' own Lean function (tested against real Go, not proved from fmt's source: count such statements apart). THE CARD IS WHAT COUNTS. Prove the row's statement (the work); the ties are given (YtolffofmmkihgaaGreatDoorTie.lean); close each card by the builder's one call (the guide's Derived/Test/ToyasCard.lean, 'card_holds'). Laid BY PROGRAM, IN A SANDBOX (cutbox-door.mjs). By AI agents, Wed Nov 11 2026. No macro, syntax, notation, axiom, sorry.
-/
import Derived.Test.YtolffofmmkihgaaGreatDoorRows
import GoSem.ClaimSeven
namespace Go.Proofs.YtolffofmmkihgaaGreatDoor
namespace Rows

/-- THE TIED CARD OF 'laws.FnExactGoodQuery'. -/
def fnExactGoodQueryCard : Claim7 := { stood := { row := fnExactGoodQueryRow, standIns := [], harness := (true, "f07c348343df766caee25d637cc6951577a250ad73b425daf05a11c6c2faf419"), looks := true }, kinds := [], alts := [], laidByText := true, laidKinds := [.listed, .data, .data, .wider, .data], laidTests := true, laidLooks := .later }
def FnExactGoodQueryCardSaid : Prop := Claim7.holds Tryz.pinned (.plain (OpenSpec.ofChange fnExactGoodQuerySpec)) fnExactGoodQueryCard

/-- THE TIED CARD OF 'laws.FnExactKindOfQuery'. -/
def fnExactKindOfQueryCard : Claim7 := { stood := { row := fnExactKindOfQueryRow, standIns := [], harness := (true, "f07c348343df766caee25d637cc6951577a250ad73b425daf05a11c6c2faf419"), looks := true }, kinds := [], alts := [], laidByText := true, laidKinds := [.listed, .data, .data, .wider, .data], laidTests := true, laidLooks := .later }
def FnExactKindOfQueryCardSaid : Prop := Claim7.holds Tryz.pinned (.plain (OpenSpec.ofChange fnExactKindOfQuerySpec)) fnExactKindOfQueryCard

/-- THE TIED CARD OF 'laws.FnExactGoodGroup'. -/
def fnExactGoodGroupCard : Claim7 := { stood := { row := fnExactGoodGroupRow, standIns := [], harness := (true, "f07c348343df766caee25d637cc6951577a250ad73b425daf05a11c6c2faf419"), looks := true }, kinds := [], alts := [], laidByText := true, laidKinds := [.listed, .data, .data, .wider, .data], laidTests := true, laidLooks := .later }
def FnExactGoodGroupCardSaid : Prop := Claim7.holds Tryz.pinned (.plain (OpenSpec.ofChange fnExactGoodGroupSpec)) fnExactGoodGroupCard

/-- THE SECOND FORM's CARD OF 'laws.FnExactGoodQuery'. -/
def fnExactGoodQueryUptoCard : Claim7 := { stood := { row := fnExactGoodQueryUptoRow, standIns := [], harness := (true, "f07c348343df766caee25d637cc6951577a250ad73b425daf05a11c6c2faf419"), looks := true }, kinds := [], alts := [], laidByText := true, laidKinds := [.listed, .data, .data, .wider, .data], laidTests := true, laidLooks := .later }
def FnExactGoodQueryUptoCardSaid : Prop := Claim7.holds Tryz.pinned (.plain (OpenSpec.upto fnExactGoodQuerySpec)) fnExactGoodQueryUptoCard

/-- THE SECOND FORM's CARD OF 'laws.FnExactKindOfQuery'. -/
def fnExactKindOfQueryUptoCard : Claim7 := { stood := { row := fnExactKindOfQueryUptoRow, standIns := [], harness := (true, "f07c348343df766caee25d637cc6951577a250ad73b425daf05a11c6c2faf419"), looks := true }, kinds := [], alts := [], laidByText := true, laidKinds := [.listed, .data, .data, .wider, .data], laidTests := true, laidLooks := .later }
def FnExactKindOfQueryUptoCardSaid : Prop := Claim7.holds Tryz.pinned (.plain (OpenSpec.upto fnExactKindOfQuerySpec)) fnExactKindOfQueryUptoCard

/-- THE SECOND FORM's CARD OF 'laws.FnExactGoodGroup'. -/
def fnExactGoodGroupUptoCard : Claim7 := { stood := { row := fnExactGoodGroupUptoRow, standIns := [], harness := (true, "f07c348343df766caee25d637cc6951577a250ad73b425daf05a11c6c2faf419"), looks := true }, kinds := [], alts := [], laidByText := true, laidKinds := [.listed, .data, .data, .wider, .data], laidTests := true, laidLooks := .later }
def FnExactGoodGroupUptoCardSaid : Prop := Claim7.holds Tryz.pinned (.plain (OpenSpec.upto fnExactGoodGroupSpec)) fnExactGoodGroupUptoCard
end Rows
end Go.Proofs.YtolffofmmkihgaaGreatDoor
