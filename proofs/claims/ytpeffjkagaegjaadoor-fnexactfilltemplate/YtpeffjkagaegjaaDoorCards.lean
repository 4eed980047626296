/-
  DERIVED. GIVEN WITH THE SEED: THE CARDS: each row of YtpeffjkagaegjaaDoorRows.lean that lists a variable, with what it lists TIED to the program's text (the seventh form; the later family's looks); each row that meets fmt, with fmt's text TOLD by the authors' own Lean function (tested against real Go, not proved from fmt's source: count such statements apart). THE CARD IS WHAT COUNTS. Prove the row's statement (the work); the ties are given (YtpeffjkagaegjaaDoorTie.lean); close each card by the builder's one call (the guide's Derived/Test/ToyasCard.lean, 'card_holds'). Laid BY PROGRAM, IN A SANDBOX (cutbox-door.mjs). By AI agents, Wed Nov 11 2026. No macro, syntax, notation, axiom, sorry.
-/
import Derived.Test.YtpeffjkagaegjaaDoorRows
import GoSem.ClaimSeven
namespace Go.Proofs.YtpeffjkagaegjaaDoor
namespace Rows

/-- THE TIED CARD OF 'laws.FnExactFillTemplate'. -/
def fnExactFillTemplateCard : Claim7 := { stood := { row := fnExactFillTemplateRow, standIns := [], harness := (true, "f916a4889dadd03b8973339ee4775048cdbb73d2be3d345f33f105e6cbcf6796"), looks := false }, kinds := [], alts := [], laidByText := true, laidKinds := [.data, .data, .data], laidTests := true, laidLooks := .later }
def FnExactFillTemplateCardSaid : Prop := Claim7.holds Tryd.pinned (.plain (OpenSpec.ofChange fnExactFillTemplateSpec)) fnExactFillTemplateCard

/-- THE SECOND FORM's CARD OF 'laws.FnExactFillTemplate'. -/
def fnExactFillTemplateUptoCard : Claim7 := { stood := { row := fnExactFillTemplateUptoRow, standIns := [], harness := (true, "f916a4889dadd03b8973339ee4775048cdbb73d2be3d345f33f105e6cbcf6796"), looks := false }, kinds := [], alts := [], laidByText := true, laidKinds := [.data, .data, .data], laidTests := true, laidLooks := .later }
def FnExactFillTemplateUptoCardSaid : Prop := Claim7.holds Tryd.pinned (.plain (OpenSpec.upto fnExactFillTemplateSpec)) fnExactFillTemplateUptoCard
end Rows
end Go.Proofs.YtpeffjkagaegjaaDoor
