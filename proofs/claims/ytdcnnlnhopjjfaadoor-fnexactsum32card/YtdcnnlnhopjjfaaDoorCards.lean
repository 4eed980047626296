/-
  DERIVED. GIVEN WITH THE SEED: THE CARDS: each row of YtdcnnlnhopjjfaaDoorRows.lean that lists a variable, with what it lists TIED to the program's text (the seventh form; the later family's looks); each row that meets fmt, with fmt's text TOLD by the authors' own Lean function (tested against real Go, not proved from fmt's source: count such statements apart). THE CARD IS WHAT COUNTS. Prove the row's statement (the work); the ties are given (YtdcnnlnhopjjfaaDoorTie.lean); close each card by the builder's one call (the guide's Derived/Test/ToyasCard.lean, 'card_holds'). Laid BY PROGRAM, IN A SANDBOX (cutbox-door.mjs). By AI agents, Wed Nov 11 2026. No macro, syntax, notation, axiom, sorry.
-/
import Derived.Test.YtdcnnlnhopjjfaaDoorRows
import GoSem.ClaimSeven
namespace Go.Proofs.YtdcnnlnhopjjfaaDoor
namespace Rows

/-- THE TIED CARD OF 'laws.FnExactSum32'. -/
def fnExactSum32Card : Claim7 := { stood := { row := fnExactSum32Row, standIns := [], harness := (true, "1b25ef932c7b64abda0f573d0877b91c2fd59dd048ef77de49bdadd3886d5ecc"), looks := false }, kinds := [], alts := [], laidByText := true, laidKinds := [.data], laidTests := true, laidLooks := .later }
def FnExactSum32CardSaid : Prop := Claim7.holds Tryd.pinned (.plain (OpenSpec.ofChange fnExactSum32Spec)) fnExactSum32Card

/-- THE SECOND FORM's CARD OF 'laws.FnExactSum32'. -/
def fnExactSum32UptoCard : Claim7 := { stood := { row := fnExactSum32UptoRow, standIns := [], harness := (true, "1b25ef932c7b64abda0f573d0877b91c2fd59dd048ef77de49bdadd3886d5ecc"), looks := false }, kinds := [], alts := [], laidByText := true, laidKinds := [.data], laidTests := true, laidLooks := .later }
def FnExactSum32UptoCardSaid : Prop := Claim7.holds Tryd.pinned (.plain (OpenSpec.upto fnExactSum32Spec)) fnExactSum32UptoCard
end Rows
end Go.Proofs.YtdcnnlnhopjjfaaDoor
