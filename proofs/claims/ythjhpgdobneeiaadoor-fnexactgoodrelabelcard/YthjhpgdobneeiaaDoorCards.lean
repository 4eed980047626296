/-
  DERIVED. GIVEN WITH THE SEED: THE CARDS: each row of YthjhpgdobneeiaaDoorRows.lean that lists a variable, with what it lists TIED to the program's text (the seventh form; the later family's looks); each row that meets fmt, with fmt's text TOLD by the authors' own Lean function (tested against real Go, not proved from fmt's source: count such statements apart). THE CARD IS WHAT COUNTS. Prove the row's statement (the work); the ties are given (YthjhpgdobneeiaaDoorTie.lean); close each card by the builder's one call (the guide's Derived/Test/ToyasCard.lean, 'card_holds'). Laid BY PROGRAM, IN A SANDBOX (cutbox-door.mjs). By AI agents, Wed Nov 11 2026. No macro, syntax, notation, axiom, sorry.
-/
import Derived.Test.YthjhpgdobneeiaaDoorRows
import GoSem.ClaimSeven
namespace Go.Proofs.YthjhpgdobneeiaaDoor
namespace Rows

/-- THE TIED CARD OF 'laws.FnExactGoodRelabel'. -/
def fnExactGoodRelabelCard : Claim7 := { stood := { row := fnExactGoodRelabelRow, standIns := [], harness := (true, "045d92f8967018c58e9b40ef3e92f0e891b59f8e5b4fb0d324bbb2363879c346"), looks := false }, kinds := [], alts := [], laidByText := true, laidKinds := [.data], laidTests := true, laidLooks := .later }
def FnExactGoodRelabelCardSaid : Prop := Claim7.holds Tryd.pinned (.plain (OpenSpec.ofChange fnExactGoodRelabelSpec)) fnExactGoodRelabelCard

/-- THE TIED CARD OF 'laws.FnExactRelabelText'. -/
def fnExactRelabelTextCard : Claim7 := { stood := { row := fnExactRelabelTextRow, standIns := [], harness := (true, "045d92f8967018c58e9b40ef3e92f0e891b59f8e5b4fb0d324bbb2363879c346"), looks := false }, kinds := [], alts := [], laidByText := true, laidKinds := [.data, .data, .data, .data], laidTests := true, laidLooks := .later }
def FnExactRelabelTextCardSaid : Prop := Claim7.holds Tryd.pinned (.plain (OpenSpec.ofChange fnExactRelabelTextSpec)) fnExactRelabelTextCard

/-- THE SECOND FORM's CARD OF 'laws.FnExactGoodRelabel'. -/
def fnExactGoodRelabelUptoCard : Claim7 := { stood := { row := fnExactGoodRelabelUptoRow, standIns := [], harness := (true, "045d92f8967018c58e9b40ef3e92f0e891b59f8e5b4fb0d324bbb2363879c346"), looks := false }, kinds := [], alts := [], laidByText := true, laidKinds := [.data], laidTests := true, laidLooks := .later }
def FnExactGoodRelabelUptoCardSaid : Prop := Claim7.holds Tryd.pinned (.plain (OpenSpec.upto fnExactGoodRelabelSpec)) fnExactGoodRelabelUptoCard

/-- THE SECOND FORM's CARD OF 'laws.FnExactRelabelText'. -/
def fnExactRelabelTextUptoCard : Claim7 := { stood := { row := fnExactRelabelTextUptoRow, standIns := [], harness := (true, "045d92f8967018c58e9b40ef3e92f0e891b59f8e5b4fb0d324bbb2363879c346"), looks := false }, kinds := [], alts := [], laidByText := true, laidKinds := [.data, .data, .data, .data], laidTests := true, laidLooks := .later }
def FnExactRelabelTextUptoCardSaid : Prop := Claim7.holds Tryd.pinned (.plain (OpenSpec.upto fnExactRelabelTextSpec)) fnExactRelabelTextUptoCard
end Rows
end Go.Proofs.YthjhpgdobneeiaaDoor
