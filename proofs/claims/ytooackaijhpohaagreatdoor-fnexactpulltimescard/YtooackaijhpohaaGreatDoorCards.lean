/-
  DERIVED. GIVEN WITH THE SEED: THE CARDS: each row of YtooackaijhpohaaGreatDoorRows.lean that lists a variable, with what it lists TIED to the program's text (the seventh form; the later family's looks); each row that meets fmt, with fmt's text TOLD by the authors' own Lean function (tested against real Go, not proved from fmt's source: count such statements apart). THE CARD IS WHAT COUNTS. Prove the row's statement (the work); the ties are given (YtooackaijhpohaaGreatDoorTie.lean); close each card by the builder's one call (the guide's Derived/Test/ToyasCard.lean, 'card_holds'). Laid BY PROGRAM, IN A SANDBOX (cutbox-door.mjs). By AI agents, Wed Nov 11 2026. No macro, syntax, notation, axiom, sorry.
-/
import Derived.Test.YtooackaijhpohaaGreatDoorRows
import GoSem.ClaimSeven
namespace Go.Proofs.YtooackaijhpohaaGreatDoor
namespace Rows

/-- THE TIED CARD OF 'laws.FnExactGoodTarget'. -/
def fnExactGoodTargetCard : Claim7 := { stood := { row := fnExactGoodTargetRow, standIns := [], harness := (true, "16effa8ac7c3715981125b9082f9ea8ee5aa6f37ba506e13635f7bd344871e71"), looks := false }, kinds := [], alts := [], laidByText := true, laidKinds := [.data, .data, .data, .data, .data, .pinned, .pinned], laidTests := true, laidLooks := .later }
def FnExactGoodTargetCardSaid : Prop := Claim7.holds Tryz.pinned (.plain (OpenSpec.ofChange fnExactGoodTargetSpec)) fnExactGoodTargetCard

/-- THE TIED CARD OF 'laws.FnExactOffsetOf'. -/
def fnExactOffsetOfCard : Claim7 := { stood := { row := fnExactOffsetOfRow, standIns := [], harness := (true, "16effa8ac7c3715981125b9082f9ea8ee5aa6f37ba506e13635f7bd344871e71"), looks := false }, kinds := [], alts := [], laidByText := true, laidKinds := [.data, .data, .data, .data, .data, .pinned, .pinned], laidTests := true, laidLooks := .later }
def FnExactOffsetOfCardSaid : Prop := Claim7.holds Tryz.pinned (.plain (OpenSpec.ofChange fnExactOffsetOfSpec)) fnExactOffsetOfCard

/-- THE TIED CARD OF 'laws.FnExactPullTimes'. -/
def fnExactPullTimesCard : Claim7 := { stood := { row := fnExactPullTimesRow, standIns := [], harness := (true, "16effa8ac7c3715981125b9082f9ea8ee5aa6f37ba506e13635f7bd344871e71"), looks := false }, kinds := [], alts := [], laidByText := true, laidKinds := [.data, .data, .data, .data, .data, .pinned, .pinned], laidTests := true, laidLooks := .later }
def FnExactPullTimesCardSaid : Prop := Claim7.holds Tryz.pinned (.plain (OpenSpec.ofChange fnExactPullTimesSpec)) fnExactPullTimesCard

/-- THE SECOND FORM's CARD OF 'laws.FnExactGoodTarget'. -/
def fnExactGoodTargetUptoCard : Claim7 := { stood := { row := fnExactGoodTargetUptoRow, standIns := [], harness := (true, "16effa8ac7c3715981125b9082f9ea8ee5aa6f37ba506e13635f7bd344871e71"), looks := false }, kinds := [], alts := [], laidByText := true, laidKinds := [.data, .data, .data, .data, .data, .pinned, .pinned], laidTests := true, laidLooks := .later }
def FnExactGoodTargetUptoCardSaid : Prop := Claim7.holds Tryz.pinned (.plain (OpenSpec.upto fnExactGoodTargetSpec)) fnExactGoodTargetUptoCard

/-- THE SECOND FORM's CARD OF 'laws.FnExactOffsetOf'. -/
def fnExactOffsetOfUptoCard : Claim7 := { stood := { row := fnExactOffsetOfUptoRow, standIns := [], harness := (true, "16effa8ac7c3715981125b9082f9ea8ee5aa6f37ba506e13635f7bd344871e71"), looks := false }, kinds := [], alts := [], laidByText := true, laidKinds := [.data, .data, .data, .data, .data, .pinned, .pinned], laidTests := true, laidLooks := .later }
def FnExactOffsetOfUptoCardSaid : Prop := Claim7.holds Tryz.pinned (.plain (OpenSpec.upto fnExactOffsetOfSpec)) fnExactOffsetOfUptoCard

/-- THE SECOND FORM's CARD OF 'laws.FnExactPullTimes'. -/
def fnExactPullTimesUptoCard : Claim7 := { stood := { row := fnExactPullTimesUptoRow, standIns := [], harness := (true, "16effa8ac7c3715981125b9082f9ea8ee5aa6f37ba506e13635f7bd344871e71"), looks := false }, kinds := [], alts := [], laidByText := true, laidKinds := [.data, .data, .data, .data, .data, .pinned, .pinned], laidTests := true, laidLooks := .later }
def FnExactPullTimesUptoCardSaid : Prop := Claim7.holds Tryz.pinned (.plain (OpenSpec.upto fnExactPullTimesSpec)) fnExactPullTimesUptoCard
end Rows
end Go.Proofs.YtooackaijhpohaaGreatDoor
