/-
  DERIVED. GIVEN WITH THE SEED: THE CARDS: each row of YtjnpnlkodbchhaaGreatDoorRows.lean that lists a variable, with what it lists TIED to the program's text (the seventh form; the later family's looks); each row that meets fmt, with fmt's text TOLD by the authors' own Lean function (tested against real Go, not proved from fmt's source: count such statements apart). THE CARD IS WHAT COUNTS. Prove the row's statement (the work); the ties are given (YtjnpnlkodbchhaaGreatDoorTie.lean); close each card by the builder's one call (the guide's Derived/Test/ToyasCard.lean, 'card_holds'). Laid BY PROGRAM, IN A SANDBOX (cutbox-door.mjs). By AI agents, Wed Nov 11 2026. No macro, syntax, notation, axiom, sorry.
-/
import Derived.Test.YtjnpnlkodbchhaaGreatDoorRows
import GoSem.ClaimSeven
namespace Go.Proofs.YtjnpnlkodbchhaaGreatDoor
namespace Rows

/-- THE TIED CARD OF 'laws.FnExactGoodTarget'. -/
def fnExactGoodTargetCard : Claim7 := { stood := { row := fnExactGoodTargetRow, standIns := [], harness := (true, "88e7212ffa79c057458a62eb38705a3afd3da303a1d90fafd3e7bfdee3031b22"), looks := false }, kinds := [], alts := [], laidByText := true, laidKinds := [.data, .data, .data, .data, .data, .pinned, .pinned], laidTests := true, laidLooks := .later }
def FnExactGoodTargetCardSaid : Prop := Claim7.holds Tryz.pinned (.plain (OpenSpec.ofChange fnExactGoodTargetSpec)) fnExactGoodTargetCard

/-- THE TIED CARD OF 'laws.FnExactOffsetOf'. -/
def fnExactOffsetOfCard : Claim7 := { stood := { row := fnExactOffsetOfRow, standIns := [], harness := (true, "88e7212ffa79c057458a62eb38705a3afd3da303a1d90fafd3e7bfdee3031b22"), looks := false }, kinds := [], alts := [], laidByText := true, laidKinds := [.data, .data, .data, .data, .data, .pinned, .pinned], laidTests := true, laidLooks := .later }
def FnExactOffsetOfCardSaid : Prop := Claim7.holds Tryz.pinned (.plain (OpenSpec.ofChange fnExactOffsetOfSpec)) fnExactOffsetOfCard

/-- THE TIED CARD OF 'laws.FnExactPullTimes'. -/
def fnExactPullTimesCard : Claim7 := { stood := { row := fnExactPullTimesRow, standIns := [], harness := (true, "88e7212ffa79c057458a62eb38705a3afd3da303a1d90fafd3e7bfdee3031b22"), looks := false }, kinds := [], alts := [], laidByText := true, laidKinds := [.data, .data, .data, .data, .data, .pinned, .pinned], laidTests := true, laidLooks := .later }
def FnExactPullTimesCardSaid : Prop := Claim7.holds Tryz.pinned (.plain (OpenSpec.ofChange fnExactPullTimesSpec)) fnExactPullTimesCard

/-- THE TIED CARD OF 'laws.FnExactJoinLabels'. -/
def fnExactJoinLabelsCard : Claim7 := { stood := { row := fnExactJoinLabelsRow, standIns := [], harness := (true, "88e7212ffa79c057458a62eb38705a3afd3da303a1d90fafd3e7bfdee3031b22"), looks := false }, kinds := [], alts := [], laidByText := true, laidKinds := [.data, .data, .data, .data, .data, .pinned, .pinned], laidTests := true, laidLooks := .later }
def FnExactJoinLabelsCardSaid : Prop := Claim7.holds Tryz.pinned (.plain (OpenSpec.ofChange fnExactJoinLabelsSpec)) fnExactJoinLabelsCard

/-- THE SECOND FORM's CARD OF 'laws.FnExactGoodTarget'. -/
def fnExactGoodTargetUptoCard : Claim7 := { stood := { row := fnExactGoodTargetUptoRow, standIns := [], harness := (true, "88e7212ffa79c057458a62eb38705a3afd3da303a1d90fafd3e7bfdee3031b22"), looks := false }, kinds := [], alts := [], laidByText := true, laidKinds := [.data, .data, .data, .data, .data, .pinned, .pinned], laidTests := true, laidLooks := .later }
def FnExactGoodTargetUptoCardSaid : Prop := Claim7.holds Tryz.pinned (.plain (OpenSpec.upto fnExactGoodTargetSpec)) fnExactGoodTargetUptoCard

/-- THE SECOND FORM's CARD OF 'laws.FnExactOffsetOf'. -/
def fnExactOffsetOfUptoCard : Claim7 := { stood := { row := fnExactOffsetOfUptoRow, standIns := [], harness := (true, "88e7212ffa79c057458a62eb38705a3afd3da303a1d90fafd3e7bfdee3031b22"), looks := false }, kinds := [], alts := [], laidByText := true, laidKinds := [.data, .data, .data, .data, .data, .pinned, .pinned], laidTests := true, laidLooks := .later }
def FnExactOffsetOfUptoCardSaid : Prop := Claim7.holds Tryz.pinned (.plain (OpenSpec.upto fnExactOffsetOfSpec)) fnExactOffsetOfUptoCard

/-- THE SECOND FORM's CARD OF 'laws.FnExactPullTimes'. -/
def fnExactPullTimesUptoCard : Claim7 := { stood := { row := fnExactPullTimesUptoRow, standIns := [], harness := (true, "88e7212ffa79c057458a62eb38705a3afd3da303a1d90fafd3e7bfdee3031b22"), looks := false }, kinds := [], alts := [], laidByText := true, laidKinds := [.data, .data, .data, .data, .data, .pinned, .pinned], laidTests := true, laidLooks := .later }
def FnExactPullTimesUptoCardSaid : Prop := Claim7.holds Tryz.pinned (.plain (OpenSpec.upto fnExactPullTimesSpec)) fnExactPullTimesUptoCard

/-- THE SECOND FORM's CARD OF 'laws.FnExactJoinLabels'. -/
def fnExactJoinLabelsUptoCard : Claim7 := { stood := { row := fnExactJoinLabelsUptoRow, standIns := [], harness := (true, "88e7212ffa79c057458a62eb38705a3afd3da303a1d90fafd3e7bfdee3031b22"), looks := false }, kinds := [], alts := [], laidByText := true, laidKinds := [.data, .data, .data, .data, .data, .pinned, .pinned], laidTests := true, laidLooks := .later }
def FnExactJoinLabelsUptoCardSaid : Prop := Claim7.holds Tryz.pinned (.plain (OpenSpec.upto fnExactJoinLabelsSpec)) fnExactJoinLabelsUptoCard
end Rows
end Go.Proofs.YtjnpnlkodbchhaaGreatDoor
