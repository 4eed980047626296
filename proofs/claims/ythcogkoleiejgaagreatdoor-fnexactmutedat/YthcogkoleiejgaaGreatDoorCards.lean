/-
  DERIVED. GIVEN WITH THE SEED: THE CARDS: each row of YthcogkoleiejgaaGreatDoorRows.lean that lists a variable, with what it lists TIED to the program's text (the seventh form; the later family's looks); each row that meets fmt, with fmt's text TOLD by the authors' own Lean function (tested against real Go, not proved from fmt's source: count such statements apart). THE CARD IS WHAT COUNTS. Prove the row's statement (the work); the ties are given (YthcogkoleiejgaaGreatDoorTie.lean); close each card by the builder's one call (the guide's Derived/Test/ToyasCard.lean, 'card_holds'). Laid BY PROGRAM, IN A SANDBOX (cutbox-door.mjs). By AI agents, Wed Nov 11 2026. No macro, syntax, notation, axiom, sorry.
-/
import Derived.Test.YthcogkoleiejgaaGreatDoorRows
import GoSem.ClaimSeven
namespace Go.Proofs.YthcogkoleiejgaaGreatDoor
namespace Rows

/-- THE TIED CARD OF 'laws.FnExactGoodNotify'. -/
def fnExactGoodNotifyCard : Claim7 := { stood := { row := fnExactGoodNotifyRow, standIns := [], harness := (true, "d568c8c0149adfb3f08ed91456be960c6c4b092b4d1385f7e112dc8df2bcedbd"), looks := false }, kinds := [], alts := [], laidByText := true, laidKinds := [.data], laidTests := true, laidLooks := .later }
def FnExactGoodNotifyCardSaid : Prop := Claim7.holds Tryz.pinned (.plain (OpenSpec.ofChange fnExactGoodNotifySpec)) fnExactGoodNotifyCard

/-- THE TIED CARD OF 'laws.FnExactGoodMembers'. -/
def fnExactGoodMembersCard : Claim7 := { stood := { row := fnExactGoodMembersRow, standIns := [], harness := (true, "d568c8c0149adfb3f08ed91456be960c6c4b092b4d1385f7e112dc8df2bcedbd"), looks := false }, kinds := [], alts := [], laidByText := true, laidKinds := [.data], laidTests := true, laidLooks := .later }
def FnExactGoodMembersCardSaid : Prop := Claim7.holds Tryz.pinned (.plain (OpenSpec.ofChange fnExactGoodMembersSpec)) fnExactGoodMembersCard

/-- THE TIED CARD OF 'laws.FnExactMutedAt'. -/
def fnExactMutedAtCard : Claim7 := { stood := { row := fnExactMutedAtRow, standIns := [], harness := (true, "d568c8c0149adfb3f08ed91456be960c6c4b092b4d1385f7e112dc8df2bcedbd"), looks := false }, kinds := [], alts := [], laidByText := true, laidKinds := [.data, .data], laidTests := true, laidLooks := .later }
def FnExactMutedAtCardSaid : Prop := Claim7.holds Tryz.pinned (.plain (OpenSpec.ofChange fnExactMutedAtSpec)) fnExactMutedAtCard

/-- THE SECOND FORM's CARD OF 'laws.FnExactGoodNotify'. -/
def fnExactGoodNotifyUptoCard : Claim7 := { stood := { row := fnExactGoodNotifyUptoRow, standIns := [], harness := (true, "d568c8c0149adfb3f08ed91456be960c6c4b092b4d1385f7e112dc8df2bcedbd"), looks := false }, kinds := [], alts := [], laidByText := true, laidKinds := [.data], laidTests := true, laidLooks := .later }
def FnExactGoodNotifyUptoCardSaid : Prop := Claim7.holds Tryz.pinned (.plain (OpenSpec.upto fnExactGoodNotifySpec)) fnExactGoodNotifyUptoCard

/-- THE SECOND FORM's CARD OF 'laws.FnExactGoodMembers'. -/
def fnExactGoodMembersUptoCard : Claim7 := { stood := { row := fnExactGoodMembersUptoRow, standIns := [], harness := (true, "d568c8c0149adfb3f08ed91456be960c6c4b092b4d1385f7e112dc8df2bcedbd"), looks := false }, kinds := [], alts := [], laidByText := true, laidKinds := [.data], laidTests := true, laidLooks := .later }
def FnExactGoodMembersUptoCardSaid : Prop := Claim7.holds Tryz.pinned (.plain (OpenSpec.upto fnExactGoodMembersSpec)) fnExactGoodMembersUptoCard

/-- THE SECOND FORM's CARD OF 'laws.FnExactMutedAt'. -/
def fnExactMutedAtUptoCard : Claim7 := { stood := { row := fnExactMutedAtUptoRow, standIns := [], harness := (true, "d568c8c0149adfb3f08ed91456be960c6c4b092b4d1385f7e112dc8df2bcedbd"), looks := false }, kinds := [], alts := [], laidByText := true, laidKinds := [.data, .data], laidTests := true, laidLooks := .later }
def FnExactMutedAtUptoCardSaid : Prop := Claim7.holds Tryz.pinned (.plain (OpenSpec.upto fnExactMutedAtSpec)) fnExactMutedAtUptoCard
end Rows
end Go.Proofs.YthcogkoleiejgaaGreatDoor
