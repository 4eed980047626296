/-
  DERIVED. GIVEN WITH THE SEED: THE CARDS: each row of YtcnilidckicccaaDoorRows.lean that lists a variable, with what it lists TIED to the program's text (the seventh form; the later family's looks); each row that meets fmt, with fmt's text TOLD by the authors' own Lean function (tested against real Go, not proved from fmt's source: count such statements apart). THE CARD IS WHAT COUNTS. Prove the row's statement (the work); the ties are given (YtcnilidckicccaaDoorTie.lean); close each card by the builder's one call (the guide's Derived/Test/ToyasCard.lean, 'card_holds'). Laid BY PROGRAM, IN A SANDBOX (cutbox-door.mjs). By AI agents, Wed Nov 11 2026. No macro, syntax, notation, axiom, sorry.
-/
import Derived.Test.YtcnilidckicccaaDoorRows
import GoSem.ClaimSeven
namespace Go.Proofs.YtcnilidckicccaaDoor
namespace Rows

/-- THE TIED CARD OF 'laws.FnIntervals'. -/
def fnIntervalsCard : Claim7 := { stood := { row := fnIntervalsRow, standIns := [], harness := (true, "27ca26673bdb4d9910ef4e5b8d0fa0546b038b25cd072a51a86d672443a0697c"), looks := false }, kinds := [], alts := [], laidByText := true, laidKinds := [.data, .data], laidTests := true, laidLooks := .later }
def FnIntervalsCardSaid : Prop := Claim7.holds Tryd.pinned (.plain (OpenSpec.ofChange fnIntervalsSpec)) fnIntervalsCard

/-- THE TIED CARD OF 'laws.FnExactGoodInterval'. -/
def fnExactGoodIntervalCard : Claim7 := { stood := { row := fnExactGoodIntervalRow, standIns := [], harness := (true, "27ca26673bdb4d9910ef4e5b8d0fa0546b038b25cd072a51a86d672443a0697c"), looks := false }, kinds := [], alts := [], laidByText := true, laidKinds := [.data], laidTests := true, laidLooks := .later }
def FnExactGoodIntervalCardSaid : Prop := Claim7.holds Tryd.pinned (.plain (OpenSpec.ofChange fnExactGoodIntervalSpec)) fnExactGoodIntervalCard

/-- THE TIED CARD OF 'laws.FnExactInInterval'. -/
def fnExactInIntervalCard : Claim7 := { stood := { row := fnExactInIntervalRow, standIns := [], harness := (true, "27ca26673bdb4d9910ef4e5b8d0fa0546b038b25cd072a51a86d672443a0697c"), looks := false }, kinds := [], alts := [], laidByText := true, laidKinds := [.data, .data], laidTests := true, laidLooks := .later }
def FnExactInIntervalCardSaid : Prop := Claim7.holds Tryd.pinned (.plain (OpenSpec.ofChange fnExactInIntervalSpec)) fnExactInIntervalCard

/-- THE SECOND FORM's CARD OF 'laws.FnIntervals'. -/
def fnIntervalsUptoCard : Claim7 := { stood := { row := fnIntervalsUptoRow, standIns := [], harness := (true, "27ca26673bdb4d9910ef4e5b8d0fa0546b038b25cd072a51a86d672443a0697c"), looks := false }, kinds := [], alts := [], laidByText := true, laidKinds := [.data, .data], laidTests := true, laidLooks := .later }
def FnIntervalsUptoCardSaid : Prop := Claim7.holds Tryd.pinned (.plain (OpenSpec.upto fnIntervalsSpec)) fnIntervalsUptoCard

/-- THE SECOND FORM's CARD OF 'laws.FnExactGoodInterval'. -/
def fnExactGoodIntervalUptoCard : Claim7 := { stood := { row := fnExactGoodIntervalUptoRow, standIns := [], harness := (true, "27ca26673bdb4d9910ef4e5b8d0fa0546b038b25cd072a51a86d672443a0697c"), looks := false }, kinds := [], alts := [], laidByText := true, laidKinds := [.data], laidTests := true, laidLooks := .later }
def FnExactGoodIntervalUptoCardSaid : Prop := Claim7.holds Tryd.pinned (.plain (OpenSpec.upto fnExactGoodIntervalSpec)) fnExactGoodIntervalUptoCard

/-- THE SECOND FORM's CARD OF 'laws.FnExactInInterval'. -/
def fnExactInIntervalUptoCard : Claim7 := { stood := { row := fnExactInIntervalUptoRow, standIns := [], harness := (true, "27ca26673bdb4d9910ef4e5b8d0fa0546b038b25cd072a51a86d672443a0697c"), looks := false }, kinds := [], alts := [], laidByText := true, laidKinds := [.data, .data], laidTests := true, laidLooks := .later }
def FnExactInIntervalUptoCardSaid : Prop := Claim7.holds Tryd.pinned (.plain (OpenSpec.upto fnExactInIntervalSpec)) fnExactInIntervalUptoCard
end Rows
end Go.Proofs.YtcnilidckicccaaDoor
