/-
  DERIVED. GIVEN WITH THE SEED: THE CARDS: each row of YtbjlnaaheahhnaaDoorRows.lean that lists a variable, with what it lists TIED to the program's text (the seventh form; the later family's looks); each row that meets fmt, with fmt's text TOLD by the authors' own Lean function (tested against real Go, not proved from fmt's source: count such statements apart). THE CARD IS WHAT COUNTS. Prove the row's statement (the work); the ties are given (YtbjlnaaheahhnaaDoorTie.lean); close each card by the builder's one call (the guide's Derived/Test/ToyasCard.lean, 'card_holds'). Laid BY PROGRAM, IN A SANDBOX (cutbox-door.mjs). By AI agents, Wed Nov 11 2026. No macro, syntax, notation, axiom, sorry.
-/
import Derived.Test.YtbjlnaaheahhnaaDoorRows
import GoSem.ClaimSeven
namespace Go.Proofs.YtbjlnaaheahhnaaDoor
namespace Rows

/-- THE TIED CARD OF 'laws.FnExactMatchersText'. -/
def fnExactMatchersTextCard : Claim7 := { stood := { row := fnExactMatchersTextRow, standIns := [], harness := (true, "b2755b692eb2812b4aa3a0efb86f23c17101ff559ef37139d1a42dd7014508e4"), looks := false }, kinds := [], alts := [], laidByText := true, laidKinds := [.data], laidTests := true, laidLooks := .later }
def FnExactMatchersTextCardSaid : Prop := Claim7.holds Tryd.pinned (.plain (OpenSpec.ofChange fnExactMatchersTextSpec)) fnExactMatchersTextCard

/-- THE TIED CARD OF 'laws.FnExactReadMatchers'. -/
def fnExactReadMatchersCard : Claim7 := { stood := { row := fnExactReadMatchersRow, standIns := [], harness := (true, "b2755b692eb2812b4aa3a0efb86f23c17101ff559ef37139d1a42dd7014508e4"), looks := false }, kinds := [], alts := [], laidByText := true, laidKinds := [.data], laidTests := true, laidLooks := .later }
def FnExactReadMatchersCardSaid : Prop := Claim7.holds Tryd.pinned (.plain (OpenSpec.ofChange fnExactReadMatchersSpec)) fnExactReadMatchersCard

/-- THE SECOND FORM's CARD OF 'laws.FnExactMatchersText'. -/
def fnExactMatchersTextUptoCard : Claim7 := { stood := { row := fnExactMatchersTextUptoRow, standIns := [], harness := (true, "b2755b692eb2812b4aa3a0efb86f23c17101ff559ef37139d1a42dd7014508e4"), looks := false }, kinds := [], alts := [], laidByText := true, laidKinds := [.data], laidTests := true, laidLooks := .later }
def FnExactMatchersTextUptoCardSaid : Prop := Claim7.holds Tryd.pinned (.plain (OpenSpec.upto fnExactMatchersTextSpec)) fnExactMatchersTextUptoCard

/-- THE SECOND FORM's CARD OF 'laws.FnExactReadMatchers'. -/
def fnExactReadMatchersUptoCard : Claim7 := { stood := { row := fnExactReadMatchersUptoRow, standIns := [], harness := (true, "b2755b692eb2812b4aa3a0efb86f23c17101ff559ef37139d1a42dd7014508e4"), looks := false }, kinds := [], alts := [], laidByText := true, laidKinds := [.data], laidTests := true, laidLooks := .later }
def FnExactReadMatchersUptoCardSaid : Prop := Claim7.holds Tryd.pinned (.plain (OpenSpec.upto fnExactReadMatchersSpec)) fnExactReadMatchersUptoCard
end Rows
end Go.Proofs.YtbjlnaaheahhnaaDoor
