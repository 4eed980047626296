/-
  DERIVED. GIVEN WITH THE SEED: THE CARDS: each row of YteblbcbfaomdmaaDoorRows.lean that lists a variable, with what it lists TIED to the program's text (the seventh form; the later family's looks); each row that meets fmt, with fmt's text TOLD by the authors' own Lean function (tested against real Go, not proved from fmt's source: count such statements apart). THE CARD IS WHAT COUNTS. Prove the row's statement (the work); the ties are given (YteblbcbfaomdmaaDoorTie.lean); close each card by the builder's one call (the guide's Derived/Test/ToyasCard.lean, 'card_holds'). Laid BY PROGRAM, IN A SANDBOX (cutbox-door.mjs). By AI agents, Wed Nov 11 2026. No macro, syntax, notation, axiom, sorry.
-/
import Derived.Test.YteblbcbfaomdmaaDoorRows
import GoSem.ClaimSeven
namespace Go.Proofs.YteblbcbfaomdmaaDoor
namespace Rows

/-- THE TIED CARD OF 'laws.FnChunks'. -/
def fnChunksCard : Claim7 := { stood := { row := fnChunksRow, standIns := [], harness := (true, "5347f68f525e05ad2ff34dfef6ee63a9fbe321373e6ba353cd07ba06065f7155"), looks := false }, kinds := [], alts := [], laidByText := true, laidKinds := [.data, .wider], laidTests := true, laidLooks := .later }
def FnChunksCardSaid : Prop := Claim7.holds Tryd.pinned (.plain (OpenSpec.ofChange fnChunksSpec)) fnChunksCard

/-- THE TIED CARD OF 'laws.FnExactPackChunk'. -/
def fnExactPackChunkCard : Claim7 := { stood := { row := fnExactPackChunkRow, standIns := [], harness := (true, "5347f68f525e05ad2ff34dfef6ee63a9fbe321373e6ba353cd07ba06065f7155"), looks := false }, kinds := [], alts := [], laidByText := true, laidKinds := [.data, .wider], laidTests := true, laidLooks := .later }
def FnExactPackChunkCardSaid : Prop := Claim7.holds Tryd.pinned (.plain (OpenSpec.ofChange fnExactPackChunkSpec)) fnExactPackChunkCard

/-- THE TIED CARD OF 'laws.FnExactUnpackChunk'. -/
def fnExactUnpackChunkCard : Claim7 := { stood := { row := fnExactUnpackChunkRow, standIns := [], harness := (true, "5347f68f525e05ad2ff34dfef6ee63a9fbe321373e6ba353cd07ba06065f7155"), looks := false }, kinds := [], alts := [], laidByText := true, laidKinds := [.data, .wider], laidTests := true, laidLooks := .later }
def FnExactUnpackChunkCardSaid : Prop := Claim7.holds Tryd.pinned (.plain (OpenSpec.ofChange fnExactUnpackChunkSpec)) fnExactUnpackChunkCard

/-- THE TIED CARD OF 'laws.FnExactAppendChunk'. -/
def fnExactAppendChunkCard : Claim7 := { stood := { row := fnExactAppendChunkRow, standIns := [], harness := (true, "5347f68f525e05ad2ff34dfef6ee63a9fbe321373e6ba353cd07ba06065f7155"), looks := false }, kinds := [], alts := [], laidByText := true, laidKinds := [.data, .wider], laidTests := true, laidLooks := .later }
def FnExactAppendChunkCardSaid : Prop := Claim7.holds Tryd.pinned (.plain (OpenSpec.ofChange fnExactAppendChunkSpec)) fnExactAppendChunkCard

/-- THE TIED CARD OF 'laws.FnExactCountOf'. -/
def fnExactCountOfCard : Claim7 := { stood := { row := fnExactCountOfRow, standIns := [], harness := (true, "5347f68f525e05ad2ff34dfef6ee63a9fbe321373e6ba353cd07ba06065f7155"), looks := false }, kinds := [], alts := [], laidByText := true, laidKinds := [.data, .wider], laidTests := true, laidLooks := .later }
def FnExactCountOfCardSaid : Prop := Claim7.holds Tryd.pinned (.plain (OpenSpec.ofChange fnExactCountOfSpec)) fnExactCountOfCard

/-- THE SECOND FORM's CARD OF 'laws.FnChunks'. -/
def fnChunksUptoCard : Claim7 := { stood := { row := fnChunksUptoRow, standIns := [], harness := (true, "5347f68f525e05ad2ff34dfef6ee63a9fbe321373e6ba353cd07ba06065f7155"), looks := false }, kinds := [], alts := [], laidByText := true, laidKinds := [.data, .wider], laidTests := true, laidLooks := .later }
def FnChunksUptoCardSaid : Prop := Claim7.holds Tryd.pinned (.plain (OpenSpec.upto fnChunksSpec)) fnChunksUptoCard

/-- THE SECOND FORM's CARD OF 'laws.FnExactPackChunk'. -/
def fnExactPackChunkUptoCard : Claim7 := { stood := { row := fnExactPackChunkUptoRow, standIns := [], harness := (true, "5347f68f525e05ad2ff34dfef6ee63a9fbe321373e6ba353cd07ba06065f7155"), looks := false }, kinds := [], alts := [], laidByText := true, laidKinds := [.data, .wider], laidTests := true, laidLooks := .later }
def FnExactPackChunkUptoCardSaid : Prop := Claim7.holds Tryd.pinned (.plain (OpenSpec.upto fnExactPackChunkSpec)) fnExactPackChunkUptoCard

/-- THE SECOND FORM's CARD OF 'laws.FnExactUnpackChunk'. -/
def fnExactUnpackChunkUptoCard : Claim7 := { stood := { row := fnExactUnpackChunkUptoRow, standIns := [], harness := (true, "5347f68f525e05ad2ff34dfef6ee63a9fbe321373e6ba353cd07ba06065f7155"), looks := false }, kinds := [], alts := [], laidByText := true, laidKinds := [.data, .wider], laidTests := true, laidLooks := .later }
def FnExactUnpackChunkUptoCardSaid : Prop := Claim7.holds Tryd.pinned (.plain (OpenSpec.upto fnExactUnpackChunkSpec)) fnExactUnpackChunkUptoCard

/-- THE SECOND FORM's CARD OF 'laws.FnExactAppendChunk'. -/
def fnExactAppendChunkUptoCard : Claim7 := { stood := { row := fnExactAppendChunkUptoRow, standIns := [], harness := (true, "5347f68f525e05ad2ff34dfef6ee63a9fbe321373e6ba353cd07ba06065f7155"), looks := false }, kinds := [], alts := [], laidByText := true, laidKinds := [.data, .wider], laidTests := true, laidLooks := .later }
def FnExactAppendChunkUptoCardSaid : Prop := Claim7.holds Tryd.pinned (.plain (OpenSpec.upto fnExactAppendChunkSpec)) fnExactAppendChunkUptoCard

/-- THE SECOND FORM's CARD OF 'laws.FnExactCountOf'. -/
def fnExactCountOfUptoCard : Claim7 := { stood := { row := fnExactCountOfUptoRow, standIns := [], harness := (true, "5347f68f525e05ad2ff34dfef6ee63a9fbe321373e6ba353cd07ba06065f7155"), looks := false }, kinds := [], alts := [], laidByText := true, laidKinds := [.data, .wider], laidTests := true, laidLooks := .later }
def FnExactCountOfUptoCardSaid : Prop := Claim7.holds Tryd.pinned (.plain (OpenSpec.upto fnExactCountOfSpec)) fnExactCountOfUptoCard
end Rows
end Go.Proofs.YteblbcbfaomdmaaDoor
