/-
  DERIVED. GIVEN WITH THE SEED: THE CARDS: each row of YtbdlahhejfamhaaGreatDoorRows.lean that lists a variable, with what it lists TIED to the program's text (the seventh form; the later family's looks); each row that meets fmt, with fmt's text TOLD by the authors' own Lean function (tested against real Go, not proved from fmt's source: count such statements apart). THE CARD IS WHAT COUNTS. Prove the row's statement (the work); the ties are given (YtbdlahhejfamhaaGreatDoorTie.lean); close each card by the builder's one call (the guide's Derived/Test/ToyasCard.lean, 'card_holds'). Laid BY PROGRAM, IN A SANDBOX (cutbox-door.mjs). By AI agents, Wed Nov 11 2026. No macro, syntax, notation, axiom, sorry.
-/
import Derived.Test.YtbdlahhejfamhaaGreatDoorRows
import GoSem.ClaimSeven
namespace Go.Proofs.YtbdlahhejfamhaaGreatDoor
namespace Rows

/-- THE TIED CARD OF 'laws.FnExactKindOfQuery'. -/
def fnExactKindOfQueryCard : Claim7 := { stood := { row := fnExactKindOfQueryRow, standIns := [], harness := (true, "816c6b18193be4959f780f79c272d224fd06194e8b1b96e96aec038317fe5a44"), looks := true }, kinds := [], alts := [], laidByText := true, laidKinds := [.listed, .data, .data, .wider, .data], laidTests := true, laidLooks := .later }
def FnExactKindOfQueryCardSaid : Prop := Claim7.holds Tryz.pinned (.plain (OpenSpec.ofChange fnExactKindOfQuerySpec)) fnExactKindOfQueryCard

/-- THE TIED CARD OF 'laws.FnExactFoldQuery'. -/
def fnExactFoldQueryCard : Claim7 := { stood := { row := fnExactFoldQueryRow, standIns := [], harness := (true, "816c6b18193be4959f780f79c272d224fd06194e8b1b96e96aec038317fe5a44"), looks := true }, kinds := [], alts := [], laidByText := true, laidKinds := [.listed, .data, .data, .wider, .data], laidTests := true, laidLooks := .later }
def FnExactFoldQueryCardSaid : Prop := Claim7.holds Tryz.pinned (.plain (OpenSpec.ofChange fnExactFoldQuerySpec)) fnExactFoldQueryCard

/-- THE TIED CARD OF 'laws.FnExactNeedsOf'. -/
def fnExactNeedsOfCard : Claim7 := { stood := { row := fnExactNeedsOfRow, standIns := [], harness := (true, "816c6b18193be4959f780f79c272d224fd06194e8b1b96e96aec038317fe5a44"), looks := true }, kinds := [], alts := [], laidByText := true, laidKinds := [.listed, .data, .data, .wider, .data], laidTests := true, laidLooks := .later }
def FnExactNeedsOfCardSaid : Prop := Claim7.holds Tryz.pinned (.plain (OpenSpec.ofChange fnExactNeedsOfSpec)) fnExactNeedsOfCard

/-- THE TIED CARD OF 'laws.FnExactShardable'. -/
def fnExactShardableCard : Claim7 := { stood := { row := fnExactShardableRow, standIns := [], harness := (true, "816c6b18193be4959f780f79c272d224fd06194e8b1b96e96aec038317fe5a44"), looks := true }, kinds := [], alts := [], laidByText := true, laidKinds := [.listed, .data, .data, .wider, .data], laidTests := true, laidLooks := .later }
def FnExactShardableCardSaid : Prop := Claim7.holds Tryz.pinned (.plain (OpenSpec.ofChange fnExactShardableSpec)) fnExactShardableCard

/-- THE TIED CARD OF 'laws.FnExactGoodGroup'. -/
def fnExactGoodGroupCard : Claim7 := { stood := { row := fnExactGoodGroupRow, standIns := [], harness := (true, "816c6b18193be4959f780f79c272d224fd06194e8b1b96e96aec038317fe5a44"), looks := true }, kinds := [], alts := [], laidByText := true, laidKinds := [.listed, .data, .data, .wider, .data], laidTests := true, laidLooks := .later }
def FnExactGoodGroupCardSaid : Prop := Claim7.holds Tryz.pinned (.plain (OpenSpec.ofChange fnExactGoodGroupSpec)) fnExactGoodGroupCard

/-- THE SECOND FORM's CARD OF 'laws.FnExactKindOfQuery'. -/
def fnExactKindOfQueryUptoCard : Claim7 := { stood := { row := fnExactKindOfQueryUptoRow, standIns := [], harness := (true, "816c6b18193be4959f780f79c272d224fd06194e8b1b96e96aec038317fe5a44"), looks := true }, kinds := [], alts := [], laidByText := true, laidKinds := [.listed, .data, .data, .wider, .data], laidTests := true, laidLooks := .later }
def FnExactKindOfQueryUptoCardSaid : Prop := Claim7.holds Tryz.pinned (.plain (OpenSpec.upto fnExactKindOfQuerySpec)) fnExactKindOfQueryUptoCard

/-- THE SECOND FORM's CARD OF 'laws.FnExactFoldQuery'. -/
def fnExactFoldQueryUptoCard : Claim7 := { stood := { row := fnExactFoldQueryUptoRow, standIns := [], harness := (true, "816c6b18193be4959f780f79c272d224fd06194e8b1b96e96aec038317fe5a44"), looks := true }, kinds := [], alts := [], laidByText := true, laidKinds := [.listed, .data, .data, .wider, .data], laidTests := true, laidLooks := .later }
def FnExactFoldQueryUptoCardSaid : Prop := Claim7.holds Tryz.pinned (.plain (OpenSpec.upto fnExactFoldQuerySpec)) fnExactFoldQueryUptoCard

/-- THE SECOND FORM's CARD OF 'laws.FnExactNeedsOf'. -/
def fnExactNeedsOfUptoCard : Claim7 := { stood := { row := fnExactNeedsOfUptoRow, standIns := [], harness := (true, "816c6b18193be4959f780f79c272d224fd06194e8b1b96e96aec038317fe5a44"), looks := true }, kinds := [], alts := [], laidByText := true, laidKinds := [.listed, .data, .data, .wider, .data], laidTests := true, laidLooks := .later }
def FnExactNeedsOfUptoCardSaid : Prop := Claim7.holds Tryz.pinned (.plain (OpenSpec.upto fnExactNeedsOfSpec)) fnExactNeedsOfUptoCard

/-- THE SECOND FORM's CARD OF 'laws.FnExactShardable'. -/
def fnExactShardableUptoCard : Claim7 := { stood := { row := fnExactShardableUptoRow, standIns := [], harness := (true, "816c6b18193be4959f780f79c272d224fd06194e8b1b96e96aec038317fe5a44"), looks := true }, kinds := [], alts := [], laidByText := true, laidKinds := [.listed, .data, .data, .wider, .data], laidTests := true, laidLooks := .later }
def FnExactShardableUptoCardSaid : Prop := Claim7.holds Tryz.pinned (.plain (OpenSpec.upto fnExactShardableSpec)) fnExactShardableUptoCard

/-- THE SECOND FORM's CARD OF 'laws.FnExactGoodGroup'. -/
def fnExactGoodGroupUptoCard : Claim7 := { stood := { row := fnExactGoodGroupUptoRow, standIns := [], harness := (true, "816c6b18193be4959f780f79c272d224fd06194e8b1b96e96aec038317fe5a44"), looks := true }, kinds := [], alts := [], laidByText := true, laidKinds := [.listed, .data, .data, .wider, .data], laidTests := true, laidLooks := .later }
def FnExactGoodGroupUptoCardSaid : Prop := Claim7.holds Tryz.pinned (.plain (OpenSpec.upto fnExactGoodGroupSpec)) fnExactGoodGroupUptoCard
end Rows
end Go.Proofs.YtbdlahhejfamhaaGreatDoor
