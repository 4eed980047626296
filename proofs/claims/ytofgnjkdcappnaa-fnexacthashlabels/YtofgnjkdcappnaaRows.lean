/-
  No cell of these rows narrows 'for every input' (looked for: loops, veiled, ifaces, maps, wideKeys, modest, calm, conditions, laid).
  DERIVED. THE GIVEN ROWS OF THIS SEAT. 9 by the template 'for every input the law returns true; each argument reads behind the call as it read before'; 0 by the template 'total and deterministic' (their statements: YtofgnjkdcappnaaTotals.lean).
  GIVEN WITH THE SEED: the statements are not yours to turn. If you find one false, say at which input.
  Laid BY PROGRAM, IN A SANDBOX (cutbox-rows.mjs): the forced cells as the released guide's own fill.sh prints them over the translation c85d5d581ac52c94… (all of the seat's roots in one cut). By AI agents, Wed Nov 11 2026. No macro, syntax, notation, axiom, sorry.
-/
import Derived.Test.YtofgnjkdcappnaaChecked
import GoSem.Claim
import GoSem.ClaimJoined
import GoSem.ClaimMapViews
import Derived.JoinedTies
import Derived.KernelRfl
namespace Go.Proofs.Ytofgnjkdcappnaa
/- THE CELL 'sum', in the pinned program and in every row, IS THE sha256 OF THE DUMP (.gsa) THAT YtofgnjkdcappnaaProg.lean LOADS. Nothing in Lean hashes anything: it is a label: what it is worth is what the hold of that sum in a sandbox is worth. -/
noncomputable def Try.pinned : Pinned := { name := "ytofgnjkdcappnaa", sum := "c85d5d581ac52c948046e2c2ed3a9e8b2a0d19294901a4b80aea5c615d81b446", checked := Try.checked }
namespace Rows
def none {H : Type} : Left H := { results := [], args := [] }

/-- 'laws.FnExactGoodLabels': WHATEVER THE INPUT: true; the input reads as it did. -/
def fnExactGoodLabelsSpec : ChangeSpec := { name := "fnExactGoodLabels", fn := fun _ => fun
  | [d] => { results := [.lit (.bool true)], args := [d] }
  | _ => none }
def fnExactGoodLabelsRow : OpenClaim := { program := "ytofgnjkdcappnaa", sum := "c85d5d581ac52c948046e2c2ed3a9e8b2a0d19294901a4b80aea5c615d81b446", func := "loop.example/g00039/laws.FnExactGoodLabels", spec := "fnExactGoodLabels", inPlace := ["internal/bytealg.abigen_runtime_cmpstring"], unfollowed := true, recurses := true, apart := false }
def FnExactGoodLabelsSaid : Prop := fnExactGoodLabelsRow.holds Try.pinned (OpenSpec.ofChange fnExactGoodLabelsSpec)

/-- ITS FALSE NEIGHBOUR: 'it returns false'. Refute it at one input. -/
def fnExactGoodLabelsWrong : ChangeSpec := { name := "fnExactGoodLabels", fn := fun _ => fun
  | [d] => { results := [.lit (.bool false)], args := [d] }
  | _ => none }
def FnExactGoodLabelsWrongFalsely : Prop := fnExactGoodLabelsRow.holds Try.pinned (OpenSpec.ofChange fnExactGoodLabelsWrong)

/-- 'laws.FnExactCompareLabels': WHATEVER THE INPUT: true; the input reads as it did. -/
def fnExactCompareLabelsSpec : ChangeSpec := { name := "fnExactCompareLabels", fn := fun _ => fun
  | [d1, d2] => { results := [.lit (.bool true)], args := [d1, d2] }
  | _ => none }
def fnExactCompareLabelsRow : OpenClaim := { program := "ytofgnjkdcappnaa", sum := "c85d5d581ac52c948046e2c2ed3a9e8b2a0d19294901a4b80aea5c615d81b446", func := "loop.example/g00039/laws.FnExactCompareLabels", spec := "fnExactCompareLabels", inPlace := ["internal/bytealg.abigen_runtime_cmpstring"], unfollowed := true, recurses := true, apart := false }
def FnExactCompareLabelsSaid : Prop := fnExactCompareLabelsRow.holds Try.pinned (OpenSpec.ofChange fnExactCompareLabelsSpec)

/-- ITS FALSE NEIGHBOUR: 'it returns false'. Refute it at one input. -/
def fnExactCompareLabelsWrong : ChangeSpec := { name := "fnExactCompareLabels", fn := fun _ => fun
  | [d1, d2] => { results := [.lit (.bool false)], args := [d1, d2] }
  | _ => none }
def FnExactCompareLabelsWrongFalsely : Prop := fnExactCompareLabelsRow.holds Try.pinned (OpenSpec.ofChange fnExactCompareLabelsWrong)

/-- 'laws.FnExactLabelsText': WHATEVER THE INPUT: true; the input reads as it did. -/
def fnExactLabelsTextSpec : ChangeSpec := { name := "fnExactLabelsText", fn := fun _ => fun
  | [d] => { results := [.lit (.bool true)], args := [d] }
  | _ => none }
def fnExactLabelsTextRow : OpenClaim := { program := "ytofgnjkdcappnaa", sum := "c85d5d581ac52c948046e2c2ed3a9e8b2a0d19294901a4b80aea5c615d81b446", func := "loop.example/g00039/laws.FnExactLabelsText", spec := "fnExactLabelsText", inPlace := ["internal/bytealg.abigen_runtime_cmpstring", "internal/abi.NoEscape", "internal/bytealg.MakeNoZero"], unfollowed := true, recurses := true, apart := false }
def FnExactLabelsTextSaid : Prop := fnExactLabelsTextRow.holds Try.pinned (OpenSpec.ofChange fnExactLabelsTextSpec)

/-- ITS FALSE NEIGHBOUR: 'it returns false'. Refute it at one input. -/
def fnExactLabelsTextWrong : ChangeSpec := { name := "fnExactLabelsText", fn := fun _ => fun
  | [d] => { results := [.lit (.bool false)], args := [d] }
  | _ => none }
def FnExactLabelsTextWrongFalsely : Prop := fnExactLabelsTextRow.holds Try.pinned (OpenSpec.ofChange fnExactLabelsTextWrong)

/-- 'laws.FnExactReadLabels': WHATEVER THE INPUT: true; the input reads as it did. -/
def fnExactReadLabelsSpec : ChangeSpec := { name := "fnExactReadLabels", fn := fun _ => fun
  | [d] => { results := [.lit (.bool true)], args := [d] }
  | _ => none }
def fnExactReadLabelsRow : OpenClaim := { program := "ytofgnjkdcappnaa", sum := "c85d5d581ac52c948046e2c2ed3a9e8b2a0d19294901a4b80aea5c615d81b446", func := "loop.example/g00039/laws.FnExactReadLabels", spec := "fnExactReadLabels", inPlace := ["internal/abi.NoEscape", "internal/bytealg.abigen_runtime_cmpstring"], unfollowed := true, recurses := true, apart := false }
def FnExactReadLabelsSaid : Prop := fnExactReadLabelsRow.holds Try.pinned (OpenSpec.ofChange fnExactReadLabelsSpec)

/-- ITS FALSE NEIGHBOUR: 'it returns false'. Refute it at one input. -/
def fnExactReadLabelsWrong : ChangeSpec := { name := "fnExactReadLabels", fn := fun _ => fun
  | [d] => { results := [.lit (.bool false)], args := [d] }
  | _ => none }
def FnExactReadLabelsWrongFalsely : Prop := fnExactReadLabelsRow.holds Try.pinned (OpenSpec.ofChange fnExactReadLabelsWrong)

/-- 'laws.FnExactHashLabels': WHATEVER THE INPUT: true; the input reads as it did. -/
def fnExactHashLabelsSpec : ChangeSpec := { name := "fnExactHashLabels", fn := fun _ => fun
  | [d] => { results := [.lit (.bool true)], args := [d] }
  | _ => none }
def fnExactHashLabelsRow : OpenClaim := { program := "ytofgnjkdcappnaa", sum := "c85d5d581ac52c948046e2c2ed3a9e8b2a0d19294901a4b80aea5c615d81b446", func := "loop.example/g00039/laws.FnExactHashLabels", spec := "fnExactHashLabels", inPlace := ["internal/bytealg.abigen_runtime_cmpstring", "internal/abi.NoEscape", "internal/bytealg.MakeNoZero"], unfollowed := true, recurses := true, apart := false }
def FnExactHashLabelsSaid : Prop := fnExactHashLabelsRow.holds Try.pinned (OpenSpec.ofChange fnExactHashLabelsSpec)

/-- ITS FALSE NEIGHBOUR: 'it returns false'. Refute it at one input. -/
def fnExactHashLabelsWrong : ChangeSpec := { name := "fnExactHashLabels", fn := fun _ => fun
  | [d] => { results := [.lit (.bool false)], args := [d] }
  | _ => none }
def FnExactHashLabelsWrongFalsely : Prop := fnExactHashLabelsRow.holds Try.pinned (OpenSpec.ofChange fnExactHashLabelsWrong)

/-- 'laws.FnExactValueOf': WHATEVER THE INPUT: true; the input reads as it did. -/
def fnExactValueOfSpec : ChangeSpec := { name := "fnExactValueOf", fn := fun _ => fun
  | [d1, d2] => { results := [.lit (.bool true)], args := [d1, d2] }
  | _ => none }
def fnExactValueOfRow : OpenClaim := { program := "ytofgnjkdcappnaa", sum := "c85d5d581ac52c948046e2c2ed3a9e8b2a0d19294901a4b80aea5c615d81b446", func := "loop.example/g00039/laws.FnExactValueOf", spec := "fnExactValueOf", inPlace := ["internal/bytealg.abigen_runtime_cmpstring"], unfollowed := true, recurses := true, apart := false }
def FnExactValueOfSaid : Prop := fnExactValueOfRow.holds Try.pinned (OpenSpec.ofChange fnExactValueOfSpec)

/-- ITS FALSE NEIGHBOUR: 'it returns false'. Refute it at one input. -/
def fnExactValueOfWrong : ChangeSpec := { name := "fnExactValueOf", fn := fun _ => fun
  | [d1, d2] => { results := [.lit (.bool false)], args := [d1, d2] }
  | _ => none }
def FnExactValueOfWrongFalsely : Prop := fnExactValueOfRow.holds Try.pinned (OpenSpec.ofChange fnExactValueOfWrong)

/-- 'laws.FnExactWithLabel': WHATEVER THE INPUT: true; the input reads as it did. -/
def fnExactWithLabelSpec : ChangeSpec := { name := "fnExactWithLabel", fn := fun _ => fun
  | [d1, d2, d3] => { results := [.lit (.bool true)], args := [d1, d2, d3] }
  | _ => none }
def fnExactWithLabelRow : OpenClaim := { program := "ytofgnjkdcappnaa", sum := "c85d5d581ac52c948046e2c2ed3a9e8b2a0d19294901a4b80aea5c615d81b446", func := "loop.example/g00039/laws.FnExactWithLabel", spec := "fnExactWithLabel", inPlace := ["internal/bytealg.abigen_runtime_cmpstring"], unfollowed := true, recurses := true, apart := false }
def FnExactWithLabelSaid : Prop := fnExactWithLabelRow.holds Try.pinned (OpenSpec.ofChange fnExactWithLabelSpec)

/-- ITS FALSE NEIGHBOUR: 'it returns false'. Refute it at one input. -/
def fnExactWithLabelWrong : ChangeSpec := { name := "fnExactWithLabel", fn := fun _ => fun
  | [d1, d2, d3] => { results := [.lit (.bool false)], args := [d1, d2, d3] }
  | _ => none }
def FnExactWithLabelWrongFalsely : Prop := fnExactWithLabelRow.holds Try.pinned (OpenSpec.ofChange fnExactWithLabelWrong)

/-- 'laws.FnExactKeepLabels': WHATEVER THE INPUT: true; the input reads as it did. -/
def fnExactKeepLabelsSpec : ChangeSpec := { name := "fnExactKeepLabels", fn := fun _ => fun
  | [d1, d2] => { results := [.lit (.bool true)], args := [d1, d2] }
  | _ => none }
def fnExactKeepLabelsRow : OpenClaim := { program := "ytofgnjkdcappnaa", sum := "c85d5d581ac52c948046e2c2ed3a9e8b2a0d19294901a4b80aea5c615d81b446", func := "loop.example/g00039/laws.FnExactKeepLabels", spec := "fnExactKeepLabels", inPlace := ["internal/bytealg.abigen_runtime_cmpstring"], unfollowed := true, recurses := true, apart := false }
def FnExactKeepLabelsSaid : Prop := fnExactKeepLabelsRow.holds Try.pinned (OpenSpec.ofChange fnExactKeepLabelsSpec)

/-- ITS FALSE NEIGHBOUR: 'it returns false'. Refute it at one input. -/
def fnExactKeepLabelsWrong : ChangeSpec := { name := "fnExactKeepLabels", fn := fun _ => fun
  | [d1, d2] => { results := [.lit (.bool false)], args := [d1, d2] }
  | _ => none }
def FnExactKeepLabelsWrongFalsely : Prop := fnExactKeepLabelsRow.holds Try.pinned (OpenSpec.ofChange fnExactKeepLabelsWrong)

/-- 'laws.FnExactDropLabels': WHATEVER THE INPUT: true; the input reads as it did. -/
def fnExactDropLabelsSpec : ChangeSpec := { name := "fnExactDropLabels", fn := fun _ => fun
  | [d1, d2] => { results := [.lit (.bool true)], args := [d1, d2] }
  | _ => none }
def fnExactDropLabelsRow : OpenClaim := { program := "ytofgnjkdcappnaa", sum := "c85d5d581ac52c948046e2c2ed3a9e8b2a0d19294901a4b80aea5c615d81b446", func := "loop.example/g00039/laws.FnExactDropLabels", spec := "fnExactDropLabels", inPlace := ["internal/bytealg.abigen_runtime_cmpstring"], unfollowed := true, recurses := true, apart := false }
def FnExactDropLabelsSaid : Prop := fnExactDropLabelsRow.holds Try.pinned (OpenSpec.ofChange fnExactDropLabelsSpec)

/-- ITS FALSE NEIGHBOUR: 'it returns false'. Refute it at one input. -/
def fnExactDropLabelsWrong : ChangeSpec := { name := "fnExactDropLabels", fn := fun _ => fun
  | [d1, d2] => { results := [.lit (.bool false)], args := [d1, d2] }
  | _ => none }
def FnExactDropLabelsWrongFalsely : Prop := fnExactDropLabelsRow.holds Try.pinned (OpenSpec.ofChange fnExactDropLabelsWrong)

/- THE SECOND FORM. 'bulk': how many values and letters a reading holds, each counted each time it is reached (what is shared counts as often as it is met; a slice's spare places count too). A statement '..UptoSaid' is the law's where the arguments, and the package variables that the reading takes, are together of bulk at most 1048576: NARROWER than '..Said'. Prove '..Said' where nothing that the law and all that it calls make is longer than what came in: it says more and counts as full. Else prove '..UptoSaid'. A law counts once. -/
mutual
def uptoBulk {H : Type} : DataW H → Nat
  | .lit (.string bytes) => bytes.length + 1
  | .lit _ => 1
  | .nil => 1
  | .ptr d => uptoBulk d + 1
  | .slice elems spare => uptoBulkAll elems + uptoBulkAll spare + 1
  | .agg parts => uptoBulkAll parts + 1
  | .iface _ d => uptoBulk d + 1
  | .map entries => uptoBulkEntries entries + 1
  | .held _ => 1
def uptoBulkAll {H : Type} : List (DataW H) → Nat
  | [] => 0
  | d :: r => uptoBulk d + uptoBulkAll r
def uptoBulkEntries {H : Type} : List (Lit × DataW H) → Nat
  | [] => 0
  | x :: r => uptoBulkEntry x + uptoBulkEntries r
def uptoBulkEntry {H : Type} : Lit × DataW H → Nat
  | (.string bytes, d) => bytes.length + uptoBulk d + 1
  | (_, d) => uptoBulk d + 1
 end
def uptoSmall : (H : Type) → List (DataW H) → Bool := fun _ ds => decide (uptoBulkAll ds ≤ 1048576)
def OpenSpec.upto (s : _root_.Go.ChangeSpec) : _root_.Go.OpenSpec := { _root_.Go.OpenSpec.ofChange s with cond := some uptoSmall }

/-- 'laws.FnExactGoodLabels', WHERE WHAT IT READS IS OF BULK AT MOST 1048576: true; the input reads as it did. -/
def fnExactGoodLabelsUptoRow : OpenClaim := { program := "ytofgnjkdcappnaa", sum := "c85d5d581ac52c948046e2c2ed3a9e8b2a0d19294901a4b80aea5c615d81b446", func := "loop.example/g00039/laws.FnExactGoodLabels", spec := "fnExactGoodLabels", inPlace := ["internal/bytealg.abigen_runtime_cmpstring"], unfollowed := true, recurses := true, apart := false, narrowed := true }
def FnExactGoodLabelsUptoSaid : Prop := fnExactGoodLabelsUptoRow.holds Try.pinned (OpenSpec.upto fnExactGoodLabelsSpec)

/-- 'laws.FnExactCompareLabels', WHERE WHAT IT READS IS OF BULK AT MOST 1048576: true; the input reads as it did. -/
def fnExactCompareLabelsUptoRow : OpenClaim := { program := "ytofgnjkdcappnaa", sum := "c85d5d581ac52c948046e2c2ed3a9e8b2a0d19294901a4b80aea5c615d81b446", func := "loop.example/g00039/laws.FnExactCompareLabels", spec := "fnExactCompareLabels", inPlace := ["internal/bytealg.abigen_runtime_cmpstring"], unfollowed := true, recurses := true, apart := false, narrowed := true }
def FnExactCompareLabelsUptoSaid : Prop := fnExactCompareLabelsUptoRow.holds Try.pinned (OpenSpec.upto fnExactCompareLabelsSpec)

/-- 'laws.FnExactLabelsText', WHERE WHAT IT READS IS OF BULK AT MOST 1048576: true; the input reads as it did. -/
def fnExactLabelsTextUptoRow : OpenClaim := { program := "ytofgnjkdcappnaa", sum := "c85d5d581ac52c948046e2c2ed3a9e8b2a0d19294901a4b80aea5c615d81b446", func := "loop.example/g00039/laws.FnExactLabelsText", spec := "fnExactLabelsText", inPlace := ["internal/bytealg.abigen_runtime_cmpstring", "internal/abi.NoEscape", "internal/bytealg.MakeNoZero"], unfollowed := true, recurses := true, apart := false, narrowed := true }
def FnExactLabelsTextUptoSaid : Prop := fnExactLabelsTextUptoRow.holds Try.pinned (OpenSpec.upto fnExactLabelsTextSpec)

/-- 'laws.FnExactReadLabels', WHERE WHAT IT READS IS OF BULK AT MOST 1048576: true; the input reads as it did. -/
def fnExactReadLabelsUptoRow : OpenClaim := { program := "ytofgnjkdcappnaa", sum := "c85d5d581ac52c948046e2c2ed3a9e8b2a0d19294901a4b80aea5c615d81b446", func := "loop.example/g00039/laws.FnExactReadLabels", spec := "fnExactReadLabels", inPlace := ["internal/abi.NoEscape", "internal/bytealg.abigen_runtime_cmpstring"], unfollowed := true, recurses := true, apart := false, narrowed := true }
def FnExactReadLabelsUptoSaid : Prop := fnExactReadLabelsUptoRow.holds Try.pinned (OpenSpec.upto fnExactReadLabelsSpec)

/-- 'laws.FnExactHashLabels', WHERE WHAT IT READS IS OF BULK AT MOST 1048576: true; the input reads as it did. -/
def fnExactHashLabelsUptoRow : OpenClaim := { program := "ytofgnjkdcappnaa", sum := "c85d5d581ac52c948046e2c2ed3a9e8b2a0d19294901a4b80aea5c615d81b446", func := "loop.example/g00039/laws.FnExactHashLabels", spec := "fnExactHashLabels", inPlace := ["internal/bytealg.abigen_runtime_cmpstring", "internal/abi.NoEscape", "internal/bytealg.MakeNoZero"], unfollowed := true, recurses := true, apart := false, narrowed := true }
def FnExactHashLabelsUptoSaid : Prop := fnExactHashLabelsUptoRow.holds Try.pinned (OpenSpec.upto fnExactHashLabelsSpec)

/-- 'laws.FnExactValueOf', WHERE WHAT IT READS IS OF BULK AT MOST 1048576: true; the input reads as it did. -/
def fnExactValueOfUptoRow : OpenClaim := { program := "ytofgnjkdcappnaa", sum := "c85d5d581ac52c948046e2c2ed3a9e8b2a0d19294901a4b80aea5c615d81b446", func := "loop.example/g00039/laws.FnExactValueOf", spec := "fnExactValueOf", inPlace := ["internal/bytealg.abigen_runtime_cmpstring"], unfollowed := true, recurses := true, apart := false, narrowed := true }
def FnExactValueOfUptoSaid : Prop := fnExactValueOfUptoRow.holds Try.pinned (OpenSpec.upto fnExactValueOfSpec)

/-- 'laws.FnExactWithLabel', WHERE WHAT IT READS IS OF BULK AT MOST 1048576: true; the input reads as it did. -/
def fnExactWithLabelUptoRow : OpenClaim := { program := "ytofgnjkdcappnaa", sum := "c85d5d581ac52c948046e2c2ed3a9e8b2a0d19294901a4b80aea5c615d81b446", func := "loop.example/g00039/laws.FnExactWithLabel", spec := "fnExactWithLabel", inPlace := ["internal/bytealg.abigen_runtime_cmpstring"], unfollowed := true, recurses := true, apart := false, narrowed := true }
def FnExactWithLabelUptoSaid : Prop := fnExactWithLabelUptoRow.holds Try.pinned (OpenSpec.upto fnExactWithLabelSpec)

/-- 'laws.FnExactKeepLabels', WHERE WHAT IT READS IS OF BULK AT MOST 1048576: true; the input reads as it did. -/
def fnExactKeepLabelsUptoRow : OpenClaim := { program := "ytofgnjkdcappnaa", sum := "c85d5d581ac52c948046e2c2ed3a9e8b2a0d19294901a4b80aea5c615d81b446", func := "loop.example/g00039/laws.FnExactKeepLabels", spec := "fnExactKeepLabels", inPlace := ["internal/bytealg.abigen_runtime_cmpstring"], unfollowed := true, recurses := true, apart := false, narrowed := true }
def FnExactKeepLabelsUptoSaid : Prop := fnExactKeepLabelsUptoRow.holds Try.pinned (OpenSpec.upto fnExactKeepLabelsSpec)

/-- 'laws.FnExactDropLabels', WHERE WHAT IT READS IS OF BULK AT MOST 1048576: true; the input reads as it did. -/
def fnExactDropLabelsUptoRow : OpenClaim := { program := "ytofgnjkdcappnaa", sum := "c85d5d581ac52c948046e2c2ed3a9e8b2a0d19294901a4b80aea5c615d81b446", func := "loop.example/g00039/laws.FnExactDropLabels", spec := "fnExactDropLabels", inPlace := ["internal/bytealg.abigen_runtime_cmpstring"], unfollowed := true, recurses := true, apart := false, narrowed := true }
def FnExactDropLabelsUptoSaid : Prop := fnExactDropLabelsUptoRow.holds Try.pinned (OpenSpec.upto fnExactDropLabelsSpec)

end Rows
end Go.Proofs.Ytofgnjkdcappnaa
