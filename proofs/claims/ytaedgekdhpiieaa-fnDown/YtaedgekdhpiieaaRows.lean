/-
  No cell of these rows narrows 'for every input' (looked for: loops, veiled, ifaces, maps, wideKeys, modest, calm, conditions, laid).
  DERIVED. THE GIVEN ROWS OF THIS SEAT. 3 by the template 'for every input the law returns true; each argument reads behind the call as it read before'; 0 by the template 'total and deterministic' (their statements: YtaedgekdhpiieaaTotals.lean).
  GIVEN WITH THE SEED: the statements are not yours to turn. If you find one false, say at which input.
  Laid BY PROGRAM, IN A SANDBOX (cutbox-rows.mjs): the forced cells as the released guide's own fill.sh prints them over the translation 4f3f3d3ea27973e6… (all of the seat's roots in one cut). By AI agents, Wed Nov 11 2026. No macro, syntax, notation, axiom, sorry.
-/
import Derived.Test.YtaedgekdhpiieaaChecked
import GoSem.Claim
import GoSem.ClaimJoined
import GoSem.ClaimMapViews
import Derived.JoinedTies
import Derived.KernelRfl
namespace Go.Proofs.Ytaedgekdhpiieaa
/- THE CELL 'sum', in the pinned program and in every row, IS THE sha256 OF THE DUMP (.gsa) THAT YtaedgekdhpiieaaProg.lean LOADS. Nothing in Lean hashes anything: it is a label: what it is worth is what the hold of that sum in a sandbox is worth. -/
noncomputable def Try.pinned : Pinned := { name := "ytaedgekdhpiieaa", sum := "4f3f3d3ea27973e60a600e0b6a05089c91b0ee256119e0b54853582232773a5e", checked := Try.checked }
namespace Rows
def none {H : Type} : Left H := { results := [], args := [] }

/-- 'laws.FnDown': WHATEVER THE INPUT: true; the input reads as it did. -/
def fnDownSpec : ChangeSpec := { name := "fnDown", fn := fun _ => fun
  | [d1, d2] => { results := [.lit (.bool true)], args := [d1, d2] }
  | _ => none }
def fnDownRow : OpenClaim := { program := "ytaedgekdhpiieaa", sum := "4f3f3d3ea27973e60a600e0b6a05089c91b0ee256119e0b54853582232773a5e", func := "loop.example/g00039/laws.FnDown", spec := "fnDown", unfollowed := true, recurses := true, apart := false }
def FnDownSaid : Prop := fnDownRow.holds Try.pinned (OpenSpec.ofChange fnDownSpec)

/-- ITS FALSE NEIGHBOUR: 'it returns false'. Refute it at one input. -/
def fnDownWrong : ChangeSpec := { name := "fnDown", fn := fun _ => fun
  | [d1, d2] => { results := [.lit (.bool false)], args := [d1, d2] }
  | _ => none }
def FnDownWrongFalsely : Prop := fnDownRow.holds Try.pinned (OpenSpec.ofChange fnDownWrong)

/-- 'laws.FnAggs': WHATEVER THE INPUT: true; the input reads as it did. -/
def fnAggsSpec : ChangeSpec := { name := "fnAggs", fn := fun _ => fun
  | [d1, d2] => { results := [.lit (.bool true)], args := [d1, d2] }
  | _ => none }
def fnAggsRow : OpenClaim := { program := "ytaedgekdhpiieaa", sum := "4f3f3d3ea27973e60a600e0b6a05089c91b0ee256119e0b54853582232773a5e", func := "loop.example/g00039/laws.FnAggs", spec := "fnAggs", apart := false }
def FnAggsSaid : Prop := fnAggsRow.holds Try.pinned (OpenSpec.ofChange fnAggsSpec)

/-- ITS FALSE NEIGHBOUR: 'it returns false'. Refute it at one input. -/
def fnAggsWrong : ChangeSpec := { name := "fnAggs", fn := fun _ => fun
  | [d1, d2] => { results := [.lit (.bool false)], args := [d1, d2] }
  | _ => none }
def FnAggsWrongFalsely : Prop := fnAggsRow.holds Try.pinned (OpenSpec.ofChange fnAggsWrong)

/-- 'laws.FnExactDownSamples': WHATEVER THE INPUT: true; the input reads as it did. -/
def fnExactDownSamplesSpec : ChangeSpec := { name := "fnExactDownSamples", fn := fun _ => fun
  | [d1, d2] => { results := [.lit (.bool true)], args := [d1, d2] }
  | _ => none }
def fnExactDownSamplesRow : OpenClaim := { program := "ytaedgekdhpiieaa", sum := "4f3f3d3ea27973e60a600e0b6a05089c91b0ee256119e0b54853582232773a5e", func := "loop.example/g00039/laws.FnExactDownSamples", spec := "fnExactDownSamples", unfollowed := true, recurses := true, apart := false }
def FnExactDownSamplesSaid : Prop := fnExactDownSamplesRow.holds Try.pinned (OpenSpec.ofChange fnExactDownSamplesSpec)

/-- ITS FALSE NEIGHBOUR: 'it returns false'. Refute it at one input. -/
def fnExactDownSamplesWrong : ChangeSpec := { name := "fnExactDownSamples", fn := fun _ => fun
  | [d1, d2] => { results := [.lit (.bool false)], args := [d1, d2] }
  | _ => none }
def FnExactDownSamplesWrongFalsely : Prop := fnExactDownSamplesRow.holds Try.pinned (OpenSpec.ofChange fnExactDownSamplesWrong)

/- THE SECOND FORM. 'bulk': how many values and letters a reading holds, each counted each time it is reached (what is shared counts as often as it is met; a slice's spare places count too). A statement '..UptoSaid' is the law's where the arguments, and the package variables that the reading takes, are together of bulk at most 1048576: NARROWER than '..Said'. Prove '..Said' where nothing that the law and all that it calls make is longer than what came in: it says more and counts as full. Else prove '..UptoSaid'. A law counts once. -/
mutual
def uptoBulk {H : Type} : DataW H → Nat
  | .lit (.string bytes) => bytes.length + 1
  | .lit _ => 1
  | .nil => 1
  | .ptr d => uptoBulk d + 1
  | .slice elems spare => uptoBulkAll elems + uptoBulkAll spare + 1
  | .agg parts => uptoBulkAll parts + 1
  | .iface _ d => uptoBulk d + 1
  | .map entries => uptoBulkEntries entries + 1
  | .held _ => 1
def uptoBulkAll {H : Type} : List (DataW H) → Nat
  | [] => 0
  | d :: r => uptoBulk d + uptoBulkAll r
def uptoBulkEntries {H : Type} : List (Lit × DataW H) → Nat
  | [] => 0
  | x :: r => uptoBulkEntry x + uptoBulkEntries r
def uptoBulkEntry {H : Type} : Lit × DataW H → Nat
  | (.string bytes, d) => bytes.length + uptoBulk d + 1
  | (_, d) => uptoBulk d + 1
 end
def uptoSmall : (H : Type) → List (DataW H) → Bool := fun _ ds => decide (uptoBulkAll ds ≤ 1048576)
def OpenSpec.upto (s : _root_.Go.ChangeSpec) : _root_.Go.OpenSpec := { _root_.Go.OpenSpec.ofChange s with cond := some uptoSmall }

/-- 'laws.FnDown', WHERE WHAT IT READS IS OF BULK AT MOST 1048576: true; the input reads as it did. -/
def fnDownUptoRow : OpenClaim := { program := "ytaedgekdhpiieaa", sum := "4f3f3d3ea27973e60a600e0b6a05089c91b0ee256119e0b54853582232773a5e", func := "loop.example/g00039/laws.FnDown", spec := "fnDown", unfollowed := true, recurses := true, apart := false, narrowed := true }
def FnDownUptoSaid : Prop := fnDownUptoRow.holds Try.pinned (OpenSpec.upto fnDownSpec)

/-- 'laws.FnAggs', WHERE WHAT IT READS IS OF BULK AT MOST 1048576: true; the input reads as it did. -/
def fnAggsUptoRow : OpenClaim := { program := "ytaedgekdhpiieaa", sum := "4f3f3d3ea27973e60a600e0b6a05089c91b0ee256119e0b54853582232773a5e", func := "loop.example/g00039/laws.FnAggs", spec := "fnAggs", apart := false, narrowed := true }
def FnAggsUptoSaid : Prop := fnAggsUptoRow.holds Try.pinned (OpenSpec.upto fnAggsSpec)

/-- 'laws.FnExactDownSamples', WHERE WHAT IT READS IS OF BULK AT MOST 1048576: true; the input reads as it did. -/
def fnExactDownSamplesUptoRow : OpenClaim := { program := "ytaedgekdhpiieaa", sum := "4f3f3d3ea27973e60a600e0b6a05089c91b0ee256119e0b54853582232773a5e", func := "loop.example/g00039/laws.FnExactDownSamples", spec := "fnExactDownSamples", unfollowed := true, recurses := true, apart := false, narrowed := true }
def FnExactDownSamplesUptoSaid : Prop := fnExactDownSamplesUptoRow.holds Try.pinned (OpenSpec.upto fnExactDownSamplesSpec)

end Rows
end Go.Proofs.Ytaedgekdhpiieaa
