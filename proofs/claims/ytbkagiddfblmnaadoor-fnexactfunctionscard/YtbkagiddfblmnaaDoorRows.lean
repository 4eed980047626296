/-
  NARROWER THAN 'FOR EVERY INPUT', by the rows' own cells (each row's printed sentence says how): FnExactFunctions: laid.
  DERIVED. THE GIVEN ROWS OF THIS SEAT. 1 by the template 'for every input the law returns true; each argument reads behind the call as it read before'; 0 by the template 'total and deterministic' (their statements: YtbkagiddfblmnaaDoorTotals.lean).
  GIVEN WITH THE SEED: the statements are not yours to turn. If you find one false, say at which input.
  Laid BY PROGRAM, IN A SANDBOX (cutbox-rows.mjs): the forced cells as the released guide's own fill.sh prints them over the translation 56e47196f19530ba… (all of the seat's roots in one cut). By AI agents, Wed Nov 11 2026. No macro, syntax, notation, axiom, sorry.
-/
import Derived.Test.YtbkagiddfblmnaaDoorChecked
import GoSem.Claim
import GoSem.ClaimJoined
import GoSem.ClaimMapViews
import Derived.JoinedTies
import Derived.KernelRfl
namespace Go.Proofs.YtbkagiddfblmnaaDoor
/- THE CELL 'sum', in the pinned program and in every row, IS THE sha256 OF THE DUMP (.gsa) THAT YtbkagiddfblmnaaDoorProg.lean LOADS. Nothing in Lean hashes anything: it is a label: what it is worth is what the hold of that sum in a sandbox is worth. -/
noncomputable def Tryd.pinned : Pinned := { name := "ytbkagiddfblmnaadoor", sum := "56e47196f19530baebc06396112f5243280d82be7db7e93c7d3fc8005eaead7e", checked := Tryd.checked }
namespace Rows
def none {H : Type} : Left H := { results := [], args := [] }

/- WHAT THE LISTED PACKAGE-LEVEL VARIABLES READ AS WHEN THE CALL BEGINS. Each datum BY PROGRAM (the guide's laid-datum.mjs) off the statement by which the dump's own 'gosem.cut.vars' lays the variable. In a bare row this is a premise. The card (YtbkagiddfblmnaaDoorCards.lean) ties it to the program's text. -/
def laid_loop_example_g00039_impl_functionShapes {H : Type} : DataW H := .agg [.agg [.lit (.string [97, 98, 115]), .lit (.string [118, 101, 99, 116, 111, 114]), .lit (.string [118, 101, 99, 116, 111, 114]), .lit (.bool false)], .agg [.lit (.string [97, 98, 115, 101, 110, 116]), .lit (.string [118, 101, 99, 116, 111, 114]), .lit (.string [118, 101, 99, 116, 111, 114]), .lit (.bool false)], .agg [.lit (.string [97, 118, 103, 95, 111, 118, 101, 114]), .lit (.string [114, 97, 110, 103, 101]), .lit (.string [118, 101, 99, 116, 111, 114]), .lit (.bool false)], .agg [.lit (.string [99, 104, 97, 110, 103, 101, 115]), .lit (.string [114, 97, 110, 103, 101]), .lit (.string [118, 101, 99, 116, 111, 114]), .lit (.bool false)], .agg [.lit (.string [99, 108, 97, 109, 112]), .lit (.string [118, 101, 99, 116, 111, 114, 32, 110, 117, 109, 98, 101, 114, 32, 110, 117, 109, 98, 101, 114]), .lit (.string [118, 101, 99, 116, 111, 114]), .lit (.bool false)], .agg [.lit (.string [99, 111, 117, 110, 116, 95, 111, 118, 101, 114]), .lit (.string [114, 97, 110, 103, 101]), .lit (.string [118, 101, 99, 116, 111, 114]), .lit (.bool false)], .agg [.lit (.string [100, 101, 108, 116, 97]), .lit (.string [114, 97, 110, 103, 101]), .lit (.string [118, 101, 99, 116, 111, 114]), .lit (.bool false)], .agg [.lit (.string [104, 105, 115, 116, 95, 113, 117, 97, 110, 116, 105, 108, 101]), .lit (.string [110, 117, 109, 98, 101, 114, 32, 118, 101, 99, 116, 111, 114]), .lit (.string [118, 101, 99, 116, 111, 114]), .lit (.bool false)], .agg [.lit (.string [108, 97, 98, 101, 108, 95, 106, 111, 105, 110]), .lit (.string [118, 101, 99, 116, 111, 114, 32, 116, 101, 120, 116, 32, 116, 101, 120, 116, 32, 116, 101, 120, 116]), .lit (.string [118, 101, 99, 116, 111, 114]), .lit (.bool true)], .agg [.lit (.string [108, 97, 98, 101, 108, 95, 115, 101, 116]), .lit (.string [118, 101, 99, 116, 111, 114, 32, 116, 101, 120, 116, 32, 116, 101, 120, 116, 32, 116, 101, 120, 116, 32, 116, 101, 120, 116]), .lit (.string [118, 101, 99, 116, 111, 114]), .lit (.bool false)], .agg [.lit (.string [108, 97, 115, 116, 95, 111, 118, 101, 114]), .lit (.string [114, 97, 110, 103, 101]), .lit (.string [118, 101, 99, 116, 111, 114]), .lit (.bool false)], .agg [.lit (.string [109, 97, 120, 95, 111, 118, 101, 114]), .lit (.string [114, 97, 110, 103, 101]), .lit (.string [118, 101, 99, 116, 111, 114]), .lit (.bool false)], .agg [.lit (.string [109, 105, 110, 95, 111, 118, 101, 114]), .lit (.string [114, 97, 110, 103, 101]), .lit (.string [118, 101, 99, 116, 111, 114]), .lit (.bool false)], .agg [.lit (.string [112, 114, 101, 100, 105, 99, 116]), .lit (.string [114, 97, 110, 103, 101, 32, 110, 117, 109, 98, 101, 114]), .lit (.string [118, 101, 99, 116, 111, 114]), .lit (.bool false)], .agg [.lit (.string [113, 117, 97, 110, 116, 105, 108, 101, 95, 111, 118, 101, 114]), .lit (.string [110, 117, 109, 98, 101, 114, 32, 114, 97, 110, 103, 101]), .lit (.string [118, 101, 99, 116, 111, 114]), .lit (.bool false)], .agg [.lit (.string [114, 97, 116, 101]), .lit (.string [114, 97, 110, 103, 101]), .lit (.string [118, 101, 99, 116, 111, 114]), .lit (.bool false)], .agg [.lit (.string [114, 101, 115, 101, 116, 115]), .lit (.string [114, 97, 110, 103, 101]), .lit (.string [118, 101, 99, 116, 111, 114]), .lit (.bool false)], .agg [.lit (.string [114, 105, 115, 101]), .lit (.string [114, 97, 110, 103, 101]), .lit (.string [118, 101, 99, 116, 111, 114]), .lit (.bool false)], .agg [.lit (.string [115, 99, 97, 108, 97, 114]), .lit (.string [118, 101, 99, 116, 111, 114]), .lit (.string [110, 117, 109, 98, 101, 114]), .lit (.bool false)], .agg [.lit (.string [115, 117, 109, 95, 111, 118, 101, 114]), .lit (.string [114, 97, 110, 103, 101]), .lit (.string [118, 101, 99, 116, 111, 114]), .lit (.bool false)], .agg [.lit (.string [116, 105, 109, 101]), .lit (.string []), .lit (.string [110, 117, 109, 98, 101, 114]), .lit (.bool false)], .agg [.lit (.string [116, 105, 109, 101, 115, 116, 97, 109, 112]), .lit (.string [118, 101, 99, 116, 111, 114]), .lit (.string [118, 101, 99, 116, 111, 114]), .lit (.bool false)], .agg [.lit (.string [118, 101, 99, 116, 111, 114]), .lit (.string [110, 117, 109, 98, 101, 114]), .lit (.string [118, 101, 99, 116, 111, 114]), .lit (.bool false)]]

/-- 'laws.FnExactFunctions': WHATEVER THE INPUT: true; the input reads as it did. -/
def fnExactFunctionsSpec : ChangeSpec := { name := "fnExactFunctions", vars := ["loop.example/g00039/impl.functionShapes"], fn := fun _ => fun
  | [g1] => { results := [.lit (.bool true)], args := [], vars := [g1] }
  | _ => none }
def fnExactFunctionsRow : OpenClaim := { program := "ytbkagiddfblmnaadoor", sum := "56e47196f19530baebc06396112f5243280d82be7db7e93c7d3fc8005eaead7e", func := "loop.example/g00039/laws.FnExactFunctions", spec := "fnExactFunctions", named := ["loop.example/g00039/impl.functionShapes"], apart := false, laid := [("loop.example/g00039/impl.functionShapes", laid_loop_example_g00039_impl_functionShapes)] }
def FnExactFunctionsSaid : Prop := fnExactFunctionsRow.holds Tryd.pinned (OpenSpec.ofChange fnExactFunctionsSpec)

/-- ITS FALSE NEIGHBOUR: 'it returns false'. Refute it at one input. -/
def fnExactFunctionsWrong : ChangeSpec := { name := "fnExactFunctions", vars := ["loop.example/g00039/impl.functionShapes"], fn := fun _ => fun
  | [g1] => { results := [.lit (.bool false)], args := [], vars := [g1] }
  | _ => none }
def FnExactFunctionsWrongFalsely : Prop := fnExactFunctionsRow.holds Tryd.pinned (OpenSpec.ofChange fnExactFunctionsWrong)

/- THE SECOND FORM. 'bulk': how many values and letters a reading holds, each counted each time it is reached (what is shared counts as often as it is met; a slice's spare places count too). A statement '..UptoSaid' is the law's where the arguments, and the package variables that the reading takes, are together of bulk at most 1048576: NARROWER than '..Said'. Prove '..Said' where nothing that the law and all that it calls make is longer than what came in: it says more and counts as full. Else prove '..UptoSaid'. A law counts once. -/
mutual
def uptoBulk {H : Type} : DataW H → Nat
  | .lit (.string bytes) => bytes.length + 1
  | .lit _ => 1
  | .nil => 1
  | .ptr d => uptoBulk d + 1
  | .slice elems spare => uptoBulkAll elems + uptoBulkAll spare + 1
  | .agg parts => uptoBulkAll parts + 1
  | .iface _ d => uptoBulk d + 1
  | .map entries => uptoBulkEntries entries + 1
  | .held _ => 1
def uptoBulkAll {H : Type} : List (DataW H) → Nat
  | [] => 0
  | d :: r => uptoBulk d + uptoBulkAll r
def uptoBulkEntries {H : Type} : List (Lit × DataW H) → Nat
  | [] => 0
  | x :: r => uptoBulkEntry x + uptoBulkEntries r
def uptoBulkEntry {H : Type} : Lit × DataW H → Nat
  | (.string bytes, d) => bytes.length + uptoBulk d + 1
  | (_, d) => uptoBulk d + 1
 end
def uptoSmall : (H : Type) → List (DataW H) → Bool := fun _ ds => decide (uptoBulkAll ds ≤ 1048576)
def OpenSpec.upto (s : _root_.Go.ChangeSpec) : _root_.Go.OpenSpec := { _root_.Go.OpenSpec.ofChange s with cond := some uptoSmall }

/-- 'laws.FnExactFunctions', WHERE WHAT IT READS IS OF BULK AT MOST 1048576: true; the input reads as it did. -/
def fnExactFunctionsUptoRow : OpenClaim := { program := "ytbkagiddfblmnaadoor", sum := "56e47196f19530baebc06396112f5243280d82be7db7e93c7d3fc8005eaead7e", func := "loop.example/g00039/laws.FnExactFunctions", spec := "fnExactFunctions", named := ["loop.example/g00039/impl.functionShapes"], apart := false, laid := [("loop.example/g00039/impl.functionShapes", laid_loop_example_g00039_impl_functionShapes)], narrowed := true }
def FnExactFunctionsUptoSaid : Prop := fnExactFunctionsUptoRow.holds Tryd.pinned (OpenSpec.upto fnExactFunctionsSpec)

end Rows
end Go.Proofs.YtbkagiddfblmnaaDoor
