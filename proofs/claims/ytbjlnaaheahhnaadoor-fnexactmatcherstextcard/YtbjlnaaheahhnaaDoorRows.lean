/-
  NARROWER THAN 'FOR EVERY INPUT', by the rows' own cells (each row's printed sentence says how): FnExactMatchersText: laid · FnExactReadMatchers: laid.
  DERIVED. THE GIVEN ROWS OF THIS SEAT. 2 by the template 'for every input the law returns true; each argument reads behind the call as it read before'; 0 by the template 'total and deterministic' (their statements: YtbjlnaaheahhnaaDoorTotals.lean).
  GIVEN WITH THE SEED: the statements are not yours to turn. If you find one false, say at which input.
  Laid BY PROGRAM, IN A SANDBOX (cutbox-rows.mjs): the forced cells as the released guide's own fill.sh prints them over the translation eabc13b5cf7ad61f… (all of the seat's roots in one cut). By AI agents, Wed Nov 11 2026. No macro, syntax, notation, axiom, sorry.
-/
import Derived.Test.YtbjlnaaheahhnaaDoorChecked
import GoSem.Claim
import GoSem.ClaimJoined
import GoSem.ClaimMapViews
import Derived.JoinedTies
import Derived.KernelRfl
namespace Go.Proofs.YtbjlnaaheahhnaaDoor
/- THE CELL 'sum', in the pinned program and in every row, IS THE sha256 OF THE DUMP (.gsa) THAT YtbjlnaaheahhnaaDoorProg.lean LOADS. Nothing in Lean hashes anything: it is a label: what it is worth is what the hold of that sum in a sandbox is worth. -/
noncomputable def Tryd.pinned : Pinned := { name := "ytbjlnaaheahhnaadoor", sum := "eabc13b5cf7ad61fe4a2641c8d0c59c931e06c48e02c19292e166932481c7e1d", checked := Tryd.checked }
namespace Rows
def none {H : Type} : Left H := { results := [], args := [] }

/- WHAT THE LISTED PACKAGE-LEVEL VARIABLES READ AS WHEN THE CALL BEGINS. Each datum BY PROGRAM (the guide's laid-datum.mjs) off the statement by which the dump's own 'gosem.cut.vars' lays the variable. In a bare row this is a premise. The card (YtbjlnaaheahhnaaDoorCards.lean) ties it to the program's text. -/
def laid_loop_example_g00039_impl_matchSigns {H : Type} : DataW H := .agg [.lit (.string []), .lit (.string [61]), .lit (.string [33, 61]), .lit (.string [61, 126]), .lit (.string [33, 126])]

/-- 'laws.FnExactMatchersText': WHATEVER THE INPUT: true; the input reads as it did. -/
def fnExactMatchersTextSpec : ChangeSpec := { name := "fnExactMatchersText", vars := ["loop.example/g00039/impl.matchSigns"], fn := fun _ => fun
  | [d, g1] => { results := [.lit (.bool true)], args := [d], vars := [g1] }
  | _ => none }
def fnExactMatchersTextRow : OpenClaim := { program := "ytbjlnaaheahhnaadoor", sum := "eabc13b5cf7ad61fe4a2641c8d0c59c931e06c48e02c19292e166932481c7e1d", func := "loop.example/g00039/laws.FnExactMatchersText", spec := "fnExactMatchersText", inPlace := ["internal/bytealg.IndexByteString", "internal/abi.NoEscape", "internal/bytealg.MakeNoZero"], unfollowed := true, recurses := true, named := ["loop.example/g00039/impl.matchSigns"], apart := false, laid := [("loop.example/g00039/impl.matchSigns", laid_loop_example_g00039_impl_matchSigns)] }
def FnExactMatchersTextSaid : Prop := fnExactMatchersTextRow.holds Tryd.pinned (OpenSpec.ofChange fnExactMatchersTextSpec)

/-- ITS FALSE NEIGHBOUR: 'it returns false'. Refute it at one input. -/
def fnExactMatchersTextWrong : ChangeSpec := { name := "fnExactMatchersText", vars := ["loop.example/g00039/impl.matchSigns"], fn := fun _ => fun
  | [d, g1] => { results := [.lit (.bool false)], args := [d], vars := [g1] }
  | _ => none }
def FnExactMatchersTextWrongFalsely : Prop := fnExactMatchersTextRow.holds Tryd.pinned (OpenSpec.ofChange fnExactMatchersTextWrong)

/-- 'laws.FnExactReadMatchers': WHATEVER THE INPUT: true; the input reads as it did. -/
def fnExactReadMatchersSpec : ChangeSpec := { name := "fnExactReadMatchers", vars := ["loop.example/g00039/impl.matchSigns"], fn := fun _ => fun
  | [d, g1] => { results := [.lit (.bool true)], args := [d], vars := [g1] }
  | _ => none }
def fnExactReadMatchersRow : OpenClaim := { program := "ytbjlnaaheahhnaadoor", sum := "eabc13b5cf7ad61fe4a2641c8d0c59c931e06c48e02c19292e166932481c7e1d", func := "loop.example/g00039/laws.FnExactReadMatchers", spec := "fnExactReadMatchers", inPlace := ["internal/abi.NoEscape", "internal/bytealg.IndexByteString"], unfollowed := true, recurses := true, named := ["loop.example/g00039/impl.matchSigns"], apart := false, laid := [("loop.example/g00039/impl.matchSigns", laid_loop_example_g00039_impl_matchSigns)] }
def FnExactReadMatchersSaid : Prop := fnExactReadMatchersRow.holds Tryd.pinned (OpenSpec.ofChange fnExactReadMatchersSpec)

/-- ITS FALSE NEIGHBOUR: 'it returns false'. Refute it at one input. -/
def fnExactReadMatchersWrong : ChangeSpec := { name := "fnExactReadMatchers", vars := ["loop.example/g00039/impl.matchSigns"], fn := fun _ => fun
  | [d, g1] => { results := [.lit (.bool false)], args := [d], vars := [g1] }
  | _ => none }
def FnExactReadMatchersWrongFalsely : Prop := fnExactReadMatchersRow.holds Tryd.pinned (OpenSpec.ofChange fnExactReadMatchersWrong)

/- THE SECOND FORM. 'bulk': how many values and letters a reading holds, each counted each time it is reached (what is shared counts as often as it is met; a slice's spare places count too). A statement '..UptoSaid' is the law's where the arguments, and the package variables that the reading takes, are together of bulk at most 1048576: NARROWER than '..Said'. Prove '..Said' where nothing that the law and all that it calls make is longer than what came in: it says more and counts as full. Else prove '..UptoSaid'. A law counts once. -/
mutual
def uptoBulk {H : Type} : DataW H → Nat
  | .lit (.string bytes) => bytes.length + 1
  | .lit _ => 1
  | .nil => 1
  | .ptr d => uptoBulk d + 1
  | .slice elems spare => uptoBulkAll elems + uptoBulkAll spare + 1
  | .agg parts => uptoBulkAll parts + 1
  | .iface _ d => uptoBulk d + 1
  | .map entries => uptoBulkEntries entries + 1
  | .held _ => 1
def uptoBulkAll {H : Type} : List (DataW H) → Nat
  | [] => 0
  | d :: r => uptoBulk d + uptoBulkAll r
def uptoBulkEntries {H : Type} : List (Lit × DataW H) → Nat
  | [] => 0
  | x :: r => uptoBulkEntry x + uptoBulkEntries r
def uptoBulkEntry {H : Type} : Lit × DataW H → Nat
  | (.string bytes, d) => bytes.length + uptoBulk d + 1
  | (_, d) => uptoBulk d + 1
 end
def uptoSmall : (H : Type) → List (DataW H) → Bool := fun _ ds => decide (uptoBulkAll ds ≤ 1048576)
def OpenSpec.upto (s : _root_.Go.ChangeSpec) : _root_.Go.OpenSpec := { _root_.Go.OpenSpec.ofChange s with cond := some uptoSmall }

/-- 'laws.FnExactMatchersText', WHERE WHAT IT READS IS OF BULK AT MOST 1048576: true; the input reads as it did. -/
def fnExactMatchersTextUptoRow : OpenClaim := { program := "ytbjlnaaheahhnaadoor", sum := "eabc13b5cf7ad61fe4a2641c8d0c59c931e06c48e02c19292e166932481c7e1d", func := "loop.example/g00039/laws.FnExactMatchersText", spec := "fnExactMatchersText", inPlace := ["internal/bytealg.IndexByteString", "internal/abi.NoEscape", "internal/bytealg.MakeNoZero"], unfollowed := true, recurses := true, named := ["loop.example/g00039/impl.matchSigns"], apart := false, laid := [("loop.example/g00039/impl.matchSigns", laid_loop_example_g00039_impl_matchSigns)], narrowed := true }
def FnExactMatchersTextUptoSaid : Prop := fnExactMatchersTextUptoRow.holds Tryd.pinned (OpenSpec.upto fnExactMatchersTextSpec)

/-- 'laws.FnExactReadMatchers', WHERE WHAT IT READS IS OF BULK AT MOST 1048576: true; the input reads as it did. -/
def fnExactReadMatchersUptoRow : OpenClaim := { program := "ytbjlnaaheahhnaadoor", sum := "eabc13b5cf7ad61fe4a2641c8d0c59c931e06c48e02c19292e166932481c7e1d", func := "loop.example/g00039/laws.FnExactReadMatchers", spec := "fnExactReadMatchers", inPlace := ["internal/abi.NoEscape", "internal/bytealg.IndexByteString"], unfollowed := true, recurses := true, named := ["loop.example/g00039/impl.matchSigns"], apart := false, laid := [("loop.example/g00039/impl.matchSigns", laid_loop_example_g00039_impl_matchSigns)], narrowed := true }
def FnExactReadMatchersUptoSaid : Prop := fnExactReadMatchersUptoRow.holds Tryd.pinned (OpenSpec.upto fnExactReadMatchersSpec)

end Rows
end Go.Proofs.YtbjlnaaheahhnaaDoor
