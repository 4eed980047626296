/-
  No cell of these rows narrows 'for every input' (looked for: loops, veiled, ifaces, maps, wideKeys, modest, calm, conditions, laid).
  DERIVED. THE GIVEN ROWS OF THIS SEAT. 3 by the template 'for every input the law returns true; each argument reads behind the call as it read before'; 0 by the template 'total and deterministic' (their statements: YtaajkgaephhghaaTotals.lean).
  GIVEN WITH THE SEED: the statements are not yours to turn. If you find one false, say at which input.
  Laid BY PROGRAM, IN A SANDBOX (cutbox-rows.mjs): the forced cells as the released guide's own fill.sh prints them over the translation 735686da66c27069… (all of the seat's roots in one cut). By AI agents, Wed Nov 11 2026. No macro, syntax, notation, axiom, sorry.
-/
import Derived.Test.YtaajkgaephhghaaChecked
import GoSem.Claim
import GoSem.ClaimJoined
import GoSem.ClaimMapViews
import Derived.JoinedTies
import Derived.KernelRfl
namespace Go.Proofs.Ytaajkgaephhghaa
/- THE CELL 'sum', in the pinned program and in every row, IS THE sha256 OF THE DUMP (.gsa) THAT YtaajkgaephhghaaProg.lean LOADS. Nothing in Lean hashes anything: it is a label: what it is worth is what the hold of that sum in a sandbox is worth. -/
noncomputable def Try.pinned : Pinned := { name := "ytaajkgaephhghaa", sum := "735686da66c27069888f7fe95dbbcf6addc921a7d06497bc4bc8205f5cfb4934", checked := Try.checked }
namespace Rows
def none {H : Type} : Left H := { results := [], args := [] }

/-- 'laws.FnExactPostAnd': WHATEVER THE INPUT: true; the input reads as it did. -/
def fnExactPostAndSpec : ChangeSpec := { name := "fnExactPostAnd", fn := fun _ => fun
  | [d1, d2] => { results := [.lit (.bool true)], args := [d1, d2] }
  | _ => none }
def fnExactPostAndRow : OpenClaim := { program := "ytaajkgaephhghaa", sum := "735686da66c27069888f7fe95dbbcf6addc921a7d06497bc4bc8205f5cfb4934", func := "loop.example/g00039/laws.FnExactPostAnd", spec := "fnExactPostAnd", unfollowed := true, recurses := true, apart := false }
def FnExactPostAndSaid : Prop := fnExactPostAndRow.holds Try.pinned (OpenSpec.ofChange fnExactPostAndSpec)

/-- ITS FALSE NEIGHBOUR: 'it returns false'. Refute it at one input. -/
def fnExactPostAndWrong : ChangeSpec := { name := "fnExactPostAnd", fn := fun _ => fun
  | [d1, d2] => { results := [.lit (.bool false)], args := [d1, d2] }
  | _ => none }
def FnExactPostAndWrongFalsely : Prop := fnExactPostAndRow.holds Try.pinned (OpenSpec.ofChange fnExactPostAndWrong)

/-- 'laws.FnExactPostOr': WHATEVER THE INPUT: true; the input reads as it did. -/
def fnExactPostOrSpec : ChangeSpec := { name := "fnExactPostOr", fn := fun _ => fun
  | [d1, d2] => { results := [.lit (.bool true)], args := [d1, d2] }
  | _ => none }
def fnExactPostOrRow : OpenClaim := { program := "ytaajkgaephhghaa", sum := "735686da66c27069888f7fe95dbbcf6addc921a7d06497bc4bc8205f5cfb4934", func := "loop.example/g00039/laws.FnExactPostOr", spec := "fnExactPostOr", unfollowed := true, recurses := true, apart := false }
def FnExactPostOrSaid : Prop := fnExactPostOrRow.holds Try.pinned (OpenSpec.ofChange fnExactPostOrSpec)

/-- ITS FALSE NEIGHBOUR: 'it returns false'. Refute it at one input. -/
def fnExactPostOrWrong : ChangeSpec := { name := "fnExactPostOr", fn := fun _ => fun
  | [d1, d2] => { results := [.lit (.bool false)], args := [d1, d2] }
  | _ => none }
def FnExactPostOrWrongFalsely : Prop := fnExactPostOrRow.holds Try.pinned (OpenSpec.ofChange fnExactPostOrWrong)

/-- 'laws.FnExactPostMinus': WHATEVER THE INPUT: true; the input reads as it did. -/
def fnExactPostMinusSpec : ChangeSpec := { name := "fnExactPostMinus", fn := fun _ => fun
  | [d1, d2] => { results := [.lit (.bool true)], args := [d1, d2] }
  | _ => none }
def fnExactPostMinusRow : OpenClaim := { program := "ytaajkgaephhghaa", sum := "735686da66c27069888f7fe95dbbcf6addc921a7d06497bc4bc8205f5cfb4934", func := "loop.example/g00039/laws.FnExactPostMinus", spec := "fnExactPostMinus", unfollowed := true, recurses := true, apart := false }
def FnExactPostMinusSaid : Prop := fnExactPostMinusRow.holds Try.pinned (OpenSpec.ofChange fnExactPostMinusSpec)

/-- ITS FALSE NEIGHBOUR: 'it returns false'. Refute it at one input. -/
def fnExactPostMinusWrong : ChangeSpec := { name := "fnExactPostMinus", fn := fun _ => fun
  | [d1, d2] => { results := [.lit (.bool false)], args := [d1, d2] }
  | _ => none }
def FnExactPostMinusWrongFalsely : Prop := fnExactPostMinusRow.holds Try.pinned (OpenSpec.ofChange fnExactPostMinusWrong)

/- THE SECOND FORM. 'bulk': how many values and letters a reading holds, each counted each time it is reached (what is shared counts as often as it is met; a slice's spare places count too). A statement '..UptoSaid' is the law's where the arguments, and the package variables that the reading takes, are together of bulk at most 1048576: NARROWER than '..Said'. Prove '..Said' where nothing that the law and all that it calls make is longer than what came in: it says more and counts as full. Else prove '..UptoSaid'. A law counts once. -/
mutual
def uptoBulk {H : Type} : DataW H → Nat
  | .lit (.string bytes) => bytes.length + 1
  | .lit _ => 1
  | .nil => 1
  | .ptr d => uptoBulk d + 1
  | .slice elems spare => uptoBulkAll elems + uptoBulkAll spare + 1
  | .agg parts => uptoBulkAll parts + 1
  | .iface _ d => uptoBulk d + 1
  | .map entries => uptoBulkEntries entries + 1
  | .held _ => 1
def uptoBulkAll {H : Type} : List (DataW H) → Nat
  | [] => 0
  | d :: r => uptoBulk d + uptoBulkAll r
def uptoBulkEntries {H : Type} : List (Lit × DataW H) → Nat
  | [] => 0
  | x :: r => uptoBulkEntry x + uptoBulkEntries r
def uptoBulkEntry {H : Type} : Lit × DataW H → Nat
  | (.string bytes, d) => bytes.length + uptoBulk d + 1
  | (_, d) => uptoBulk d + 1
 end
def uptoSmall : (H : Type) → List (DataW H) → Bool := fun _ ds => decide (uptoBulkAll ds ≤ 1048576)
def OpenSpec.upto (s : _root_.Go.ChangeSpec) : _root_.Go.OpenSpec := { _root_.Go.OpenSpec.ofChange s with cond := some uptoSmall }

/-- 'laws.FnExactPostAnd', WHERE WHAT IT READS IS OF BULK AT MOST 1048576: true; the input reads as it did. -/
def fnExactPostAndUptoRow : OpenClaim := { program := "ytaajkgaephhghaa", sum := "735686da66c27069888f7fe95dbbcf6addc921a7d06497bc4bc8205f5cfb4934", func := "loop.example/g00039/laws.FnExactPostAnd", spec := "fnExactPostAnd", unfollowed := true, recurses := true, apart := false, narrowed := true }
def FnExactPostAndUptoSaid : Prop := fnExactPostAndUptoRow.holds Try.pinned (OpenSpec.upto fnExactPostAndSpec)

/-- 'laws.FnExactPostOr', WHERE WHAT IT READS IS OF BULK AT MOST 1048576: true; the input reads as it did. -/
def fnExactPostOrUptoRow : OpenClaim := { program := "ytaajkgaephhghaa", sum := "735686da66c27069888f7fe95dbbcf6addc921a7d06497bc4bc8205f5cfb4934", func := "loop.example/g00039/laws.FnExactPostOr", spec := "fnExactPostOr", unfollowed := true, recurses := true, apart := false, narrowed := true }
def FnExactPostOrUptoSaid : Prop := fnExactPostOrUptoRow.holds Try.pinned (OpenSpec.upto fnExactPostOrSpec)

/-- 'laws.FnExactPostMinus', WHERE WHAT IT READS IS OF BULK AT MOST 1048576: true; the input reads as it did. -/
def fnExactPostMinusUptoRow : OpenClaim := { program := "ytaajkgaephhghaa", sum := "735686da66c27069888f7fe95dbbcf6addc921a7d06497bc4bc8205f5cfb4934", func := "loop.example/g00039/laws.FnExactPostMinus", spec := "fnExactPostMinus", unfollowed := true, recurses := true, apart := false, narrowed := true }
def FnExactPostMinusUptoSaid : Prop := fnExactPostMinusUptoRow.holds Try.pinned (OpenSpec.upto fnExactPostMinusSpec)

end Rows
end Go.Proofs.Ytaajkgaephhghaa
