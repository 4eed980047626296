/-
  NARROWER THAN 'FOR EVERY INPUT', by the rows' own cells (each row's printed sentence says how): FnExactGoodNotify: laid · FnExactGoodMembers: laid · FnExactMutedAt: laid.
  DERIVED. THE GIVEN ROWS OF THIS SEAT. 3 by the template 'for every input the law returns true; each argument reads behind the call as it read before'; 0 by the template 'total and deterministic' (their statements: YthcogkoleiejgaaGreatDoorTotals.lean).
  GIVEN WITH THE SEED: the statements are not yours to turn. If you find one false, say at which input.
  Laid BY PROGRAM, IN A SANDBOX (cutbox-rows.mjs): the forced cells as the released guide's own fill.sh prints them over the translation 7616f6168d59040a… (all of the seat's roots in one cut). By AI agents, Wed Nov 11 2026. No macro, syntax, notation, axiom, sorry.
-/
import Derived.Test.YthcogkoleiejgaaGreatDoorChecked
import GoSem.Claim
import GoSem.ClaimJoined
import GoSem.ClaimMapViews
import Derived.JoinedTies
import Derived.KernelRfl
namespace Go.Proofs.YthcogkoleiejgaaGreatDoor
/- THE CELL 'sum', in the pinned program and in every row, IS THE sha256 OF THE DUMP (.gsa) THAT YthcogkoleiejgaaGreatDoorProg.lean LOADS. Nothing in Lean hashes anything: it is a label: what it is worth is what the hold of that sum in a sandbox is worth. -/
noncomputable def Tryz.pinned : Pinned := { name := "ythcogkoleiejgaagreatdoor", sum := "7616f6168d59040afc4304153f2cd4bc8d5d1d9193384d2aacdb69d6b554c1ea", checked := Tryz.checked }
namespace Rows
def none {H : Type} : Left H := { results := [], args := [] }

/- WHAT THE LISTED PACKAGE-LEVEL VARIABLES READ AS WHEN THE CALL BEGINS. Each datum BY PROGRAM (the guide's laid-datum.mjs) off the statement by which the dump's own 'gosem.cut.vars' lays the variable. In a bare row this is a premise. The card (YthcogkoleiejgaaGreatDoorCards.lean) ties it to the program's text. -/
def laid_loop_example_g00039_impl_rangeLimits {H : Type} : DataW H := .agg [.agg [.lit (.int .i64 0), .lit (.int .i64 1439)], .agg [.lit (.int .i64 0), .lit (.int .i64 6)], .agg [.lit (.int .i64 (-31)), .lit (.int .i64 31)], .agg [.lit (.int .i64 1), .lit (.int .i64 12)], .agg [.lit (.int .i64 1970), .lit (.int .i64 40000)]]
def laid_loop_example_g00039_impl_monthDays {H : Type} : DataW H := .agg [.lit (.int .i64 31), .lit (.int .i64 28), .lit (.int .i64 31), .lit (.int .i64 30), .lit (.int .i64 31), .lit (.int .i64 30), .lit (.int .i64 31), .lit (.int .i64 31), .lit (.int .i64 30), .lit (.int .i64 31), .lit (.int .i64 30), .lit (.int .i64 31)]

/-- 'laws.FnExactGoodNotify': WHATEVER THE INPUT: true; the input reads as it did. -/
def fnExactGoodNotifySpec : ChangeSpec := { name := "fnExactGoodNotify", vars := ["loop.example/g00039/impl.rangeLimits"], fn := fun _ => fun
  | [d, g1] => { results := [.lit (.bool true)], args := [d], vars := [g1] }
  | _ => none }
def fnExactGoodNotifyRow : OpenClaim := { program := "ythcogkoleiejgaagreatdoor", sum := "7616f6168d59040afc4304153f2cd4bc8d5d1d9193384d2aacdb69d6b554c1ea", func := "loop.example/g00039/laws.FnExactGoodNotify", spec := "fnExactGoodNotify", inPlace := ["internal/bytealg.IndexByteString", "internal/bytealg.abigen_runtime_cmpstring"], unfollowed := true, recurses := true, named := ["loop.example/g00039/impl.rangeLimits"], apart := false, laid := [("loop.example/g00039/impl.rangeLimits", laid_loop_example_g00039_impl_rangeLimits)] }
def FnExactGoodNotifySaid : Prop := fnExactGoodNotifyRow.holds Tryz.pinned (OpenSpec.ofChange fnExactGoodNotifySpec)

/-- ITS FALSE NEIGHBOUR: 'it returns false'. Refute it at one input. -/
def fnExactGoodNotifyWrong : ChangeSpec := { name := "fnExactGoodNotify", vars := ["loop.example/g00039/impl.rangeLimits"], fn := fun _ => fun
  | [d, g1] => { results := [.lit (.bool false)], args := [d], vars := [g1] }
  | _ => none }
def FnExactGoodNotifyWrongFalsely : Prop := fnExactGoodNotifyRow.holds Tryz.pinned (OpenSpec.ofChange fnExactGoodNotifyWrong)

/-- 'laws.FnExactGoodMembers': WHATEVER THE INPUT: true; the input reads as it did. -/
def fnExactGoodMembersSpec : ChangeSpec := { name := "fnExactGoodMembers", vars := ["loop.example/g00039/impl.rangeLimits"], fn := fun _ => fun
  | [d1, d2, g1] => { results := [.lit (.bool true)], args := [d1, d2], vars := [g1] }
  | _ => none }
def fnExactGoodMembersRow : OpenClaim := { program := "ythcogkoleiejgaagreatdoor", sum := "7616f6168d59040afc4304153f2cd4bc8d5d1d9193384d2aacdb69d6b554c1ea", func := "loop.example/g00039/laws.FnExactGoodMembers", spec := "fnExactGoodMembers", inPlace := ["internal/bytealg.IndexByteString", "internal/bytealg.abigen_runtime_cmpstring"], unfollowed := true, recurses := true, named := ["loop.example/g00039/impl.rangeLimits"], apart := false, laid := [("loop.example/g00039/impl.rangeLimits", laid_loop_example_g00039_impl_rangeLimits)] }
def FnExactGoodMembersSaid : Prop := fnExactGoodMembersRow.holds Tryz.pinned (OpenSpec.ofChange fnExactGoodMembersSpec)

/-- ITS FALSE NEIGHBOUR: 'it returns false'. Refute it at one input. -/
def fnExactGoodMembersWrong : ChangeSpec := { name := "fnExactGoodMembers", vars := ["loop.example/g00039/impl.rangeLimits"], fn := fun _ => fun
  | [d1, d2, g1] => { results := [.lit (.bool false)], args := [d1, d2], vars := [g1] }
  | _ => none }
def FnExactGoodMembersWrongFalsely : Prop := fnExactGoodMembersRow.holds Tryz.pinned (OpenSpec.ofChange fnExactGoodMembersWrong)

/-- 'laws.FnExactMutedAt': WHATEVER THE INPUT: true; the input reads as it did. -/
def fnExactMutedAtSpec : ChangeSpec := { name := "fnExactMutedAt", vars := ["loop.example/g00039/impl.rangeLimits", "loop.example/g00039/impl.monthDays"], fn := fun _ => fun
  | [d1, d2, d3, g1, g2] => { results := [.lit (.bool true)], args := [d1, d2, d3], vars := [g1, g2] }
  | _ => none }
def fnExactMutedAtRow : OpenClaim := { program := "ythcogkoleiejgaagreatdoor", sum := "7616f6168d59040afc4304153f2cd4bc8d5d1d9193384d2aacdb69d6b554c1ea", func := "loop.example/g00039/laws.FnExactMutedAt", spec := "fnExactMutedAt", inPlace := ["internal/bytealg.IndexByteString", "internal/bytealg.abigen_runtime_cmpstring"], unfollowed := true, recurses := true, named := ["loop.example/g00039/impl.rangeLimits", "loop.example/g00039/impl.monthDays"], apart := false, laid := [("loop.example/g00039/impl.monthDays", laid_loop_example_g00039_impl_monthDays), ("loop.example/g00039/impl.rangeLimits", laid_loop_example_g00039_impl_rangeLimits)] }
def FnExactMutedAtSaid : Prop := fnExactMutedAtRow.holds Tryz.pinned (OpenSpec.ofChange fnExactMutedAtSpec)

/-- ITS FALSE NEIGHBOUR: 'it returns false'. Refute it at one input. -/
def fnExactMutedAtWrong : ChangeSpec := { name := "fnExactMutedAt", vars := ["loop.example/g00039/impl.rangeLimits", "loop.example/g00039/impl.monthDays"], fn := fun _ => fun
  | [d1, d2, d3, g1, g2] => { results := [.lit (.bool false)], args := [d1, d2, d3], vars := [g1, g2] }
  | _ => none }
def FnExactMutedAtWrongFalsely : Prop := fnExactMutedAtRow.holds Tryz.pinned (OpenSpec.ofChange fnExactMutedAtWrong)

/- THE SECOND FORM. 'bulk': how many values and letters a reading holds, each counted each time it is reached (what is shared counts as often as it is met; a slice's spare places count too). A statement '..UptoSaid' is the law's where the arguments, and the package variables that the reading takes, are together of bulk at most 1048576: NARROWER than '..Said'. Prove '..Said' where nothing that the law and all that it calls make is longer than what came in: it says more and counts as full. Else prove '..UptoSaid'. A law counts once. -/
mutual
def uptoBulk {H : Type} : DataW H → Nat
  | .lit (.string bytes) => bytes.length + 1
  | .lit _ => 1
  | .nil => 1
  | .ptr d => uptoBulk d + 1
  | .slice elems spare => uptoBulkAll elems + uptoBulkAll spare + 1
  | .agg parts => uptoBulkAll parts + 1
  | .iface _ d => uptoBulk d + 1
  | .map entries => uptoBulkEntries entries + 1
  | .held _ => 1
def uptoBulkAll {H : Type} : List (DataW H) → Nat
  | [] => 0
  | d :: r => uptoBulk d + uptoBulkAll r
def uptoBulkEntries {H : Type} : List (Lit × DataW H) → Nat
  | [] => 0
  | x :: r => uptoBulkEntry x + uptoBulkEntries r
def uptoBulkEntry {H : Type} : Lit × DataW H → Nat
  | (.string bytes, d) => bytes.length + uptoBulk d + 1
  | (_, d) => uptoBulk d + 1
 end
def uptoSmall : (H : Type) → List (DataW H) → Bool := fun _ ds => decide (uptoBulkAll ds ≤ 1048576)
def OpenSpec.upto (s : _root_.Go.ChangeSpec) : _root_.Go.OpenSpec := { _root_.Go.OpenSpec.ofChange s with cond := some uptoSmall }

/-- 'laws.FnExactGoodNotify', WHERE WHAT IT READS IS OF BULK AT MOST 1048576: true; the input reads as it did. -/
def fnExactGoodNotifyUptoRow : OpenClaim := { program := "ythcogkoleiejgaagreatdoor", sum := "7616f6168d59040afc4304153f2cd4bc8d5d1d9193384d2aacdb69d6b554c1ea", func := "loop.example/g00039/laws.FnExactGoodNotify", spec := "fnExactGoodNotify", inPlace := ["internal/bytealg.IndexByteString", "internal/bytealg.abigen_runtime_cmpstring"], unfollowed := true, recurses := true, named := ["loop.example/g00039/impl.rangeLimits"], apart := false, laid := [("loop.example/g00039/impl.rangeLimits", laid_loop_example_g00039_impl_rangeLimits)], narrowed := true }
def FnExactGoodNotifyUptoSaid : Prop := fnExactGoodNotifyUptoRow.holds Tryz.pinned (OpenSpec.upto fnExactGoodNotifySpec)

/-- 'laws.FnExactGoodMembers', WHERE WHAT IT READS IS OF BULK AT MOST 1048576: true; the input reads as it did. -/
def fnExactGoodMembersUptoRow : OpenClaim := { program := "ythcogkoleiejgaagreatdoor", sum := "7616f6168d59040afc4304153f2cd4bc8d5d1d9193384d2aacdb69d6b554c1ea", func := "loop.example/g00039/laws.FnExactGoodMembers", spec := "fnExactGoodMembers", inPlace := ["internal/bytealg.IndexByteString", "internal/bytealg.abigen_runtime_cmpstring"], unfollowed := true, recurses := true, named := ["loop.example/g00039/impl.rangeLimits"], apart := false, laid := [("loop.example/g00039/impl.rangeLimits", laid_loop_example_g00039_impl_rangeLimits)], narrowed := true }
def FnExactGoodMembersUptoSaid : Prop := fnExactGoodMembersUptoRow.holds Tryz.pinned (OpenSpec.upto fnExactGoodMembersSpec)

/-- 'laws.FnExactMutedAt', WHERE WHAT IT READS IS OF BULK AT MOST 1048576: true; the input reads as it did. -/
def fnExactMutedAtUptoRow : OpenClaim := { program := "ythcogkoleiejgaagreatdoor", sum := "7616f6168d59040afc4304153f2cd4bc8d5d1d9193384d2aacdb69d6b554c1ea", func := "loop.example/g00039/laws.FnExactMutedAt", spec := "fnExactMutedAt", inPlace := ["internal/bytealg.IndexByteString", "internal/bytealg.abigen_runtime_cmpstring"], unfollowed := true, recurses := true, named := ["loop.example/g00039/impl.rangeLimits", "loop.example/g00039/impl.monthDays"], apart := false, laid := [("loop.example/g00039/impl.monthDays", laid_loop_example_g00039_impl_monthDays), ("loop.example/g00039/impl.rangeLimits", laid_loop_example_g00039_impl_rangeLimits)], narrowed := true }
def FnExactMutedAtUptoSaid : Prop := fnExactMutedAtUptoRow.holds Tryz.pinned (OpenSpec.upto fnExactMutedAtSpec)

end Rows
end Go.Proofs.YthcogkoleiejgaaGreatDoor
