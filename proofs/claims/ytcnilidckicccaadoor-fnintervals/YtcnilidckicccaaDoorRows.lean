/-
  NARROWER THAN 'FOR EVERY INPUT', by the rows' own cells (each row's printed sentence says how): FnIntervals: laid · FnExactGoodInterval: laid · FnExactInInterval: laid.
  DERIVED. THE GIVEN ROWS OF THIS SEAT. 3 by the template 'for every input the law returns true; each argument reads behind the call as it read before'; 0 by the template 'total and deterministic' (their statements: YtcnilidckicccaaDoorTotals.lean).
  GIVEN WITH THE SEED: the statements are not yours to turn. If you find one false, say at which input.
  Laid BY PROGRAM, IN A SANDBOX (cutbox-rows.mjs): the forced cells as the released guide's own fill.sh prints them over the translation 72570edb6b08aaff… (all of the seat's roots in one cut). By AI agents, Wed Nov 11 2026. No macro, syntax, notation, axiom, sorry.
-/
import Derived.Test.YtcnilidckicccaaDoorChecked
import GoSem.Claim
import GoSem.ClaimJoined
import GoSem.ClaimMapViews
import Derived.JoinedTies
import Derived.KernelRfl
namespace Go.Proofs.YtcnilidckicccaaDoor
/- THE CELL 'sum', in the pinned program and in every row, IS THE sha256 OF THE DUMP (.gsa) THAT YtcnilidckicccaaDoorProg.lean LOADS. Nothing in Lean hashes anything: it is a label: what it is worth is what the hold of that sum in a sandbox is worth. -/
noncomputable def Tryd.pinned : Pinned := { name := "ytcnilidckicccaadoor", sum := "72570edb6b08aaffd2000731a2fd1df3306292c5943a794fe94d5324460bd6c8", checked := Tryd.checked }
namespace Rows
def none {H : Type} : Left H := { results := [], args := [] }

/- WHAT THE LISTED PACKAGE-LEVEL VARIABLES READ AS WHEN THE CALL BEGINS. Each datum BY PROGRAM (the guide's laid-datum.mjs) off the statement by which the dump's own 'gosem.cut.vars' lays the variable. In a bare row this is a premise. The card (YtcnilidckicccaaDoorCards.lean) ties it to the program's text. -/
def laid_loop_example_g00039_impl_monthDays {H : Type} : DataW H := .agg [.lit (.int .i64 31), .lit (.int .i64 28), .lit (.int .i64 31), .lit (.int .i64 30), .lit (.int .i64 31), .lit (.int .i64 30), .lit (.int .i64 31), .lit (.int .i64 31), .lit (.int .i64 30), .lit (.int .i64 31), .lit (.int .i64 30), .lit (.int .i64 31)]
def laid_loop_example_g00039_impl_rangeLimits {H : Type} : DataW H := .agg [.agg [.lit (.int .i64 0), .lit (.int .i64 1439)], .agg [.lit (.int .i64 0), .lit (.int .i64 6)], .agg [.lit (.int .i64 (-31)), .lit (.int .i64 31)], .agg [.lit (.int .i64 1), .lit (.int .i64 12)], .agg [.lit (.int .i64 1970), .lit (.int .i64 40000)]]

/-- 'laws.FnIntervals': WHATEVER THE INPUT: true; the input reads as it did. -/
def fnIntervalsSpec : ChangeSpec := { name := "fnIntervals", vars := ["loop.example/g00039/impl.rangeLimits", "loop.example/g00039/impl.monthDays"], fn := fun _ => fun
  | [d, g1, g2] => { results := [.lit (.bool true)], args := [d], vars := [g1, g2] }
  | _ => none }
def fnIntervalsRow : OpenClaim := { program := "ytcnilidckicccaadoor", sum := "72570edb6b08aaffd2000731a2fd1df3306292c5943a794fe94d5324460bd6c8", func := "loop.example/g00039/laws.FnIntervals", spec := "fnIntervals", unfollowed := true, recurses := true, named := ["loop.example/g00039/impl.rangeLimits", "loop.example/g00039/impl.monthDays"], apart := false, laid := [("loop.example/g00039/impl.monthDays", laid_loop_example_g00039_impl_monthDays), ("loop.example/g00039/impl.rangeLimits", laid_loop_example_g00039_impl_rangeLimits)] }
def FnIntervalsSaid : Prop := fnIntervalsRow.holds Tryd.pinned (OpenSpec.ofChange fnIntervalsSpec)

/-- ITS FALSE NEIGHBOUR: 'it returns false'. Refute it at one input. -/
def fnIntervalsWrong : ChangeSpec := { name := "fnIntervals", vars := ["loop.example/g00039/impl.rangeLimits", "loop.example/g00039/impl.monthDays"], fn := fun _ => fun
  | [d, g1, g2] => { results := [.lit (.bool false)], args := [d], vars := [g1, g2] }
  | _ => none }
def FnIntervalsWrongFalsely : Prop := fnIntervalsRow.holds Tryd.pinned (OpenSpec.ofChange fnIntervalsWrong)

/-- 'laws.FnExactGoodInterval': WHATEVER THE INPUT: true; the input reads as it did. -/
def fnExactGoodIntervalSpec : ChangeSpec := { name := "fnExactGoodInterval", vars := ["loop.example/g00039/impl.rangeLimits"], fn := fun _ => fun
  | [d, g1] => { results := [.lit (.bool true)], args := [d], vars := [g1] }
  | _ => none }
def fnExactGoodIntervalRow : OpenClaim := { program := "ytcnilidckicccaadoor", sum := "72570edb6b08aaffd2000731a2fd1df3306292c5943a794fe94d5324460bd6c8", func := "loop.example/g00039/laws.FnExactGoodInterval", spec := "fnExactGoodInterval", unfollowed := true, recurses := true, named := ["loop.example/g00039/impl.rangeLimits"], apart := false, laid := [("loop.example/g00039/impl.rangeLimits", laid_loop_example_g00039_impl_rangeLimits)] }
def FnExactGoodIntervalSaid : Prop := fnExactGoodIntervalRow.holds Tryd.pinned (OpenSpec.ofChange fnExactGoodIntervalSpec)

/-- ITS FALSE NEIGHBOUR: 'it returns false'. Refute it at one input. -/
def fnExactGoodIntervalWrong : ChangeSpec := { name := "fnExactGoodInterval", vars := ["loop.example/g00039/impl.rangeLimits"], fn := fun _ => fun
  | [d, g1] => { results := [.lit (.bool false)], args := [d], vars := [g1] }
  | _ => none }
def FnExactGoodIntervalWrongFalsely : Prop := fnExactGoodIntervalRow.holds Tryd.pinned (OpenSpec.ofChange fnExactGoodIntervalWrong)

/-- 'laws.FnExactInInterval': WHATEVER THE INPUT: true; the input reads as it did. -/
def fnExactInIntervalSpec : ChangeSpec := { name := "fnExactInInterval", vars := ["loop.example/g00039/impl.rangeLimits", "loop.example/g00039/impl.monthDays"], fn := fun _ => fun
  | [d1, d2, g1, g2] => { results := [.lit (.bool true)], args := [d1, d2], vars := [g1, g2] }
  | _ => none }
def fnExactInIntervalRow : OpenClaim := { program := "ytcnilidckicccaadoor", sum := "72570edb6b08aaffd2000731a2fd1df3306292c5943a794fe94d5324460bd6c8", func := "loop.example/g00039/laws.FnExactInInterval", spec := "fnExactInInterval", unfollowed := true, recurses := true, named := ["loop.example/g00039/impl.rangeLimits", "loop.example/g00039/impl.monthDays"], apart := false, laid := [("loop.example/g00039/impl.monthDays", laid_loop_example_g00039_impl_monthDays), ("loop.example/g00039/impl.rangeLimits", laid_loop_example_g00039_impl_rangeLimits)] }
def FnExactInIntervalSaid : Prop := fnExactInIntervalRow.holds Tryd.pinned (OpenSpec.ofChange fnExactInIntervalSpec)

/-- ITS FALSE NEIGHBOUR: 'it returns false'. Refute it at one input. -/
def fnExactInIntervalWrong : ChangeSpec := { name := "fnExactInInterval", vars := ["loop.example/g00039/impl.rangeLimits", "loop.example/g00039/impl.monthDays"], fn := fun _ => fun
  | [d1, d2, g1, g2] => { results := [.lit (.bool false)], args := [d1, d2], vars := [g1, g2] }
  | _ => none }
def FnExactInIntervalWrongFalsely : Prop := fnExactInIntervalRow.holds Tryd.pinned (OpenSpec.ofChange fnExactInIntervalWrong)

/- THE SECOND FORM. 'bulk': how many values and letters a reading holds, each counted each time it is reached (what is shared counts as often as it is met; a slice's spare places count too). A statement '..UptoSaid' is the law's where the arguments, and the package variables that the reading takes, are together of bulk at most 1048576: NARROWER than '..Said'. Prove '..Said' where nothing that the law and all that it calls make is longer than what came in: it says more and counts as full. Else prove '..UptoSaid'. A law counts once. -/
mutual
def uptoBulk {H : Type} : DataW H → Nat
  | .lit (.string bytes) => bytes.length + 1
  | .lit _ => 1
  | .nil => 1
  | .ptr d => uptoBulk d + 1
  | .slice elems spare => uptoBulkAll elems + uptoBulkAll spare + 1
  | .agg parts => uptoBulkAll parts + 1
  | .iface _ d => uptoBulk d + 1
  | .map entries => uptoBulkEntries entries + 1
  | .held _ => 1
def uptoBulkAll {H : Type} : List (DataW H) → Nat
  | [] => 0
  | d :: r => uptoBulk d + uptoBulkAll r
def uptoBulkEntries {H : Type} : List (Lit × DataW H) → Nat
  | [] => 0
  | x :: r => uptoBulkEntry x + uptoBulkEntries r
def uptoBulkEntry {H : Type} : Lit × DataW H → Nat
  | (.string bytes, d) => bytes.length + uptoBulk d + 1
  | (_, d) => uptoBulk d + 1
 end
def uptoSmall : (H : Type) → List (DataW H) → Bool := fun _ ds => decide (uptoBulkAll ds ≤ 1048576)
def OpenSpec.upto (s : _root_.Go.ChangeSpec) : _root_.Go.OpenSpec := { _root_.Go.OpenSpec.ofChange s with cond := some uptoSmall }

/-- 'laws.FnIntervals', WHERE WHAT IT READS IS OF BULK AT MOST 1048576: true; the input reads as it did. -/
def fnIntervalsUptoRow : OpenClaim := { program := "ytcnilidckicccaadoor", sum := "72570edb6b08aaffd2000731a2fd1df3306292c5943a794fe94d5324460bd6c8", func := "loop.example/g00039/laws.FnIntervals", spec := "fnIntervals", unfollowed := true, recurses := true, named := ["loop.example/g00039/impl.rangeLimits", "loop.example/g00039/impl.monthDays"], apart := false, laid := [("loop.example/g00039/impl.monthDays", laid_loop_example_g00039_impl_monthDays), ("loop.example/g00039/impl.rangeLimits", laid_loop_example_g00039_impl_rangeLimits)], narrowed := true }
def FnIntervalsUptoSaid : Prop := fnIntervalsUptoRow.holds Tryd.pinned (OpenSpec.upto fnIntervalsSpec)

/-- 'laws.FnExactGoodInterval', WHERE WHAT IT READS IS OF BULK AT MOST 1048576: true; the input reads as it did. -/
def fnExactGoodIntervalUptoRow : OpenClaim := { program := "ytcnilidckicccaadoor", sum := "72570edb6b08aaffd2000731a2fd1df3306292c5943a794fe94d5324460bd6c8", func := "loop.example/g00039/laws.FnExactGoodInterval", spec := "fnExactGoodInterval", unfollowed := true, recurses := true, named := ["loop.example/g00039/impl.rangeLimits"], apart := false, laid := [("loop.example/g00039/impl.rangeLimits", laid_loop_example_g00039_impl_rangeLimits)], narrowed := true }
def FnExactGoodIntervalUptoSaid : Prop := fnExactGoodIntervalUptoRow.holds Tryd.pinned (OpenSpec.upto fnExactGoodIntervalSpec)

/-- 'laws.FnExactInInterval', WHERE WHAT IT READS IS OF BULK AT MOST 1048576: true; the input reads as it did. -/
def fnExactInIntervalUptoRow : OpenClaim := { program := "ytcnilidckicccaadoor", sum := "72570edb6b08aaffd2000731a2fd1df3306292c5943a794fe94d5324460bd6c8", func := "loop.example/g00039/laws.FnExactInInterval", spec := "fnExactInInterval", unfollowed := true, recurses := true, named := ["loop.example/g00039/impl.rangeLimits", "loop.example/g00039/impl.monthDays"], apart := false, laid := [("loop.example/g00039/impl.monthDays", laid_loop_example_g00039_impl_monthDays), ("loop.example/g00039/impl.rangeLimits", laid_loop_example_g00039_impl_rangeLimits)], narrowed := true }
def FnExactInIntervalUptoSaid : Prop := fnExactInIntervalUptoRow.holds Tryd.pinned (OpenSpec.upto fnExactInIntervalSpec)

end Rows
end Go.Proofs.YtcnilidckicccaaDoor
