/-
  No cell of these rows narrows 'for every input' (looked for: loops, veiled, ifaces, maps, wideKeys, modest, calm, conditions, laid).
  DERIVED. THE GIVEN ROWS OF THIS SEAT. 5 by the template 'for every input the law returns true; each argument reads behind the call as it read before'; 0 by the template 'total and deterministic' (their statements: YtnhikdlhjdjmdaaTotals.lean).
  GIVEN WITH THE SEED: the statements are not yours to turn. If you find one false, say at which input.
  Laid BY PROGRAM, IN A SANDBOX (cutbox-rows.mjs): the forced cells as the released guide's own fill.sh prints them over the translation 67082b4ce17e9c9a… (all of the seat's roots in one cut). By AI agents, Wed Nov 11 2026. No macro, syntax, notation, axiom, sorry.
-/
import Derived.Test.YtnhikdlhjdjmdaaChecked
import GoSem.Claim
import GoSem.ClaimJoined
import GoSem.ClaimMapViews
import Derived.JoinedTies
import Derived.KernelRfl
namespace Go.Proofs.Ytnhikdlhjdjmdaa
/- THE CELL 'sum', in the pinned program and in every row, IS THE sha256 OF THE DUMP (.gsa) THAT YtnhikdlhjdjmdaaProg.lean LOADS. Nothing in Lean hashes anything: it is a label: what it is worth is what the hold of that sum in a sandbox is worth. -/
noncomputable def Try.pinned : Pinned := { name := "ytnhikdlhjdjmdaa", sum := "67082b4ce17e9c9a527a841895db9edef83525d7850315c20d4a5c015c739c90", checked := Try.checked }
namespace Rows
def none {H : Type} : Left H := { results := [], args := [] }

/-- 'laws.FnExactFits': WHATEVER THE INPUT: true; the input reads as it did. -/
def fnExactFitsSpec : ChangeSpec := { name := "fnExactFits", fn := fun _ => fun
  | [d1, d2] => { results := [.lit (.bool true)], args := [d1, d2] }
  | _ => none }
def fnExactFitsRow : OpenClaim := { program := "ytnhikdlhjdjmdaa", sum := "67082b4ce17e9c9a527a841895db9edef83525d7850315c20d4a5c015c739c90", func := "loop.example/g00039/laws.FnExactFits", spec := "fnExactFits", inPlace := ["internal/bytealg.IndexByteString", "internal/bytealg.abigen_runtime_cmpstring"], unfollowed := true, recurses := true, apart := false }
def FnExactFitsSaid : Prop := fnExactFitsRow.holds Try.pinned (OpenSpec.ofChange fnExactFitsSpec)

/-- ITS FALSE NEIGHBOUR: 'it returns false'. Refute it at one input. -/
def fnExactFitsWrong : ChangeSpec := { name := "fnExactFits", fn := fun _ => fun
  | [d1, d2] => { results := [.lit (.bool false)], args := [d1, d2] }
  | _ => none }
def FnExactFitsWrongFalsely : Prop := fnExactFitsRow.holds Try.pinned (OpenSpec.ofChange fnExactFitsWrong)

/-- 'laws.FnExactGoodSeries': WHATEVER THE INPUT: true; the input reads as it did. -/
def fnExactGoodSeriesSpec : ChangeSpec := { name := "fnExactGoodSeries", fn := fun _ => fun
  | [d] => { results := [.lit (.bool true)], args := [d] }
  | _ => none }
def fnExactGoodSeriesRow : OpenClaim := { program := "ytnhikdlhjdjmdaa", sum := "67082b4ce17e9c9a527a841895db9edef83525d7850315c20d4a5c015c739c90", func := "loop.example/g00039/laws.FnExactGoodSeries", spec := "fnExactGoodSeries", inPlace := ["internal/bytealg.abigen_runtime_cmpstring"], unfollowed := true, recurses := true, apart := false }
def FnExactGoodSeriesSaid : Prop := fnExactGoodSeriesRow.holds Try.pinned (OpenSpec.ofChange fnExactGoodSeriesSpec)

/-- ITS FALSE NEIGHBOUR: 'it returns false'. Refute it at one input. -/
def fnExactGoodSeriesWrong : ChangeSpec := { name := "fnExactGoodSeries", fn := fun _ => fun
  | [d] => { results := [.lit (.bool false)], args := [d] }
  | _ => none }
def FnExactGoodSeriesWrongFalsely : Prop := fnExactGoodSeriesRow.holds Try.pinned (OpenSpec.ofChange fnExactGoodSeriesWrong)

/-- 'laws.FnExactNewHead': WHATEVER THE INPUT: true; the input reads as it did. -/
def fnExactNewHeadSpec : ChangeSpec := { name := "fnExactNewHead", fn := fun _ => fun
  | [d1, d2] => { results := [.lit (.bool true)], args := [d1, d2] }
  | _ => none }
def fnExactNewHeadRow : OpenClaim := { program := "ytnhikdlhjdjmdaa", sum := "67082b4ce17e9c9a527a841895db9edef83525d7850315c20d4a5c015c739c90", func := "loop.example/g00039/laws.FnExactNewHead", spec := "fnExactNewHead", apart := false }
def FnExactNewHeadSaid : Prop := fnExactNewHeadRow.holds Try.pinned (OpenSpec.ofChange fnExactNewHeadSpec)

/-- ITS FALSE NEIGHBOUR: 'it returns false'. Refute it at one input. -/
def fnExactNewHeadWrong : ChangeSpec := { name := "fnExactNewHead", fn := fun _ => fun
  | [d1, d2] => { results := [.lit (.bool false)], args := [d1, d2] }
  | _ => none }
def FnExactNewHeadWrongFalsely : Prop := fnExactNewHeadRow.holds Try.pinned (OpenSpec.ofChange fnExactNewHeadWrong)

/-- 'laws.FnExactGoodHead': WHATEVER THE INPUT: true; the input reads as it did. -/
def fnExactGoodHeadSpec : ChangeSpec := { name := "fnExactGoodHead", fn := fun _ => fun
  | [d] => { results := [.lit (.bool true)], args := [d] }
  | _ => none }
def fnExactGoodHeadRow : OpenClaim := { program := "ytnhikdlhjdjmdaa", sum := "67082b4ce17e9c9a527a841895db9edef83525d7850315c20d4a5c015c739c90", func := "loop.example/g00039/laws.FnExactGoodHead", spec := "fnExactGoodHead", inPlace := ["internal/bytealg.abigen_runtime_cmpstring"], unfollowed := true, recurses := true, apart := false }
def FnExactGoodHeadSaid : Prop := fnExactGoodHeadRow.holds Try.pinned (OpenSpec.ofChange fnExactGoodHeadSpec)

/-- ITS FALSE NEIGHBOUR: 'it returns false'. Refute it at one input. -/
def fnExactGoodHeadWrong : ChangeSpec := { name := "fnExactGoodHead", fn := fun _ => fun
  | [d] => { results := [.lit (.bool false)], args := [d] }
  | _ => none }
def FnExactGoodHeadWrongFalsely : Prop := fnExactGoodHeadRow.holds Try.pinned (OpenSpec.ofChange fnExactGoodHeadWrong)

/-- 'laws.FnExactValuesOf': WHATEVER THE INPUT: true; the input reads as it did. -/
def fnExactValuesOfSpec : ChangeSpec := { name := "fnExactValuesOf", fn := fun _ => fun
  | [d1, d2] => { results := [.lit (.bool true)], args := [d1, d2] }
  | _ => none }
def fnExactValuesOfRow : OpenClaim := { program := "ytnhikdlhjdjmdaa", sum := "67082b4ce17e9c9a527a841895db9edef83525d7850315c20d4a5c015c739c90", func := "loop.example/g00039/laws.FnExactValuesOf", spec := "fnExactValuesOf", inPlace := ["internal/bytealg.abigen_runtime_cmpstring"], unfollowed := true, recurses := true, apart := false }
def FnExactValuesOfSaid : Prop := fnExactValuesOfRow.holds Try.pinned (OpenSpec.ofChange fnExactValuesOfSpec)

/-- ITS FALSE NEIGHBOUR: 'it returns false'. Refute it at one input. -/
def fnExactValuesOfWrong : ChangeSpec := { name := "fnExactValuesOf", fn := fun _ => fun
  | [d1, d2] => { results := [.lit (.bool false)], args := [d1, d2] }
  | _ => none }
def FnExactValuesOfWrongFalsely : Prop := fnExactValuesOfRow.holds Try.pinned (OpenSpec.ofChange fnExactValuesOfWrong)

/- THE SECOND FORM. 'bulk': how many values and letters a reading holds, each counted each time it is reached (what is shared counts as often as it is met; a slice's spare places count too). A statement '..UptoSaid' is the law's where the arguments, and the package variables that the reading takes, are together of bulk at most 1048576: NARROWER than '..Said'. Prove '..Said' where nothing that the law and all that it calls make is longer than what came in: it says more and counts as full. Else prove '..UptoSaid'. A law counts once. -/
mutual
def uptoBulk {H : Type} : DataW H → Nat
  | .lit (.string bytes) => bytes.length + 1
  | .lit _ => 1
  | .nil => 1
  | .ptr d => uptoBulk d + 1
  | .slice elems spare => uptoBulkAll elems + uptoBulkAll spare + 1
  | .agg parts => uptoBulkAll parts + 1
  | .iface _ d => uptoBulk d + 1
  | .map entries => uptoBulkEntries entries + 1
  | .held _ => 1
def uptoBulkAll {H : Type} : List (DataW H) → Nat
  | [] => 0
  | d :: r => uptoBulk d + uptoBulkAll r
def uptoBulkEntries {H : Type} : List (Lit × DataW H) → Nat
  | [] => 0
  | x :: r => uptoBulkEntry x + uptoBulkEntries r
def uptoBulkEntry {H : Type} : Lit × DataW H → Nat
  | (.string bytes, d) => bytes.length + uptoBulk d + 1
  | (_, d) => uptoBulk d + 1
 end
def uptoSmall : (H : Type) → List (DataW H) → Bool := fun _ ds => decide (uptoBulkAll ds ≤ 1048576)
def OpenSpec.upto (s : _root_.Go.ChangeSpec) : _root_.Go.OpenSpec := { _root_.Go.OpenSpec.ofChange s with cond := some uptoSmall }

/-- 'laws.FnExactFits', WHERE WHAT IT READS IS OF BULK AT MOST 1048576: true; the input reads as it did. -/
def fnExactFitsUptoRow : OpenClaim := { program := "ytnhikdlhjdjmdaa", sum := "67082b4ce17e9c9a527a841895db9edef83525d7850315c20d4a5c015c739c90", func := "loop.example/g00039/laws.FnExactFits", spec := "fnExactFits", inPlace := ["internal/bytealg.IndexByteString", "internal/bytealg.abigen_runtime_cmpstring"], unfollowed := true, recurses := true, apart := false, narrowed := true }
def FnExactFitsUptoSaid : Prop := fnExactFitsUptoRow.holds Try.pinned (OpenSpec.upto fnExactFitsSpec)

/-- 'laws.FnExactGoodSeries', WHERE WHAT IT READS IS OF BULK AT MOST 1048576: true; the input reads as it did. -/
def fnExactGoodSeriesUptoRow : OpenClaim := { program := "ytnhikdlhjdjmdaa", sum := "67082b4ce17e9c9a527a841895db9edef83525d7850315c20d4a5c015c739c90", func := "loop.example/g00039/laws.FnExactGoodSeries", spec := "fnExactGoodSeries", inPlace := ["internal/bytealg.abigen_runtime_cmpstring"], unfollowed := true, recurses := true, apart := false, narrowed := true }
def FnExactGoodSeriesUptoSaid : Prop := fnExactGoodSeriesUptoRow.holds Try.pinned (OpenSpec.upto fnExactGoodSeriesSpec)

/-- 'laws.FnExactNewHead', WHERE WHAT IT READS IS OF BULK AT MOST 1048576: true; the input reads as it did. -/
def fnExactNewHeadUptoRow : OpenClaim := { program := "ytnhikdlhjdjmdaa", sum := "67082b4ce17e9c9a527a841895db9edef83525d7850315c20d4a5c015c739c90", func := "loop.example/g00039/laws.FnExactNewHead", spec := "fnExactNewHead", apart := false, narrowed := true }
def FnExactNewHeadUptoSaid : Prop := fnExactNewHeadUptoRow.holds Try.pinned (OpenSpec.upto fnExactNewHeadSpec)

/-- 'laws.FnExactGoodHead', WHERE WHAT IT READS IS OF BULK AT MOST 1048576: true; the input reads as it did. -/
def fnExactGoodHeadUptoRow : OpenClaim := { program := "ytnhikdlhjdjmdaa", sum := "67082b4ce17e9c9a527a841895db9edef83525d7850315c20d4a5c015c739c90", func := "loop.example/g00039/laws.FnExactGoodHead", spec := "fnExactGoodHead", inPlace := ["internal/bytealg.abigen_runtime_cmpstring"], unfollowed := true, recurses := true, apart := false, narrowed := true }
def FnExactGoodHeadUptoSaid : Prop := fnExactGoodHeadUptoRow.holds Try.pinned (OpenSpec.upto fnExactGoodHeadSpec)

/-- 'laws.FnExactValuesOf', WHERE WHAT IT READS IS OF BULK AT MOST 1048576: true; the input reads as it did. -/
def fnExactValuesOfUptoRow : OpenClaim := { program := "ytnhikdlhjdjmdaa", sum := "67082b4ce17e9c9a527a841895db9edef83525d7850315c20d4a5c015c739c90", func := "loop.example/g00039/laws.FnExactValuesOf", spec := "fnExactValuesOf", inPlace := ["internal/bytealg.abigen_runtime_cmpstring"], unfollowed := true, recurses := true, apart := false, narrowed := true }
def FnExactValuesOfUptoSaid : Prop := fnExactValuesOfUptoRow.holds Try.pinned (OpenSpec.upto fnExactValuesOfSpec)

end Rows
end Go.Proofs.Ytnhikdlhjdjmdaa
