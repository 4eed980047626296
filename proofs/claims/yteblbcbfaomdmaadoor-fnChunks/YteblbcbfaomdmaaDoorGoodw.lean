/- The walk of FnExactGoodBits: it returns true and writes nothing that was there. -/
import Derived.Test.YteblbcbfaomdmaaDoorGood
import Derived.Deep.RegionWith
namespace Go.Proofs.YteblbcbfaomdmaaDoor.Bts
open Go.RowKit Go.Proofs.YteblbcbfaomdmaaDoor.Byt

theorem cell_alloc {w : World} {o : Obj} {p : Addr} {v : Value} (h : p.block < w.heap.size) (hv : w.cell? p = some v) : (w.alloc o).cell? p = some v :=
  (((Below.refl w.heap.size w).alloc (Nat.le_refl _) o).cell h).trans hv
theorem below_drew {w w' : World} {B : Nat} (h : Below B w.drew w') : Below B w w' := ⟨h.os, h.tape, h.output, h.size, h.block⟩

end Go.Proofs.YteblbcbfaomdmaaDoor.Bts
