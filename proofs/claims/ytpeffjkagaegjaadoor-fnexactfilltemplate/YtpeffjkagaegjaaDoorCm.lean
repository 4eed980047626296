/- What l2Cmp, compareLabel, compareLists and both CompareLabels come to. -/
import Derived.Test.YtpeffjkagaegjaaDoorCl
namespace Go.Proofs.YtpeffjkagaegjaaDoor.Lab
open Go.RowKit Go.Proofs.YtpeffjkagaegjaaDoor.Str

theorem HasL.drewN {w : World} {a : Option Addr} {ls : List Lb} (h : HasL w a ls) (q : Nat) : HasL (w.drewN q) a ls := h

end Go.Proofs.YtpeffjkagaegjaaDoor.Lab
