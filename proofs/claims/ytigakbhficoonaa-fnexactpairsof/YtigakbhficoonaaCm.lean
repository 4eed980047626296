/- What l2Cmp, compareLabel, compareLists and both CompareLabels come to. -/
import Derived.Test.YtigakbhficoonaaCl
namespace Go.Proofs.Ytigakbhficoonaa.Lab
open Go.RowKit Go.Proofs.Ytigakbhficoonaa.Str

theorem HasL.drewN {w : World} {a : Option Addr} {ls : List Lb} (h : HasL w a ls) (q : Nat) : HasL (w.drewN q) a ls := h

end Go.Proofs.Ytigakbhficoonaa.Lab
