/- What l2Cmp, compareLabel, compareLists and both CompareLabels come to. -/
import Derived.Test.YtpobpanmkdjkjaaCl
namespace Go.Proofs.Ytpobpanmkdjkjaa.Lab
open Go.RowKit Go.Proofs.Ytpobpanmkdjkjaa.Str

theorem HasL.drewN {w : World} {a : Option Addr} {ls : List Lb} (h : HasL w a ls) (q : Nat) : HasL (w.drewN q) a ls := h

end Go.Proofs.Ytpobpanmkdjkjaa.Lab
