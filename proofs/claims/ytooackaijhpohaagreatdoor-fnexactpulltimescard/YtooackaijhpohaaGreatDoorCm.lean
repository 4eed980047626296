/- What l2Cmp, compareLabel, compareLists and both CompareLabels come to. -/
import Derived.Test.YtooackaijhpohaaGreatDoorCl
namespace Go.Proofs.YtooackaijhpohaaGreatDoor.Lab
open Go.RowKit Go.Proofs.YtooackaijhpohaaGreatDoor.Str

theorem HasL.drewN {w : World} {a : Option Addr} {ls : List Lb} (h : HasL w a ls) (q : Nat) : HasL (w.drewN q) a ls := h

end Go.Proofs.YtooackaijhpohaaGreatDoor.Lab
