/- The walk of FnExactCompareLabels. -/
import Derived.Test.YtigakbhficoonaaCn
namespace Go.Proofs.Ytigakbhficoonaa.Lab
open Go.RowKit Go.Proofs.Ytigakbhficoonaa.Str

end Go.Proofs.Ytigakbhficoonaa.Lab
