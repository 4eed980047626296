/- The walk of FnExactCompareLabels. -/
import Derived.Test.YtgcleocpbpgjeaaCn
namespace Go.Proofs.Ytgcleocpbpgjeaa.Lab
open Go.RowKit Go.Proofs.Ytgcleocpbpgjeaa.Str

end Go.Proofs.Ytgcleocpbpgjeaa.Lab
