/- The walk of FnExactCompareLabels. -/
import Derived.Test.YtbjlnaaheahhnaaDoorCn
namespace Go.Proofs.YtbjlnaaheahhnaaDoor.Lab
open Go.RowKit Go.Proofs.YtbjlnaaheahhnaaDoor.Str

end Go.Proofs.YtbjlnaaheahhnaaDoor.Lab
