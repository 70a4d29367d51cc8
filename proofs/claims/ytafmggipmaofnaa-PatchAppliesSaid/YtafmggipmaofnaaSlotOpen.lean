/- How an argument that is an item reads. -/
import Derived.Test.YtafmggipmaofnaaCellOpen
import Derived.Test.YtafmggipmaofnaaSlot
namespace Go.Proofs.Ytafmggipmaofnaa
set_option maxRecDepth 20000
open Go.RowKit Go.ChangeShapes Go.WideShapes

end Go.Proofs.Ytafmggipmaofnaa
