/- How an argument that is a cell reads. -/
import Derived.Test.YtafmggipmaofnaaOpen
import Derived.Test.YtafmggipmaofnaaCellMath
import Derived.Test.YtafmggipmaofnaaChecked
namespace Go.Proofs.Ytafmggipmaofnaa
set_option maxRecDepth 20000
open Go.RowKit Go.ChangeShapes Go.WideShapes

end Go.Proofs.Ytafmggipmaofnaa
