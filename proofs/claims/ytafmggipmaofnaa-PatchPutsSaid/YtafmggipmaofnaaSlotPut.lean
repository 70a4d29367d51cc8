/- Layer 6: the contract of the program's Put. -/
import Derived.Lib.AppendStr
import Derived.Test.YtafmggipmaofnaaSlot
import Derived.Test.YtafmggipmaofnaaCellPut
namespace Go.Proofs.Ytafmggipmaofnaa
set_option maxRecDepth 20000
open Go.RowKit Go.Sort

end Go.Proofs.Ytafmggipmaofnaa
