/- Layer 5: contracts of the reference's functions on cells: Right, Same, Set. -/
import Derived.Test.YtafmggipmaofnaaCellMath
import Derived.Test.YtafmggipmaofnaaCell
import Derived.Test.YtafmggipmaofnaaBeRef
import Derived.Test.YtafmggipmaofnaaChecked
namespace Go.Proofs.Ytafmggipmaofnaa
set_option maxRecDepth 20000
open Go.RowKit

/-- What the reference's Set hands back: its data's slice is the argument's, or nil. -/
def SetR (c : Cl) (x : Int) (w : World) (e : Ending) (w' : World) : Prop := ∃ D, e = .returned (.tuple #[cv D (stC c x), .int .i64 (stE c x)]) ∧ SV w' D (bys (stC c x).d) ∧ Below w.heap.size w w'

end Go.Proofs.Ytafmggipmaofnaa
