/- Layer 6: contracts of the program's Same and Check. -/
import Derived.Test.YtafmggipmaofnaaSlotMath
import Derived.Test.YtafmggipmaofnaaArr
import Derived.Test.YtafmggipmaofnaaCell
import Derived.Test.YtafmggipmaofnaaCellRef
import Derived.Test.YtafmggipmaofnaaKey
import Derived.Test.YtafmggipmaofnaaChecked
namespace Go.Proofs.Ytafmggipmaofnaa
set_option maxRecDepth 20000
open Go.RowKit Go.Sort

/-- An item as a value; D: its data's slice. -/
def iv (D : Value) (x : It) : Value := .agg #[.int .i64 x.s, .string ⟨x.k.toArray⟩, .int .i64 x.c.k, D, .int .i64 x.c.lo, .int .i64 x.c.hi, .int .i64 x.c.v]

end Go.Proofs.Ytafmggipmaofnaa
