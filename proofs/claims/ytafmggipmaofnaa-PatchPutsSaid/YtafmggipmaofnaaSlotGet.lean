/- Layer 6: the contracts of the program's read and Get. -/
import Derived.Test.YtafmggipmaofnaaSlotPut
import Derived.Test.YtafmggipmaofnaaCellGet
namespace Go.Proofs.Ytafmggipmaofnaa
set_option maxRecDepth 20000
open Go.RowKit Go.Sort

namespace RdSt
variable {w x y : World} {g : Nat} {s s' : List UInt8 × Bool}
end RdSt

def ReadP (l : List UInt8) (w : World) (e : Ending) (w' : World) : Prop := ∃ D, e = .returned (iv D (readI l)) ∧ SV w' D (bys (readI l).c.d) ∧ Below w.heap.size w w'

def Get6P (l : List UInt8) (w : World) (e : Ending) (w' : World) : Prop := ∃ D, e = .returned (.tuple #[iv D (getI l).1, .int .i64 (getI l).2]) ∧ SV w' D (bys (getI l).1.c.d) ∧ Below w.heap.size w w'
end Go.Proofs.Ytafmggipmaofnaa
