/- Layer 6: contracts of the reference's functions: Same, Right, Bytes; a cell's Get. -/
import Derived.Test.YtafmggipmaofnaaSlot
import Derived.Test.YtafmggipmaofnaaCellBytes
namespace Go.Proofs.Ytafmggipmaofnaa
set_option maxRecDepth 20000
open Go.RowKit Go.Sort

/-- How long a slice is. -/
def slen : Value → Nat
  | .slice _ n _ => n
  | _ => 0

theorem two_cells (st : Int) (h : st = 1 ∨ st = 2) (k : List UInt8) (hk : k.length ≤ 32) : bys (beb 1 (ub st) ++ beb 1 (ub k.length)) = [.int .u8 st, .int .u8 (k.length : Int)] := by
  rw [bys_app, byte_cell k hk]
  rcases h with rfl | rfl <;> rfl

end Go.Proofs.Ytafmggipmaofnaa
