/- Layer 5: contracts of the program's functions on cells that make no bytes: within, Check, Same, Set. -/
import Derived.Test.YtafmggipmaofnaaCellMath
import Derived.Test.YtafmggipmaofnaaFacts
import Derived.Test.YtafmggipmaofnaaChecked
namespace Go.Proofs.Ytafmggipmaofnaa
set_option maxRecDepth 20000
open Go.RowKit

theorem bequal_any (v u : Value) (l m : List UInt8) (w : World) (hv : SV w v (bys l)) (hu : SV w u (bys m)) :
    Calls Try.prog 43 #[v, u] w fun e w' => e = .returned (.bool (l == m)) ∧ w = w' := by
  have c1 := run_bytes_string (P := Try.prog) hv 32 5 Try.underlying32 Try.underlying5 9 Try.underlying9
  have c2 := run_bytes_string (P := Try.prog) hu 32 5 Try.underlying32 Try.underlying5 9 Try.underlying9
  clear hv hu
  go_enter Try.func43, Try.ntmps43
  go_wp2
  go_ret
  exact ⟨rfl, rfl⟩

end Go.Proofs.Ytafmggipmaofnaa
