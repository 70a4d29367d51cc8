/- Contracts of the reference's functions for layer 1: At, Same, Bytes, Text. -/
import Derived.Test.YtlpgmmcdcjkkiaaDoorBase
import Derived.Test.YtlpgmmcdcjkkiaaDoorBeMath
import Derived.Test.YtlpgmmcdcjkkiaaDoorBe
import Derived.Test.YtlpgmmcdcjkkiaaDoorChecked
import Derived.WalkSpells
namespace Go.Proofs.YtlpgmmcdcjkkiaaDoor
set_option maxRecDepth 20000
open Go.RowKit

theorem same_any (v u : Value) (l m : List UInt8) (w : World) (hv : SV w v (bys l)) (hu : SV w u (bys m)) :
    Calls Tryd.prog 53 #[v, u] w fun e w' => e = .returned (.bool (l == m)) ∧ w = w' := by
  have c1 := run_bytes_string (P := Tryd.prog) hv 22 5 Tryd.underlying22 Tryd.underlying5 9 Tryd.underlying9
  have c2 := run_bytes_string (P := Tryd.prog) hu 22 5 Tryd.underlying22 Tryd.underlying5 9 Tryd.underlying9
  clear hv hu
  go_enter Tryd.func53, Tryd.ntmps53
  go_wp2
  go_ret
  exact ⟨rfl, rfl⟩

theorem Tryd.info5 : (Tryd.prog.info? 5).map (fun i => (i.zero, i.size, i.bytes)) = some (some (.int .u8 0), 1, 1) := by kernel_rfl

theorem beb_cell (U : Nat) : IntKind.u8.wrap ((U : Int) % 256) = ((UInt8.ofNat (U % 256)).toNat : Int) := by
  rw [IntKind.wrap_u8]
  simp only [UInt8.toNat_ofNat']
  omega

/-- A text as bytes: how many, and they. -/
def textb (s : List UInt8) : List UInt8 := beb 2 s.length ++ s

end Go.Proofs.YtlpgmmcdcjkkiaaDoor
