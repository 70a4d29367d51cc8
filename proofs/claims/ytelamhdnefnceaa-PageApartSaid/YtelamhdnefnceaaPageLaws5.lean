/- Layer 7: the law PageApart, whole. -/
import Derived.Test.YtelamhdnefnceaaPageLaws4
namespace Go.Proofs.Ytelamhdnefnceaa
set_option maxRecDepth 20000
open Go.RowKit

theorem apart7_law (D : Value) (l : List UInt8) (i : Int) (x : It) (z : Int) (w : World) (hl : l.length = 512) (hD : SV w D (bys x.c.d)) (hz : -9223372036854775808 ≤ z ∧ z ≤ 9223372036854775807) :
    Calls Try.prog 6 #[.agg (ab l), .int .i64 i, iv D x, .int .i64 z] w fun e w' => e = .returned (.bool true) ∧ Below w.heap.size w w' := by
  obtain ⟨A, m, rfl⟩ := sv_open7 hD
  by_cases hb : 300 < x.k.length ∨ (x.k.length ≤ 300 ∧ 300 < x.c.d.length)
  · exact apart7_big l i A _ m x z w hb
  · refine apart7_main l i A _ m x z w hl hD (by omega) (by omega) hz _ rfl fun h => ?_
    rcases Int.lt_or_le z 0 with h0 | h0
    · exact h0
    · rw [allN_next hl ⟨h0, hz.2⟩, Int.tmod_eq_emod_of_nonneg h0] at h
      simp at h
end Go.Proofs.Ytelamhdnefnceaa
