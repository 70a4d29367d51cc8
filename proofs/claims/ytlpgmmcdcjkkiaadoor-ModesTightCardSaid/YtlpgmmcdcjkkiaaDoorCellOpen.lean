/- How an argument that is a cell reads. -/
import Derived.Test.YtlpgmmcdcjkkiaaDoorOpen
import Derived.Test.YtlpgmmcdcjkkiaaDoorCellMath
import Derived.Test.YtlpgmmcdcjkkiaaDoorChecked
namespace Go.Proofs.YtlpgmmcdcjkkiaaDoor
set_option maxRecDepth 20000
open Go.RowKit Go.ChangeShapes Go.WideShapes

theorem cellsOf_cell : Tryd.prog.cellsOf 36 = 5 := by kernel_rfl
theorem arg_cell {H : Type} {enc : TypeId × Value → H} {w : World} {v : Value} {d : DataW H} {p : List MemPlace} {r : Reach} {b0 : Nat} (hv : Value.okWide Tryd.prog w r b0 36 v) (h : DataW.Trod enc Tryd.prog w 0 (fun _ => true) true 36 v d p) :
    ∃ x : Cl, ∃ D, v = cv D x ∧ SV w D (bys x.d) ∧ x.d.length ≤ 9223372036854775807 ∧ in64c x := by
  obtain ⟨cs, rfl, hsz⟩ := okWide_struct Tryd.underlying36 hv
  obtain ⟨hlen, hf⟩ := (Rd.of h).struct Tryd.underlying36
  rw [cellsOf_cell] at hsz
  obtain ⟨l⟩ := cs
  match l, hsz with
  | [c0, c1, c2, c3, c4], _ =>
    have ci : Tryd.prog.cellsOf 3 = 1 := by kernel_rfl
    have cb : Tryd.prog.cellsOf 22 = 1 := by kernel_rfl
    have k0 : Rd Tryd.prog w 3 [c0] := by have := hf 0 _ rfl; simpa [ci, cb, Value.cells] using this
    have k1 : Rd Tryd.prog w 22 [c1] := by have := hf 1 _ rfl; simpa [ci, cb, Value.cells] using this
    have k2 : Rd Tryd.prog w 3 [c2] := by have := hf 2 _ rfl; simpa [ci, cb, Value.cells] using this
    have k3 : Rd Tryd.prog w 3 [c3] := by have := hf 3 _ rfl; simpa [ci, cb, Value.cells] using this
    have k4 : Rd Tryd.prog w 3 [c4] := by have := hf 4 _ rfl; simpa [ci, cb, Value.cells] using this
    obtain ⟨n0, e0, g0⟩ := k0.int Tryd.underlying3
    obtain ⟨n2, e2, g2⟩ := k2.int Tryd.underlying3
    obtain ⟨n3, e3, g3⟩ := k3.int Tryd.underlying3
    obtain ⟨n4, e4, g4⟩ := k4.int Tryd.underlying3
    obtain ⟨D, xs, e1, hs, hl, hx⟩ := k1.row Tryd.underlying22 (by kernel_rfl)
    obtain ⟨m, rfl, _⟩ := row_map (f := fun b : UInt8 => Value.int .u8 b.toNat) (q := fun _ => True) (fun x hm => by
      obtain ⟨n, g1, g2⟩ := (hx x hm).int Tryd.underlying5
      obtain ⟨b, rfl⟩ := u8_wf g2
      exact ⟨b, by simpa using g1, trivial⟩)
    simp only [List.cons.injEq, and_true] at e0 e1 e2 e3 e4
    subst e0 e1 e2 e3 e4
    exact ⟨⟨n0, m, n2, n3, n4⟩, c1, rfl, hs, by simpa using hl, wf_bd g0, wf_bd g2, wf_bd g3, wf_bd g4⟩
end Go.Proofs.YtlpgmmcdcjkkiaaDoor
