/- How an argument that is an item reads. -/
import Derived.Test.YtelamhdnefnceaaCellOpen
import Derived.Test.YtelamhdnefnceaaSlot
namespace Go.Proofs.Ytelamhdnefnceaa
set_option maxRecDepth 20000
open Go.RowKit Go.ChangeShapes Go.WideShapes

theorem cellsOf_item : Try.prog.cellsOf 37 = 7 := by kernel_rfl
theorem rd_cell {w : World} {c0 c1 c2 c3 c4 : Value} (h : Rd Try.prog w 35 [c0, c1, c2, c3, c4]) :
    ∃ x : Cl, c0 = .int .i64 x.k ∧ SV w c1 (bys x.d) ∧ x.d.length ≤ 9223372036854775807 ∧ c2 = .int .i64 x.lo ∧ c3 = .int .i64 x.hi ∧ c4 = .int .i64 x.v ∧ in64c x := by
  obtain ⟨hlen, hf⟩ := h.struct Try.underlying35
  have ci : Try.prog.cellsOf 3 = 1 := by kernel_rfl
  have cb : Try.prog.cellsOf 26 = 1 := by kernel_rfl
  have k0 : Rd Try.prog w 3 [c0] := by have := hf 0 _ rfl; simpa [ci, cb, Value.cells] using this
  have k1 : Rd Try.prog w 26 [c1] := by have := hf 1 _ rfl; simpa [ci, cb, Value.cells] using this
  have k2 : Rd Try.prog w 3 [c2] := by have := hf 2 _ rfl; simpa [ci, cb, Value.cells] using this
  have k3 : Rd Try.prog w 3 [c3] := by have := hf 3 _ rfl; simpa [ci, cb, Value.cells] using this
  have k4 : Rd Try.prog w 3 [c4] := by have := hf 4 _ rfl; simpa [ci, cb, Value.cells] using this
  obtain ⟨n0, e0, g0⟩ := k0.int Try.underlying3
  obtain ⟨n2, e2, g2⟩ := k2.int Try.underlying3
  obtain ⟨n3, e3, g3⟩ := k3.int Try.underlying3
  obtain ⟨n4, e4, g4⟩ := k4.int Try.underlying3
  obtain ⟨D, xs, e1, hs, hl, hx⟩ := k1.row Try.underlying26 (by kernel_rfl)
  obtain ⟨m, rfl, _⟩ := row_map (f := fun b : UInt8 => Value.int .u8 b.toNat) (q := fun _ => True) (fun x hm => by
    obtain ⟨n, g1, g2⟩ := (hx x hm).int Try.underlying5
    obtain ⟨b, rfl⟩ := u8_wf g2
    exact ⟨b, by simpa using g1, trivial⟩)
  simp only [List.cons.injEq, and_true] at e0 e1 e2 e3 e4
  subst e0 e1 e2 e3 e4
  exact ⟨⟨n0, m, n2, n3, n4⟩, rfl, hs, by simpa using hl, rfl, rfl, rfl, wf_bd g0, wf_bd g2, wf_bd g3, wf_bd g4⟩
theorem arg_item {H : Type} {enc : TypeId × Value → H} {w : World} {v : Value} {d : DataW H} {p : List MemPlace} {r : Reach} {b0 : Nat} (hv : Value.okWide Try.prog w r b0 37 v) (h : DataW.Trod enc Try.prog w 0 (fun _ => true) true 37 v d p) :
    ∃ x : It, ∃ D, v = iv D x ∧ SV w D (bys x.c.d) ∧ x.c.d.length ≤ 9223372036854775807 ∧ x.k.length ≤ 9223372036854775807 ∧ in64c x.c := by
  obtain ⟨cs, rfl, hsz⟩ := okWide_struct Try.underlying37 hv
  obtain ⟨hlen, hf⟩ := (Rd.of h).struct Try.underlying37
  rw [cellsOf_item] at hsz
  obtain ⟨l⟩ := cs
  match l, hsz with
  | [c0, c1, c2, c3, c4, c5, c6], _ =>
    have ci : Try.prog.cellsOf 3 = 1 := by kernel_rfl
    have cs : Try.prog.cellsOf 9 = 1 := by kernel_rfl
    have cc : Try.prog.cellsOf 35 = 5 := by kernel_rfl
    have k0 : Rd Try.prog w 3 [c0] := by have := hf 0 _ rfl; simpa [ci, cs, cc, Value.cells] using this
    have k1 : Rd Try.prog w 9 [c1] := by have := hf 1 _ rfl; simpa [ci, cs, cc, Value.cells] using this
    have k2 : Rd Try.prog w 35 [c2, c3, c4, c5, c6] := by
      have h2 : Rd Try.prog w 35 (([c0, c1, c2, c3, c4, c5, c6].drop 2).take (Try.prog.cellsOf 35)) := hf 2 _ rfl
      rw [cc] at h2
      exact h2
    obtain ⟨n0, e0, g0⟩ := k0.int Try.underlying3
    obtain ⟨s1, e1, g1⟩ := k1.string Try.underlying9
    obtain ⟨x, rfl, hs, hl, rfl, rfl, rfl, h64⟩ := rd_cell k2
    simp only [List.cons.injEq, and_true] at e0 e1
    subst e0 e1
    refine ⟨⟨n0, s1.data.toList, x⟩, c3, ?_, hs, hl, ?_, h64⟩
    · unfold iv; simp
    · have : s1.data.toList.length = s1.size := by rw [Array.length_toList]; rfl
      simp only [this]; unfold maxLen at g1; omega
theorem arg_b64 {H : Type} {enc : TypeId × Value → H} {w : World} {v : Value} {d : DataW H} {p : List MemPlace} {r : Reach} {b0 : Nat} (hv : Value.okWide Try.prog w r b0 58 v) (h : DataW.Trod enc Try.prog w 0 (fun _ => true) true 58 v d p) :
    ∃ x : List UInt8, v = .agg (ab x) ∧ x.length = 64 := arg_ab Try.underlying58 Try.underlying5 (by kernel_rfl) (by kernel_rfl) hv h
end Go.Proofs.Ytelamhdnefnceaa
