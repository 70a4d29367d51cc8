/- How an argument that is a list of runs, or a patch, reads. -/
import Derived.Test.YtafmggipmaofnaaPageOpen
import Derived.Test.YtafmggipmaofnaaPatchCheck
namespace Go.Proofs.Ytafmggipmaofnaa
set_option maxRecDepth 20000
open Go.RowKit Go.ChangeShapes Go.WideShapes

instance : Inhabited Rn := ⟨⟨0, []⟩⟩
theorem cellsOf_run : Try.prog.cellsOf 56 = 2 := by kernel_rfl
theorem cellsOf_patch : Try.prog.cellsOf 37 = 3 := by kernel_rfl
theorem rd_run {w : World} {c0 c1 : Value} (h : Rd Try.prog w 56 [c0, c1]) :
    ∃ r : Rn, c0 = .int .i64 r.p ∧ SV w c1 (bys r.d) ∧ i64 r.p ∧ r.d.length ≤ 9223372036854775807 := by
  obtain ⟨hlen, hf⟩ := h.struct Try.underlying56
  have ci : Try.prog.cellsOf 3 = 1 := by kernel_rfl
  have cb : Try.prog.cellsOf 32 = 1 := by kernel_rfl
  have k0 : Rd Try.prog w 3 [c0] := by have := hf 0 _ rfl; simpa [ci, cb, Value.cells] using this
  have k1 : Rd Try.prog w 32 [c1] := by have := hf 1 _ rfl; simpa [ci, cb, Value.cells] using this
  obtain ⟨n0, e0, g0⟩ := k0.int Try.underlying3
  obtain ⟨D, xs, e1, hs, hl, hx⟩ := k1.row Try.underlying32 (by kernel_rfl)
  obtain ⟨m, rfl, _⟩ := row_map (f := fun b : UInt8 => Value.int .u8 b.toNat) (q := fun _ => True) (fun x hm => by
    obtain ⟨n, g1, g2⟩ := (hx x hm).int Try.underlying5
    obtain ⟨b, rfl⟩ := u8_wf g2
    exact ⟨b, by simpa using g1, trivial⟩)
  simp only [List.cons.injEq, and_true] at e0 e1
  subst e0 e1
  exact ⟨⟨n0, m⟩, rfl, hs, wf_bd g0, by simpa using hl⟩
theorem rd_runs {w : World} {cs : List Value} (h : Rd Try.prog w 25 cs) : ∃ v l, cs = [v] ∧ RS w v l ∧ Sane l := by
  rcases h.slice Try.underlying25 with rfl | ⟨a, len, cap, rfl, h1, h2, h3⟩
  · exact ⟨_, [], rfl, RS.nil w, fun r h => by cases h⟩
  · rw [cellsOf_run] at h3
    obtain ⟨V, hV⟩ := Go.Deep.choose_lt (α := Rn × Value) (n := len) (p := fun i x => w.cell? (a.add (i * 2)) = some (.int .i64 x.1.p) ∧ w.cell? ((a.add (i * 2)).add 1) = some x.2 ∧ SV w x.2 (bys x.1.d) ∧ i64 x.1.p ∧ x.1.d.length ≤ 9223372036854775807) (fun i hi => by
      obtain ⟨cs', g1, g2⟩ := h3 i (by omega)
      obtain ⟨_, hlen, hat⟩ := World.cells?_some g1
      match cs', hlen with
      | [c0, c1], _ =>
        obtain ⟨r, rfl, g3, g4, g5⟩ := rd_run g2
        have a0 := hat 0 (by simp)
        have a1 := hat 1 (by simp)
        exact ⟨(r, c1), by simpa [Addr.add] using a0, by simpa using a1, g3, g4, g5⟩)
    refine ⟨_, (List.range len).map fun i => (V i).1, rfl, ⟨some a, cap, by simp, by simpa using h1, h2, (fun h => by cases h), fun hne => ?_⟩, fun r hr => ?_⟩
    · have hlen : 0 < len := by
        rcases Nat.eq_zero_or_pos len with h0 | h0
        · subst h0; simp at hne
        · exact h0
      have hs := World.cell?_spot (hV 0 hlen).2.1
      obtain ⟨b, off, spot⟩ := a
      have hspot : spot = none := by
        have := World.cell?_spot (hV 0 hlen).1
        simpa [Addr.add] using this
      subst hspot
      refine ⟨b, off, rfl, fun k r hr => ?_⟩
      have hk : k < len := by have := (List.getElem?_eq_some_iff.1 hr).1; simpa using this
      obtain ⟨q1, q2, q3, _⟩ := hV k hk
      rw [Addr.add_lit] at q1 q2
      rw [Addr.add_lit] at q2
      have e : (V k).1 = r := by simpa [hk] using hr
      subst e
      exact ⟨(V k).2, q1, q2, q3⟩
    · obtain ⟨i, hi, rfl⟩ := List.mem_map.1 hr
      have := hV i (List.mem_range.1 hi)
      exact ⟨this.2.2.2.1, this.2.2.2.2⟩
theorem arg_runs {H : Type} {enc : TypeId × Value → H} {w : World} {v : Value} {d : DataW H} {p : List MemPlace} {r : Reach} {b0 : Nat} (hv : Value.okWide Try.prog w r b0 25 v) (h : DataW.Trod enc Try.prog w 0 (fun _ => true) true 25 v d p) :
    ∃ x : List Rn, RS w v x ∧ Sane x := by
  have h1 := Rd.of h
  rw [slice_cells Try.underlying25 hv] at h1
  obtain ⟨v', l, e1, h2, h3⟩ := rd_runs h1
  obtain rfl : v = v' := by simpa using e1
  exact ⟨l, h2, h3⟩
theorem arg_patch {H : Type} {enc : TypeId × Value → H} {w : World} {v : Value} {d : DataW H} {p : List MemPlace} {r : Reach} {b0 : Nat} (hv : Value.okWide Try.prog w r b0 37 v) (h : DataW.Trod enc Try.prog w 0 (fun _ => true) true 37 v d p) :
    ∃ x : Pt, ∃ vr, v = pv vr x ∧ RS w vr x.rs ∧ Sane x.rs ∧ i64 x.pg := by
  obtain ⟨cs, rfl, hsz⟩ := okWide_struct Try.underlying37 hv
  obtain ⟨hlen, hf⟩ := (Rd.of h).struct Try.underlying37
  rw [cellsOf_patch] at hsz
  obtain ⟨l⟩ := cs
  match l, hsz with
  | [c0, c1, c2], _ =>
    have ci : Try.prog.cellsOf 3 = 1 := by kernel_rfl
    have cb : Try.prog.cellsOf 4 = 1 := by kernel_rfl
    have cr : Try.prog.cellsOf 25 = 1 := by kernel_rfl
    have k0 : Rd Try.prog w 3 [c0] := by have := hf 0 _ rfl; simpa [ci, cb, cr, Value.cells] using this
    have k1 : Rd Try.prog w 4 [c1] := by have := hf 1 _ rfl; simpa [ci, cb, cr, Value.cells] using this
    have k2 : Rd Try.prog w 25 [c2] := by have := hf 2 _ rfl; simpa [ci, cb, cr, Value.cells] using this
    obtain ⟨n0, e0, g0⟩ := k0.int Try.underlying3
    obtain ⟨b1, e1⟩ := k1.bool Try.underlying4
    obtain ⟨v2, rs, e2, h2, h3⟩ := rd_runs k2
    simp only [List.cons.injEq, and_true] at e0 e1 e2
    subst e0 e1 e2
    exact ⟨⟨n0, b1, rs⟩, c2, rfl, h2, h3, wf_bd g0⟩
end Go.Proofs.Ytafmggipmaofnaa
