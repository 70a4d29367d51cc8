/- How an argument that is a list of pairs, an answer, an operation or a list of operations reads. -/
import Derived.Test.YtlpgmmcdcjkkiaaDoorCellOpen
import Derived.Test.YtlpgmmcdcjkkiaaDoorModelLook
namespace Go.Proofs.YtlpgmmcdcjkkiaaDoor
set_option maxRecDepth 20000
open Go.RowKit Go.ChangeShapes Go.WideShapes

instance : Inhabited Pr := ⟨⟨[], zeroC⟩⟩
def SaneP (l : List Pr) : Prop := ∀ p ∈ l, in64c p.c ∧ p.c.d.length ≤ 9223372036854775807 ∧ p.k.length ≤ 9223372036854775807
theorem cellsOf_pair : Tryd.prog.cellsOf 38 = 6 := by kernel_rfl
theorem cellsOf_answer : Tryd.prog.cellsOf 56 = 6 := by kernel_rfl
theorem cellsOf_op : Tryd.prog.cellsOf 24 = 6 := by kernel_rfl
theorem rd_cell {w : World} {c0 c1 c2 c3 c4 : Value} (h : Rd Tryd.prog w 36 [c0, c1, c2, c3, c4]) :
    ∃ c : Cl, c0 = .int .i64 c.k ∧ c2 = .int .i64 c.lo ∧ c3 = .int .i64 c.hi ∧ c4 = .int .i64 c.v ∧ SV w c1 (bys c.d) ∧ c.d.length ≤ 9223372036854775807 ∧ in64c c := by
  obtain ⟨hlen, hf⟩ := h.struct Tryd.underlying36
  have ci : Tryd.prog.cellsOf 3 = 1 := by kernel_rfl
  have cb : Tryd.prog.cellsOf 22 = 1 := by kernel_rfl
  have k0 : Rd Tryd.prog w 3 [c0] := by have := hf 0 _ rfl; simpa [ci, cb, Value.cells] using this
  have k1 : Rd Tryd.prog w 22 [c1] := by have := hf 1 _ rfl; simpa [ci, cb, Value.cells] using this
  have k2 : Rd Tryd.prog w 3 [c2] := by have := hf 2 _ rfl; simpa [ci, cb, Value.cells] using this
  have k3 : Rd Tryd.prog w 3 [c3] := by have := hf 3 _ rfl; simpa [ci, cb, Value.cells] using this
  have k4 : Rd Tryd.prog w 3 [c4] := by have := hf 4 _ rfl; simpa [ci, cb, Value.cells] using this
  obtain ⟨n0, e0, g0⟩ := k0.int Tryd.underlying3
  obtain ⟨n2, e2, g2⟩ := k2.int Tryd.underlying3
  obtain ⟨n3, e3, g3⟩ := k3.int Tryd.underlying3
  obtain ⟨n4, e4, g4⟩ := k4.int Tryd.underlying3
  obtain ⟨D, xs, e1, hs, hl, hx⟩ := k1.row Tryd.underlying22 (by kernel_rfl)
  obtain ⟨m, rfl, _⟩ := row_map (f := fun b : UInt8 => Value.int .u8 b.toNat) (q := fun _ => True) (fun x hm => by
    obtain ⟨n, g1, g2⟩ := (hx x hm).int Tryd.underlying5
    obtain ⟨b, rfl⟩ := u8_wf g2
    exact ⟨b, by simpa using g1, trivial⟩)
  simp only [List.cons.injEq, and_true] at e0 e1 e2 e3 e4
  subst e0 e1 e2 e3 e4
  exact ⟨⟨n0, m, n2, n3, n4⟩, rfl, rfl, rfl, rfl, hs, by simpa using hl, wf_bd g0, wf_bd g2, wf_bd g3, wf_bd g4⟩
theorem str_kst (s : ByteArray) : (⟨s.data.toList.toArray⟩ : ByteArray) = s := by cases s; rfl
theorem rd_pair {w : World} {c0 c1 c2 c3 c4 c5 : Value} (h : Rd Tryd.prog w 38 [c0, c1, c2, c3, c4, c5]) :
    ∃ p : Pr, [c0, c1, c2, c3, c4, c5] = pcs p c2 ∧ SV w c2 (bys p.c.d) ∧ in64c p.c ∧ p.c.d.length ≤ 9223372036854775807 ∧ p.k.length ≤ 9223372036854775807 := by
  obtain ⟨hlen, hf⟩ := h.struct Tryd.underlying38
  have cs : Tryd.prog.cellsOf 9 = 1 := by kernel_rfl
  have k0 : Rd Tryd.prog w 9 [c0] := by have := hf 0 _ rfl; simpa [cs, cellsOf_cell, Value.cells] using this
  have k1 : Rd Tryd.prog w 36 [c1, c2, c3, c4, c5] := by have := hf 1 _ rfl; simpa [cs, cellsOf_cell, Value.cells] using this
  obtain ⟨s, e0, hs⟩ := k0.string Tryd.underlying9
  obtain ⟨c, rfl, rfl, rfl, rfl, h1, h2, h3⟩ := rd_cell k1
  simp only [List.cons.injEq, and_true] at e0
  subst e0
  refine ⟨⟨s.data.toList, c⟩, ?_, h1, h3, h2, ?_⟩
  · unfold pcs kst
    rw [str_kst]
  · have : s.data.toList.length = s.size := by simp
    rw [this]
    unfold maxLen at hs
    omega
theorem rd_pairs {w : World} {cs : List Value} (h : Rd Tryd.prog w 30 cs) : ∃ v l, cs = [v] ∧ PS w v l ∧ SaneP l := by
  rcases h.slice Tryd.underlying30 with rfl | ⟨a, len, cap, rfl, h1, h2, h3⟩
  · exact ⟨_, [], rfl, PS.nil w, fun r h => by cases h⟩
  · rw [cellsOf_pair] at h3
    obtain ⟨V, hV⟩ := Go.Deep.choose_lt (α := Pr × Value) (n := len) (p := fun i x => (∀ j u, (pcs x.1 x.2)[j]? = some u → w.cell? ((a.add (i * 6)).add j) = some u) ∧ SV w x.2 (bys x.1.c.d) ∧ in64c x.1.c ∧ x.1.c.d.length ≤ 9223372036854775807 ∧ x.1.k.length ≤ 9223372036854775807) (fun i hi => by
      obtain ⟨cs', g1, g2⟩ := h3 i (by omega)
      obtain ⟨_, hlen, hat⟩ := World.cells?_some g1
      match cs', hlen with
      | [c0, c1, c2, c3, c4, c5], _ =>
        obtain ⟨p, e, g3, g4, g5, g6⟩ := rd_pair g2
        refine ⟨(p, c2), fun j u hu => ?_, g3, g4, g5, g6⟩
        simp only at hu
        rw [← e] at hu
        have hj := (List.getElem?_eq_some_iff.1 hu).1
        exact (hat j (by simpa using hj)).trans hu)
    refine ⟨_, (List.range len).map fun i => (V i).1, rfl, ⟨some a, cap, by simp, by simpa using h1, h2, (fun h => by cases h), fun hne => ?_⟩, fun r hr => ?_⟩
    · have hlen : 0 < len := by
        rcases Nat.eq_zero_or_pos len with h0 | h0
        · subst h0; simp at hne
        · exact h0
      have hs := World.cell?_spot ((hV 0 hlen).1 0 _ rfl)
      obtain ⟨b, off, spot⟩ := a
      have hspot : spot = none := by
        simpa [Addr.add] using hs
      subst hspot
      refine ⟨b, off, rfl, fun k r hr => ?_⟩
      have hk : k < len := by have := (List.getElem?_eq_some_iff.1 hr).1; simpa using this
      obtain ⟨q1, q2, _⟩ := hV k hk
      have e : (V k).1 = r := by simpa [hk] using hr
      subst e
      refine ⟨(V k).2, fun j u hu => ?_, q2⟩
      have := q1 j u hu
      rw [Addr.add_lit, Addr.add_lit] at this
      exact this
    · obtain ⟨i, hi, rfl⟩ := List.mem_map.1 hr
      have := hV i (List.mem_range.1 hi)
      exact this.2.2
theorem arg_pairs {H : Type} {enc : TypeId × Value → H} {w : World} {v : Value} {d : DataW H} {p : List MemPlace} {r : Reach} {b0 : Nat} (hv : Value.okWide Tryd.prog w r b0 30 v) (h : DataW.Trod enc Tryd.prog w 0 (fun _ => true) true 30 v d p) :
    ∃ x : List Pr, PS w v x ∧ SaneP x := by
  have h1 := Rd.of h
  rw [slice_cells Tryd.underlying30 hv] at h1
  obtain ⟨v', l, e1, h2, h3⟩ := rd_pairs h1
  obtain rfl : v = v' := by simpa using e1
  exact ⟨l, h2, h3⟩
theorem arg_answer {H : Type} {enc : TypeId × Value → H} {w : World} {v : Value} {d : DataW H} {p : List MemPlace} {r : Reach} {b0 : Nat} (hv : Value.okWide Tryd.prog w r b0 56 v) (h : DataW.Trod enc Tryd.prog w 0 (fun _ => true) true 56 v d p) :
    ∃ x : An, ∃ D, v = av D x ∧ SV w D (bys x.c.d) ∧ x.c.d.length ≤ 9223372036854775807 := by
  obtain ⟨cs, rfl, hsz⟩ := okWide_struct Tryd.underlying56 hv
  obtain ⟨hlen, hf⟩ := (Rd.of h).struct Tryd.underlying56
  rw [cellsOf_answer] at hsz
  obtain ⟨l⟩ := cs
  match l, hsz with
  | [c0, c1, c2, c3, c4, c5], _ =>
    have ci : Tryd.prog.cellsOf 54 = 1 := by kernel_rfl
    have k0 : Rd Tryd.prog w 54 [c0] := by have := hf 0 _ rfl; simpa [ci, cellsOf_cell, Value.cells] using this
    have k1 : Rd Tryd.prog w 36 [c1, c2, c3, c4, c5] := by have := hf 1 _ rfl; simpa [ci, cellsOf_cell, Value.cells] using this
    obtain ⟨n0, e0, g0⟩ := k0.int Tryd.underlying54
    obtain ⟨c, rfl, rfl, rfl, rfl, h1, h2, h3⟩ := rd_cell k1
    simp only [List.cons.injEq, and_true] at e0
    subst e0
    exact ⟨⟨n0, c⟩, c2, rfl, h1, h2⟩
end Go.Proofs.YtlpgmmcdcjkkiaaDoor
