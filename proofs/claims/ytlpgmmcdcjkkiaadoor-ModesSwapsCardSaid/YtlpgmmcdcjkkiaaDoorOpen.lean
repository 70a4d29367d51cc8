/- How arguments read, whatever their types: what the frame's reading of a law's argument comes to. Nothing here speaks of the program. -/
import Derived.OpenShut
import Derived.ChangeOld
import Derived.Deep.Slices
import Derived.ProofKit
import Derived.Test.YtlpgmmcdcjkkiaaDoorBase
namespace Go.Proofs.YtlpgmmcdcjkkiaaDoor
set_option maxRecDepth 20000
open Go.RowKit Go.ChangeShapes Go.WideShapes

/-- These cells read as a value of type T. -/
def Rd (P : Program) (w : World) (T : TypeId) (cs : List Value) : Prop :=
  ∃ (H : Type) (enc : TypeId × Value → H) (fuel : Nat) (x : DataW H × List MemPlace), DataW.trod enc P w 0 (fun _ => true) true fuel T cs = some x

section
variable {H : Type} {enc : TypeId × Value → H} {P : Program} {w : World} {t e : TypeId} {v : Value} {d : DataW H} {p : List MemPlace} {cs : List Value} {k : IntKind}

theorem Rd.of (h : DataW.Trod enc P w 0 (fun _ => true) true t v d p) : Rd P w t v.cells.toList := by
  obtain ⟨fuel, h⟩ := h
  exact ⟨H, enc, fuel, _, h⟩
theorem Rd.int (ht : P.underlying t = some (.int k)) (h : Rd P w t cs) : ∃ n, cs = [.int k n] ∧ (Lit.int k n).wf = true := by
  obtain ⟨H, enc, fuel, x, h⟩ := h
  obtain ⟨n, h1, _, h2⟩ := DataW.trod_int ht h
  exact ⟨n, h1, h2⟩
theorem Rd.bool (ht : P.underlying t = some .bool) (h : Rd P w t cs) : ∃ b, cs = [.bool b] := by
  obtain ⟨H, enc, fuel, x, h⟩ := h
  obtain ⟨b, h1, _⟩ := DataW.trod_bool ht h
  exact ⟨b, h1⟩
theorem Rd.string (ht : P.underlying t = some .string) (h : Rd P w t cs) : ∃ s : ByteArray, cs = [.string s] ∧ s.size ≤ maxLen := by
  obtain ⟨H, enc, fuel, x, h⟩ := h
  obtain ⟨s, h1, _, h2⟩ := DataW.trod_string ht h
  exact ⟨s, h1, h2⟩
/-- A slice, at every place up to its capacity. -/
theorem Rd.slice (ht : P.underlying t = some (.slice e)) (h : Rd P w t cs) : cs = [.slice none 0 0] ∨ ∃ (a : Addr) (len cap : Nat), cs = [.slice (some a) len cap] ∧ len ≤ cap ∧ cap ≤ maxLen ∧
    ∀ i, i < cap → ∃ cs', w.cells? 0 (a.add (i * P.cellsOf e)) (P.cellsOf e) = some cs' ∧ Rd P w e cs' := by
  obtain ⟨H, enc, fuel, x, h⟩ := h
  rcases Go.Deep.open_slice ht h with ⟨h0, _⟩ | ⟨a, len, cap, m, n, D, Pl, hcs, hb, hl, hm, hmm, hx, hi⟩
  · exact .inl h0
  · simp only [if_true] at hmm
    refine .inr ⟨a, len, cap, hcs, hl, hm, fun i hlt => ?_⟩
    obtain ⟨cs', h1, h2⟩ := hi i (by omega)
    exact ⟨cs', h1, H, enc, n, _, h2⟩
theorem Rd.struct {fs : Array Field} (ht : P.underlying t = some (.struct fs)) (h : Rd P w t cs) : cs.length = P.cellsOf t ∧
    ∀ (i : Nat) (f : Field), fs[i]? = some f → Rd P w f.type ((cs.drop f.offset).take (P.cellsOf f.type)) := by
  obtain ⟨H, enc, fuel, x, h⟩ := h
  obtain ⟨xs, n, _, _, h1, h2, h3⟩ := DataW.trod_struct ht h
  refine ⟨h1, fun i f hf => ?_⟩
  have hi : i < fs.size := (Array.getElem?_eq_some_iff.1 hf).1
  have := h3 i f hf
  rw [List.getElem?_eq_getElem (by omega)] at this
  exact ⟨H, enc, n, _, this⟩
theorem Rd.array {n : Nat} (ht : P.underlying t = some (.array n e)) (h : Rd P w t cs) : cs.length = P.cellsOf t ∧
    ∀ i, i < n → Rd P w e ((cs.drop (i * P.cellsOf e)).take (P.cellsOf e)) := by
  obtain ⟨H, enc, fuel, x, h⟩ := h
  obtain ⟨xs, m, _, _, h1, h2, h3⟩ := DataW.trod_array ht h
  refine ⟨h1, fun i hi => ?_⟩
  have := h3 i hi
  rw [List.getElem?_eq_getElem (by omega)] at this
  exact ⟨H, enc, m, _, this⟩

/-- A slice of one-cell values. -/
theorem Rd.row (ht : P.underlying t = some (.slice e)) (hc : P.cellsOf e = 1) (h : Rd P w t cs) : ∃ v xs, cs = [v] ∧ SV w v xs ∧ xs.length ≤ 9223372036854775807 ∧ ∀ x ∈ xs, Rd P w e [x] := by
  rcases h.slice ht with rfl | ⟨a, len, cap, rfl, h1, h2, h3⟩
  · exact ⟨_, [], rfl, SV.nil w, by simp, fun x hx => by cases hx⟩
  · rw [hc] at h3
    obtain ⟨V, hV⟩ := Go.Deep.choose_lt (α := Value) (n := len) (p := fun i v => w.cell? (a.add i) = some v ∧ Rd P w e [v]) (fun i hi => by
      obtain ⟨cs', g1, g2⟩ := h3 i (by omega)
      rw [Nat.mul_one] at g1
      obtain ⟨_, hlen, _⟩ := World.cells?_some g1
      match cs', hlen with
      | [v], _ => exact ⟨v, cell_of_cells?_one g1, g2⟩)
    refine ⟨_, (List.range len).map V, rfl, ⟨some a, cap, by simp, by simpa using h1, h2, (fun h => by cases h), fun hne => ?_⟩, by unfold maxLen at h2; simp; omega, fun x hx => ?_⟩
    · have hlen : 0 < len := by
        rcases Nat.eq_zero_or_pos len with h0 | h0
        · subst h0; simp at hne
        · exact h0
      have hs := World.cell?_spot (hV 0 hlen).1
      obtain ⟨b, off, spot⟩ := a
      have hsp : spot = none := by simpa [Addr.add] using hs
      subst hsp
      refine ⟨b, off, rfl, fun j u hu => ?_⟩
      have hj : j < len := by have := (List.getElem?_eq_some_iff.1 hu).1; simpa using this
      have := (hV j hj).1
      rw [Addr.add_lit] at this
      rw [this, ← hu]
      simp [hj]
    · obtain ⟨i, hi, rfl⟩ := List.mem_map.1 hx
      exact (hV i (List.mem_range.1 hi)).2

theorem row_map {α : Type} {f : α → Value} {q : α → Prop} : ∀ {xs : List Value}, (∀ x ∈ xs, ∃ a, x = f a ∧ q a) → ∃ l : List α, xs = l.map f ∧ ∀ a ∈ l, q a
  | [], _ => ⟨[], rfl, fun a h => by cases h⟩
  | x :: xs, h => by
    obtain ⟨a, rfl, ha⟩ := h x (by simp)
    obtain ⟨l, rfl, hl⟩ := row_map (xs := xs) (fun y hy => h y (List.mem_cons_of_mem _ hy))
    exact ⟨a :: l, rfl, fun b hb => by
      rcases List.mem_cons.1 hb with rfl | hb
      · exact ha
      · exact hl b hb⟩

/-! ### A law's arguments, by their types -/
variable {r : Reach} {b0 : Nat}
theorem slice_cells (ht : P.underlying t = some (.slice e)) (hv : Value.okWide P w r b0 t v) : v.cells.toList = [v] := by
  obtain ⟨a, len, cap, rfl⟩ := okWide_slice ht hv
  rfl
theorem arg_int (ht : P.underlying t = some (.int k)) (hv : Value.okWide P w r b0 t v) (h : DataW.Trod enc P w 0 (fun _ => true) true t v d p) : ∃ x : Int, v = .int k x ∧ (Lit.int k x).wf = true := by
  obtain ⟨n, rfl⟩ := okWide_int ht hv
  obtain ⟨m, h1, h2⟩ := (Rd.of h).int ht
  refine ⟨n, rfl, ?_⟩
  have : m = n := by simpa [Value.cells] using h1.symm
  exact this ▸ h2
theorem arg_bool (ht : P.underlying t = some .bool) (hv : Value.okWide P w r b0 t v) (_h : DataW.Trod enc P w 0 (fun _ => true) true t v d p) : ∃ x : Bool, v = .bool x ∧ True := by
  obtain ⟨n, rfl⟩ := okWide_bool ht hv
  exact ⟨n, rfl, trivial⟩
theorem arg_string (ht : P.underlying t = some .string) (hv : Value.okWide P w r b0 t v) (h : DataW.Trod enc P w 0 (fun _ => true) true t v d p) : ∃ x : ByteArray, v = .string x ∧ x.size ≤ 9223372036854775807 := by
  obtain ⟨s, rfl⟩ := okWide_string ht hv
  obtain ⟨s', h1, h2⟩ := (Rd.of h).string ht
  refine ⟨s, rfl, ?_⟩
  have : s' = s := by simpa [Value.cells] using h1.symm
  exact this ▸ h2
theorem arg_row (ht : P.underlying t = some (.slice e)) (hc : P.cellsOf e = 1) (hv : Value.okWide P w r b0 t v) (h : DataW.Trod enc P w 0 (fun _ => true) true t v d p) :
    ∃ xs, SV w v xs ∧ xs.length ≤ 9223372036854775807 ∧ ∀ x ∈ xs, Rd P w e [x] := by
  have h1 := Rd.of h
  rw [slice_cells ht hv] at h1
  obtain ⟨v', xs, e1, h2, h3, h4⟩ := h1.row ht hc
  obtain rfl : v = v' := by simpa using e1
  exact ⟨xs, h2, h3, h4⟩
theorem arg_ints (ht : P.underlying t = some (.slice e)) (he : P.underlying e = some (.int k)) (hc : P.cellsOf e = 1) (hv : Value.okWide P w r b0 t v) (h : DataW.Trod enc P w 0 (fun _ => true) true t v d p) :
    ∃ x : List Int, SV w v (x.map (Value.int k)) ∧ x.length ≤ 9223372036854775807 ∧ ∀ n ∈ x, (Lit.int k n).wf = true := by
  obtain ⟨xs, h1, h2, h3⟩ := arg_row ht hc hv h
  obtain ⟨l, rfl, hl⟩ := row_map (f := Value.int k) (q := fun n => (Lit.int k n).wf = true) (fun x hx => by
    obtain ⟨n, g1, g2⟩ := (h3 x hx).int he
    exact ⟨n, by simpa using g1, g2⟩)
  exact ⟨l, h1, by simpa using h2, hl⟩
theorem arg_bools (ht : P.underlying t = some (.slice e)) (he : P.underlying e = some .bool) (hc : P.cellsOf e = 1) (hv : Value.okWide P w r b0 t v) (h : DataW.Trod enc P w 0 (fun _ => true) true t v d p) :
    ∃ x : List Bool, SV w v (x.map Value.bool) ∧ x.length ≤ 9223372036854775807 := by
  obtain ⟨xs, h1, h2, h3⟩ := arg_row ht hc hv h
  obtain ⟨l, rfl, _⟩ := row_map (f := Value.bool) (q := fun _ => True) (fun x hx => by
    obtain ⟨n, g1⟩ := (h3 x hx).bool he
    exact ⟨n, by simpa using g1, trivial⟩)
  exact ⟨l, h1, by simpa using h2⟩
theorem arg_strings (ht : P.underlying t = some (.slice e)) (he : P.underlying e = some .string) (hc : P.cellsOf e = 1) (hv : Value.okWide P w r b0 t v) (h : DataW.Trod enc P w 0 (fun _ => true) true t v d p) :
    ∃ x : List ByteArray, SV w v (x.map Value.string) ∧ x.length ≤ 9223372036854775807 ∧ ∀ s ∈ x, s.size ≤ 9223372036854775807 := by
  obtain ⟨xs, h1, h2, h3⟩ := arg_row ht hc hv h
  obtain ⟨l, rfl, hl⟩ := row_map (f := Value.string) (q := fun s => s.size ≤ 9223372036854775807) (fun x hx => by
    obtain ⟨n, g1, g2⟩ := (h3 x hx).string he
    exact ⟨n, by simpa using g1, g2⟩)
  exact ⟨l, h1, by simpa using h2, hl⟩
theorem u8_wf {n : Int} (h : (Lit.int .u8 n).wf = true) : ∃ b : UInt8, n = b.toNat := by
  have := bounds_u8 h
  refine ⟨UInt8.ofNat n.toNat, ?_⟩
  simp only [UInt8.toNat_ofNat']
  omega
theorem arg_bytes (ht : P.underlying t = some (.slice e)) (he : P.underlying e = some (.int .u8)) (hc : P.cellsOf e = 1) (hv : Value.okWide P w r b0 t v) (h : DataW.Trod enc P w 0 (fun _ => true) true t v d p) :
    ∃ x : List UInt8, SV w v (bys x) ∧ x.length ≤ 9223372036854775807 := by
  obtain ⟨xs, h1, h2, h3⟩ := arg_row ht hc hv h
  obtain ⟨l, rfl, _⟩ := row_map (f := fun b : UInt8 => Value.int .u8 b.toNat) (q := fun _ => True) (fun x hx => by
    obtain ⟨n, g1, g2⟩ := (h3 x hx).int he
    obtain ⟨b, rfl⟩ := u8_wf g2
    exact ⟨b, by simpa using g1, trivial⟩)
  exact ⟨l, h1, by simpa using h2⟩
end
end Go.Proofs.YtlpgmmcdcjkkiaaDoor
