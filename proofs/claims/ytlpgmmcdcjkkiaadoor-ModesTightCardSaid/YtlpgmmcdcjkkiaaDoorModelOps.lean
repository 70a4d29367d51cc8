/- Slices of operations in memory; whether there are more, or longer ones, than is asked; how an argument reads that is an operation, or a list of them. -/
import Derived.Test.YtlpgmmcdcjkkiaaDoorModelFind
import Derived.Test.YtlpgmmcdcjkkiaaDoorModelOpen
namespace Go.Proofs.YtlpgmmcdcjkkiaaDoor
set_option maxRecDepth 20000
open Go.RowKit Go.Sort Go.ChangeShapes Go.WideShapes

instance : Inhabited Ox := ⟨⟨0, [], [], 0, 0, 0⟩⟩
def ocs (x : Ox) (D : Value) : List Value := [.int .i64 x.d, kst x.k, D, .int .i64 x.lo, .int .i64 x.hi, .int .i64 x.n]
/-- A slice that reads as operations. -/
def OS (w : World) (v : Value) (l : List Ox) : Prop :=
  ∃ A c, v = .slice A l.length c ∧ l.length ≤ c ∧ c ≤ maxLen ∧ (A = none → c = 0) ∧
    (l ≠ [] → ∃ b off, A = some ⟨b, off, none⟩ ∧ ∀ k p, l[k]? = some p → ∃ D, w.rangeAt b (off + k * 6) (ocs p D) ∧ SV w D (bys p.b))
theorem OS.keep {w w' : World} {v : Value} {l : List Ox} (h : OS w v l) (k : Keeps w w') : OS w' v l := by
  obtain ⟨A, c, h1, h2, h3, h4, h5⟩ := h
  refine ⟨A, c, h1, h2, h3, h4, fun hne => ?_⟩
  obtain ⟨b, off, hA, hc⟩ := h5 hne
  refine ⟨b, off, hA, fun j r hr => ?_⟩
  obtain ⟨D, g1, g2⟩ := hc j r hr
  exact ⟨D, rangeAt_keep g1 k, g2.keep k⟩
theorem OS.on {w w' : World} {v : Value} {l : List Ox} (h : OS w v l) (k : Below w.heap.size w w') : OS w' v l := h.keep (Keeps.below k)
theorem OS.nil (w : World) : OS w (.slice none 0 0) [] := ⟨none, 0, rfl, Nat.le_refl _, by simp [maxLen], fun _ => rfl, fun h => (h rfl).elim⟩
theorem OS.bd {w : World} {A : Option Addr} {n c : Nat} {l : List Ox} (h : OS w (.slice A n c) l) : n = l.length ∧ n ≤ c ∧ c ≤ 9223372036854775807 := by
  obtain ⟨A', c', e, h1, h2, h3, h4⟩ := h
  injection e with e1 e2 e3
  subst e1 e2 e3
  exact ⟨rfl, h1, h2⟩
theorem OS.slice {w : World} {v : Value} {l : List Ox} (h : OS w v l) : ∃ A c, v = .slice A l.length c := by
  obtain ⟨A, c, e, _⟩ := h
  exact ⟨A, c, e⟩
/-- One of them: where it lies, and what it is. -/
theorem OS.at6 {w : World} {A : Option Addr} {n c : Nat} {l : List Ox} (h : OS w (.slice A n c) l) {k : Nat} (hk : k < n) : ∃ b off p Ad cd, A = some ⟨b, off, none⟩ ∧ l[k]? = some p ∧ w.cell? ⟨b, off + k * 6, none⟩ = some (.int .i64 p.d) ∧ w.cell? ⟨b, off + k * 6 + 1, none⟩ = some (.string ⟨p.k.toArray⟩) ∧
    w.cell? ⟨b, off + k * 6 + 2, none⟩ = some (.slice Ad p.b.length cd) ∧ w.cell? ⟨b, off + k * 6 + 3, none⟩ = some (.int .i64 p.lo) ∧ w.cell? ⟨b, off + k * 6 + 4, none⟩ = some (.int .i64 p.hi) ∧ w.cell? ⟨b, off + k * 6 + 5, none⟩ = some (.int .i64 p.n) ∧ SV w (.slice Ad p.b.length cd) (bys p.b) := by
  obtain ⟨A', c', e, h1, h2, h3, h4⟩ := h
  injection e with e1 e2 e3
  subst e1 e2 e3
  obtain ⟨b, off, hA, hc⟩ := h4 (by rintro rfl; simp at hk)
  obtain ⟨D, g, g2⟩ := hc k _ (List.getElem?_eq_getElem hk)
  obtain ⟨Ad, cd, hD, _⟩ := id g2
  rw [bys_len] at hD
  subst hD
  exact ⟨b, off, l[k], Ad, cd, hA, List.getElem?_eq_getElem hk, g 0 _ rfl, g 1 _ rfl, g 2 _ rfl, g 3 _ rfl, g 4 _ rfl, g 5 _ rfl, g2⟩
/-- A row of one operation. -/
theorem OS.one {w : World} {g : Nat} {t : TypeId} {x : Ox} {D : Value} (h : Whole w g t (ocs x D).toArray) (hD : SV w D (bys x.b)) : OS w (.slice (some ⟨g, 0, none⟩) 1 1) [x] := by
  refine ⟨some ⟨g, 0, none⟩, 1, rfl, Nat.le_refl _, by simp [maxLen], (fun h => by cases h), fun _ => ⟨g, 0, rfl, fun k p hp => ?_⟩⟩
  cases k with
  | zero =>
    simp at hp
    subst hp
    refine ⟨D, fun j u hu => ?_, hD⟩
    have hj := (List.getElem?_eq_some_iff.1 hu).1
    have := h.cell j
    rw [show 0 + 0 * 6 + j = j by omega]
    rw [this]
    simpa using hu
  | succ k => simp at hp
def MuchedO (l : List Ox) (w : World) (e : Ending) (w' : World) : Prop := ∃ g, e = .returned (.bool g) ∧ (g = false → l.length ≤ 60 ∧ ∀ p ∈ l, p.k.length ≤ 300 ∧ p.b.length ≤ 300) ∧ Below w.heap.size w w'
set_option maxHeartbeats 1000000 in
/-- Where it says no, the operations are few and short. -/
theorem much9_any (v : Value) (l : List Ox) (w : World) (hv : OS w v l) (hl : ∀ p ∈ l, p.b.length ≤ 9223372036854775807 ∧ p.k.length ≤ 9223372036854775807) :
    Calls Tryd.prog 16 #[v] w (MuchedO l w) := by
  obtain ⟨A, c, rfl, _⟩ := id hv
  have l3 := hv.bd.2
  have HV := Lib.hid hv
  clear hv
  go_enter Tryd.func16, Tryd.ntmps16
  go_wp2
  go_loopw [3] (fun i wr => ∃ k : Nat, k ≤ l.length ∧ k ≤ 100 ∧ i = .int .i64 k ∧ (∀ j p, j < k → l[j]? = some p → p.k.length ≤ 300 ∧ p.b.length ≤ 300) ∧ wr = w) (fun i _ => l.length - (intOf i).toNat)
  case atStart => exact ⟨0, by omega, by omega, rfl, fun j r h => by omega, rfl⟩
  case round =>
    obtain ⟨k, hk, hk1, rfl, htk, rfl⟩ := hrel
    by_cases hlt : k < l.length
    · by_cases h100 : k < 100
      · obtain ⟨b, off, p, Ad, cd, rfl, hp, c0, c1, c2, c3, c4, c5, hd⟩ := OS.at6 HV.out hlt
        obtain ⟨hl1, hl2⟩ := hl p (List.mem_of_getElem? hp)
        clear hd
        have hks : (⟨p.k.toArray⟩ : ByteArray).size = p.k.length := rfl
        by_cases h6 : 300 < p.k.length
        · go_wp2
          go_ret
          exact ⟨true, rfl, (fun h => (by cases h)), Below.refl _ _⟩
        · by_cases h7 : 300 < p.b.length
          · go_wp2
            go_ret
            exact ⟨true, rfl, (fun h => (by cases h)), Below.refl _ _⟩
          · go_wp2
            go_roundw
            case rel => exact ⟨k + 1, by omega, by omega, by go_num, fun j q hj hq => by
              rcases Nat.lt_or_ge j k with h | h
              · exact htk j q h hq
              · have : j = k := by omega
                subst this
                rw [hp] at hq
                injection hq with hq
                subst hq
                omega, by trivial⟩
            case measure => simp [intOf]; omega
      · have h60 : 60 < l.length := by omega
        go_wp2
        go_ret
        exact ⟨_, rfl, (fun h => (by have := of_decide_eq_false h; omega)), Below.refl _ _⟩
    · obtain rfl : k = l.length := by omega
      have hall : ∀ r ∈ l, r.k.length ≤ 300 ∧ r.b.length ≤ 300 := fun r hr => by
        obtain ⟨j, hj, rfl⟩ := List.getElem_of_mem hr
        exact htk j _ hj (List.getElem?_eq_getElem hj)
      go_wp2
      go_ret
      exact ⟨_, rfl, (fun h => ⟨(by have := of_decide_eq_false h; omega), hall⟩), Below.refl _ _⟩
/-- An operation's cells. -/
theorem rd_op {w : World} {c0 c1 c2 c3 c4 c5 : Value} (h : Rd Tryd.prog w 24 [c0, c1, c2, c3, c4, c5]) :
    ∃ x : Ox, [c0, c1, c2, c3, c4, c5] = ocs x c2 ∧ SV w c2 (bys x.b) ∧ in64x x ∧ x.b.length ≤ 9223372036854775807 ∧ x.k.length ≤ 9223372036854775807 := by
  obtain ⟨hlen, hf⟩ := h.struct Tryd.underlying24
  have ci : Tryd.prog.cellsOf 3 = 1 := by kernel_rfl
  have cs : Tryd.prog.cellsOf 9 = 1 := by kernel_rfl
  have cb : Tryd.prog.cellsOf 22 = 1 := by kernel_rfl
  have k0 : Rd Tryd.prog w 3 [c0] := by have := hf 0 _ rfl; simpa [ci, cs, cb, Value.cells] using this
  have k1 : Rd Tryd.prog w 9 [c1] := by have := hf 1 _ rfl; simpa [ci, cs, cb, Value.cells] using this
  have k2 : Rd Tryd.prog w 22 [c2] := by have := hf 2 _ rfl; simpa [ci, cs, cb, Value.cells] using this
  have k3 : Rd Tryd.prog w 3 [c3] := by have := hf 3 _ rfl; simpa [ci, cs, cb, Value.cells] using this
  have k4 : Rd Tryd.prog w 3 [c4] := by have := hf 4 _ rfl; simpa [ci, cs, cb, Value.cells] using this
  have k5 : Rd Tryd.prog w 3 [c5] := by have := hf 5 _ rfl; simpa [ci, cs, cb, Value.cells] using this
  obtain ⟨n0, e0, g0⟩ := k0.int Tryd.underlying3
  obtain ⟨s, e1, hs⟩ := k1.string Tryd.underlying9
  obtain ⟨n3, e3, g3⟩ := k3.int Tryd.underlying3
  obtain ⟨n4, e4, g4⟩ := k4.int Tryd.underlying3
  obtain ⟨n5, e5, g5⟩ := k5.int Tryd.underlying3
  obtain ⟨D, xs, e2, hd, hl, hx⟩ := k2.row Tryd.underlying22 (by kernel_rfl)
  obtain ⟨m, rfl, _⟩ := row_map (f := fun b : UInt8 => Value.int .u8 b.toNat) (q := fun _ => True) (fun x hm => by
    obtain ⟨n, g1, g2⟩ := (hx x hm).int Tryd.underlying5
    obtain ⟨b, rfl⟩ := u8_wf g2
    exact ⟨b, by simpa using g1, trivial⟩)
  simp only [List.cons.injEq, and_true] at e0 e1 e2 e3 e4 e5
  subst e0 e1 e2 e3 e4 e5
  refine ⟨⟨n0, s.data.toList, m, n3, n4, n5⟩, ?_, hd, ⟨wf_bd g0, wf_bd g3, wf_bd g4, wf_bd g5⟩, by simpa using hl, ?_⟩
  · unfold ocs kst
    rw [str_kst]
  · have : s.data.toList.length = s.size := by simp
    show s.data.toList.length ≤ _
    rw [this]
    unfold maxLen at hs
    omega
theorem arg_op {H : Type} {enc : TypeId × Value → H} {w : World} {v : Value} {d : DataW H} {p : List MemPlace} {r : Reach} {b0 : Nat} (hv : Value.okWide Tryd.prog w r b0 24 v) (h : DataW.Trod enc Tryd.prog w 0 (fun _ => true) true 24 v d p) :
    ∃ x : Ox, ∃ D, v = ov D x ∧ SV w D (bys x.b) ∧ x.b.length ≤ 9223372036854775807 ∧ x.k.length ≤ 9223372036854775807 ∧ in64x x := by
  obtain ⟨cs, rfl, hsz⟩ := okWide_struct Tryd.underlying24 hv
  have hr := Rd.of h
  rw [cellsOf_op] at hsz
  obtain ⟨l⟩ := cs
  match l, hsz with
  | [c0, c1, c2, c3, c4, c5], _ =>
    obtain ⟨x, e, g1, g2, g3, g4⟩ := rd_op hr
    refine ⟨x, c2, ?_, g1, g3, g4, g2⟩
    rw [e]
    rfl
def SaneO (l : List Ox) : Prop := ∀ x ∈ l, in64x x ∧ x.b.length ≤ 9223372036854775807 ∧ x.k.length ≤ 9223372036854775807
theorem rd_ops {w : World} {cs : List Value} (h : Rd Tryd.prog w 33 cs) : ∃ v l, cs = [v] ∧ OS w v l ∧ SaneO l := by
  rcases h.slice Tryd.underlying33 with rfl | ⟨a, len, cap, rfl, h1, h2, h3⟩
  · exact ⟨_, [], rfl, OS.nil w, fun r h => by cases h⟩
  · rw [cellsOf_op] at h3
    obtain ⟨V, hV⟩ := Go.Deep.choose_lt (α := Ox × Value) (n := len) (p := fun i x => (∀ j u, (ocs x.1 x.2)[j]? = some u → w.cell? ((a.add (i * 6)).add j) = some u) ∧ SV w x.2 (bys x.1.b) ∧ in64x x.1 ∧ x.1.b.length ≤ 9223372036854775807 ∧ x.1.k.length ≤ 9223372036854775807) (fun i hi => by
      obtain ⟨cs', g1, g2⟩ := h3 i (by omega)
      obtain ⟨_, hlen, hat⟩ := World.cells?_some g1
      match cs', hlen with
      | [c0, c1, c2, c3, c4, c5], _ =>
        obtain ⟨p, e, g3, g4, g5, g6⟩ := rd_op g2
        refine ⟨(p, c2), fun j u hu => ?_, g3, g4, g5, g6⟩
        simp only at hu
        rw [← e] at hu
        have hj := (List.getElem?_eq_some_iff.1 hu).1
        exact (hat j (by simpa using hj)).trans hu)
    refine ⟨_, (List.range len).map fun i => (V i).1, rfl, ⟨some a, cap, by simp, by simpa using h1, h2, (fun h => by cases h), fun hne => ?_⟩, fun r hr => ?_⟩
    · have hlen : 0 < len := by
        rcases Nat.eq_zero_or_pos len with h0 | h0
        · subst h0; simp at hne
        · exact h0
      have hs := World.cell?_spot ((hV 0 hlen).1 0 _ rfl)
      obtain ⟨b, off, spot⟩ := a
      have hspot : spot = none := by
        simpa [Addr.add] using hs
      subst hspot
      refine ⟨b, off, rfl, fun k r hr => ?_⟩
      have hk : k < len := by have := (List.getElem?_eq_some_iff.1 hr).1; simpa using this
      obtain ⟨q1, q2, _⟩ := hV k hk
      have e : (V k).1 = r := by simpa [hk] using hr
      subst e
      refine ⟨(V k).2, fun j u hu => ?_, q2⟩
      have := q1 j u hu
      rw [Addr.add_lit, Addr.add_lit] at this
      exact this
    · obtain ⟨i, hi, rfl⟩ := List.mem_map.1 hr
      have := hV i (List.mem_range.1 hi)
      exact this.2.2
theorem arg_ops {H : Type} {enc : TypeId × Value → H} {w : World} {v : Value} {d : DataW H} {p : List MemPlace} {r : Reach} {b0 : Nat} (hv : Value.okWide Tryd.prog w r b0 33 v) (h : DataW.Trod enc Tryd.prog w 0 (fun _ => true) true 33 v d p) :
    ∃ x : List Ox, OS w v x ∧ SaneO x := by
  have h1 := Rd.of h
  rw [slice_cells Tryd.underlying33 hv] at h1
  obtain ⟨v', l, e1, h2, h3⟩ := rd_ops h1
  obtain rfl : v = v' := by simpa using e1
  exact ⟨l, h2, h3⟩
end Go.Proofs.YtlpgmmcdcjkkiaaDoor
