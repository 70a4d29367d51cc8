/- More words on memory: a block that is known whole; a slice cut; a literal's row; a row of the call's own from a lower block on. Nothing here speaks of the program. -/
import Derived.Deep.WholeRow
import Derived.Laws.CopyOwn
import Derived.Deep.Draws
import Derived.Test.YtlpgmmcdcjkkiaaDoorBase
namespace Go.Proofs.YtlpgmmcdcjkkiaaDoor
set_option maxRecDepth 20000
open Go.RowKit

/-- These cells are all of block g, and each may be written. -/
def Whole (w : World) (g : Nat) (t : TypeId) (cs : Array Value) : Prop := w.heap[g]? = some (.cells cs t (0, 0))
namespace Whole
variable {w : World} {g : Nat} {t : TypeId} {cs : Array Value}
theorem lt (h : Whole w g t cs) : g < w.heap.size := (Array.getElem?_eq_some_iff.1 h).1
theorem cell (h : Whole w g t cs) (i : Nat) : w.cell? ⟨g, i, none⟩ = cs[i]? := cell_of_row w g i cs t (0, 0) h
theorem free (h : Whole w g t cs) (i : Nat) : w.frozen? ⟨g, i, none⟩ = false := frozen_of_row w g i cs t h
theorem put (h : Whole w g t cs) (i : Nat) (u : Value) : Whole (w.setCell ⟨g, i, none⟩ u) g t (cs.setIfInBounds i u) := heap_setCell_same w g i cs t u h
theorem apart (h : Whole w g t cs) {b i : Nat} (hb : g ≠ b) (u : Value) : Whole (w.setCell ⟨b, i, none⟩ u) g t cs := (heap_setCell_other w ⟨b, i, none⟩ g u hb).trans h
theorem made (w : World) (t : TypeId) (cs : Array Value) : Whole (w.alloc (.cells cs t)) w.heap.size t cs := heap_alloc_new w _
theorem later (h : Whole w g t cs) (o : Obj) : Whole (w.alloc o) g t cs := (heap_alloc_old w o h.lt).trans h
theorem second (w : World) (o : Obj) (t : TypeId) (cs : Array Value) : Whole ((w.alloc o).alloc (.cells cs t)) (w.heap.size + 1) t cs := by simpa using made (w.alloc o) t cs
theorem third (w : World) (o o' : Obj) (t : TypeId) (cs : Array Value) : Whole (((w.alloc o).alloc o').alloc (.cells cs t)) (w.heap.size + 1 + 1) t cs := by simpa using made ((w.alloc o).alloc o') t cs
theorem below {w' : World} {B : Nat} (h : Whole w g t cs) (hb : Below B w w') (hg : g < B) : Whole w' g t cs := (hb.block g hg).trans h
end Whole

theorem own_lower {w : World} {b b' : Nat} {e : TypeId} {size : Nat} {v : Value} {n : Nat} {xs : List Value} (h : w.ownsRow b e size v n xs) (hb : b' ≤ b) : w.ownsRow b' e size v n xs := by
  refine ⟨h.1, ?_⟩
  rcases h.2 with h' | ⟨g, cap, cur, hv, h1, rest⟩
  · exact .inl h'
  · exact .inr ⟨g, cap, cur, hv, by omega, rest⟩

theorem SV.cut {w : World} {A : Option Addr} {n c : Nat} {l : List UInt8} (h : SV w (.slice A n c) (bys l)) (k : Nat) (hk : k ≤ l.length) :
    SV w (.slice (if c = k then A else A.map (·.add k)) (n - k) (c - k)) (bys (l.drop k)) := by
  obtain ⟨A', c', e, h1, h2, h3, h4⟩ := h
  injection e with e1 e2 e3
  subst e1 e2 e3
  rw [bys_len] at *
  refine ⟨_, c - k, by rw [bys_len, List.length_drop], by rw [bys_len, List.length_drop]; omega, by omega, ?_, ?_⟩
  · intro hn
    by_cases hck : c = k
    · omega
    · rw [if_neg hck] at hn
      cases A with
      | none => have := h3 rfl; omega
      | some a => cases hn
  · intro hne
    have hlt : k < l.length := by
      rcases Nat.lt_or_ge k l.length with h | h
      · exact h
      · rw [List.drop_of_length_le h] at hne; exact (hne rfl).elim
    obtain ⟨b, off, rfl, hc⟩ := h4 (bys_ne (by omega))
    rw [if_neg (by omega)]
    refine ⟨b, off + k, by simp [Addr.add_lit], fun j u hu => ?_⟩
    rw [Nat.add_assoc]
    refine hc (k + j) u ?_
    simpa [bys, List.getElem?_drop] using hu

/-- The cells of a slice of bytes, one at a time. -/
def Cells8 (w : World) (A : Option Addr) (l : List UInt8) : Prop := ∀ k x, l[k]? = some x → ∃ b off, A = some ⟨b, off, none⟩ ∧ w.cell? ⟨b, off + k, none⟩ = some (.int .u8 (x : UInt8).toNat)
theorem SV.cells8 {w : World} {A : Option Addr} {n c : Nat} {l : List UInt8} (h : SV w (.slice A n c) (bys l)) : Cells8 w A l := by
  intro k x hx
  obtain ⟨A', c', e, h1, h2, h3, h4⟩ := h
  injection e with e1 _ e2
  subst e1 e2
  obtain ⟨b, off, hA, hc⟩ := h4 (bys_ne (by have := (List.getElem?_eq_some_iff.1 hx).1; omega))
  exact ⟨b, off, hA, hc k _ (by simp [bys, hx])⟩
theorem sv_lit (w : World) (l : List UInt8) (n : Nat) (e : TypeId) (fr : Nat × Nat) (hn : l.length = n) (hm : n ≤ 1073741824) : SV (w.alloc (.cells (bys l).toArray e fr)) (.slice (some ⟨w.heap.size, 0, none⟩) n n) (bys l) := by
  refine ⟨_, n, by rw [bys_len, hn], by rw [bys_len, hn]; exact Nat.le_refl _, by unfold maxLen; omega, (fun h => by cases h), fun _ => ⟨_, _, rfl, fun j u hu => ?_⟩⟩
  rw [cell_of_row _ _ _ _ _ _ (heap_alloc_new w _)]
  simpa using hu

theorem bys_set (p m : List UInt8) (n j : Nat) (hp : p.length = n) (y : UInt8) : (bys (p ++ m)).set (n + j) (.int .u8 y.toNat) = bys (p ++ m.set j y) := by
  subst hp
  simp [bys, List.map_set]

/-- A place of a slice: where it lies, and what it holds. -/
theorem SV.at {w : World} {A : Option Addr} {n c : Nat} {xs : List Value} (h : SV w (.slice A n c) xs) {k : Nat} (hk : k < n) : ∃ b off u, A = some ⟨b, off, none⟩ ∧ xs[k]? = some u ∧ w.cell? ⟨b, off + k, none⟩ = some u := by
  obtain ⟨A', c', e, h1, h2, h3, h4⟩ := h
  injection e with e1 e2 e3
  subst e1 e2 e3
  obtain ⟨b, off, hA, hc⟩ := h4 (by rintro rfl; simp at hk)
  exact ⟨b, off, xs[k], hA, List.getElem?_eq_getElem hk, hc k _ (List.getElem?_eq_getElem hk)⟩
theorem SV.bd {w : World} {A : Option Addr} {n c : Nat} {xs : List Value} (h : SV w (.slice A n c) xs) : n = xs.length ∧ n ≤ c ∧ c ≤ 9223372036854775807 := by
  obtain ⟨A', c', e, h1, h2, h3, h4⟩ := h
  injection e with e1 e2 e3
  subst e1 e2 e3
  exact ⟨rfl, h1, h2⟩

/-- A slice cut from a place on. -/
theorem SV.cutv {w : World} {A : Option Addr} {n c : Nat} {xs : List Value} (h : SV w (.slice A n c) xs) (k : Nat) (hk : k ≤ n) : SV w (.slice (if c = k then A else A.map (·.add k)) (n - k) (c - k)) (xs.drop k) := by
  obtain ⟨A', c', e, h1, h2, h3, h4⟩ := h
  injection e with e1 e2 e3
  subst e1 e2 e3
  refine ⟨_, c - k, by rw [List.length_drop], by rw [List.length_drop]; omega, by omega, ?_, ?_⟩
  · intro hn
    by_cases hck : c = k
    · omega
    · rw [if_neg hck] at hn
      cases A with
      | none => have := h3 rfl; omega
      | some a => cases hn
  · intro hne
    have hlt : k < xs.length := by
      rcases Nat.lt_or_ge k xs.length with h | h
      · exact h
      · rw [List.drop_of_length_le h] at hne; exact (hne rfl).elim
    obtain ⟨b, off, rfl, hc⟩ := h4 (by rintro rfl; simp at hlt)
    rw [if_neg (by omega)]
    refine ⟨b, off + k, by simp [Addr.add_lit], fun j u hu => ?_⟩
    rw [Nat.add_assoc]
    exact hc (k + j) u (by rwa [List.getElem?_drop] at hu)
/-- A slice cut ahead of a place. -/
theorem SV.takev {w : World} {A : Option Addr} {n c : Nat} {xs : List Value} (h : SV w (.slice A n c) xs) (k : Nat) (hk : k ≤ n) : SV w (.slice A k c) (xs.take k) := by
  obtain ⟨A', c', e, h1, h2, h3, h4⟩ := h
  injection e with e1 e2 e3
  subst e1 e2 e3
  have hlen : (xs.take k).length = k := by simp; omega
  refine ⟨A, c, by rw [hlen], by rw [hlen]; omega, h2, h3, fun hne => ?_⟩
  obtain ⟨b, off, hA, hc⟩ := h4 (by rintro rfl; simp at hne)
  refine ⟨b, off, hA, fun j u hu => hc j u ?_⟩
  have : j < k := by have := (List.getElem?_eq_some_iff.1 hu).1; omega
  rwa [List.getElem?_take, if_pos this] at hu

/-- One call behind the other. -/
theorem bthen {a b c : World} (h : Below a.heap.size a b) (k : Below b.heap.size b c) : Below a.heap.size a c := h.trans (k.mono h.size)
theorem two_more {a b : World} (h : Below a.heap.size a b) (o p : Obj) : Below a.heap.size a ((b.alloc o).alloc p) := (h.alloc h.size o).alloc (by have := h.size; simp; omega) p
theorem Whole.on {w w' : World} {g : Nat} {t : TypeId} {cs : Array Value} (h : Whole w g t cs) (hb : Below w.heap.size w w') : Whole w' g t cs := h.below hb h.lt

/-! Results of which the first lies in a variable of several cells -/
section
variable {P : Program}
theorem results_cell_tmp {fn : Func} {p q : Tmp} {ty : TypeId} (h : fn.results = #[.cell p ty, .tmp q]) (tmps : Array Value) (w : World) (g : Nat) (t : TypeId) (cs : Array Value) (fr : Nat × Nat) (d : TypeDesc)
    (hp : tmps.getD p undef = .pointer (some ⟨g, 0, none⟩)) (hg : w.heap[g]? = some (.cells cs t fr))
    (hu : P.underlying ty = some d) (hd : (match d with | .struct _ | .array _ _ => true | _ => false) = true) (hi : (P.info? ty).map (·.size) = some cs.size) (v : Value) (hv : tmps.getD q undef = v) :
    (results fn tmps).run P w = .ok (.tuple #[.agg cs, v]) w := by
  have hp' : tmps[p]?.getD undef = .pointer (some ⟨g, 0, none⟩) := by simpa using hp
  have hv' : tmps[q]?.getD undef = v := by simpa using hv
  simp [results, h, hp', hv', asAddr, run_loadVar_row w g t ty cs fr d hg hu hd hi]
theorem results_cell_tmp2 {fn : Func} {p q r : Tmp} {ty : TypeId} (h : fn.results = #[.cell p ty, .tmp q, .tmp r]) (tmps : Array Value) (w : World) (g : Nat) (t : TypeId) (cs : Array Value) (fr : Nat × Nat) (d : TypeDesc)
    (hp : tmps.getD p undef = .pointer (some ⟨g, 0, none⟩)) (hg : w.heap[g]? = some (.cells cs t fr))
    (hu : P.underlying ty = some d) (hd : (match d with | .struct _ | .array _ _ => true | _ => false) = true) (hi : (P.info? ty).map (·.size) = some cs.size) (v u : Value) (hv : tmps.getD q undef = v) (hr : tmps.getD r undef = u) :
    (results fn tmps).run P w = .ok (.tuple #[.agg cs, v, u]) w := by
  have hp' : tmps[p]?.getD undef = .pointer (some ⟨g, 0, none⟩) := by simpa using hp
  have hv' : tmps[q]?.getD undef = v := by simpa using hv
  have hr' : tmps[r]?.getD undef = u := by simpa using hr
  simp [results, h, hp', hv', hr', asAddr, run_loadVar_row w g t ty cs fr d hg hu hd hi]
end

/-- min of two ints, by what it comes to. -/
theorem wpList_min {P : Program} {w : World} {ops : Array Oper} {rest : List Oper} {o : Oper} {a : Act} {Q : Exit → Act → World → Prop} (hw : Region.wanted o (yielded ops a.tmps) = true) (s x : Operand) (ts : Array TypeId)
    (ho : o.op = .call { callee := .builtin .min, args := #[s, x], argTypes := ts }) (n m k : Int) (hs : a.eval s = .int .i64 n) (hx : a.eval x = .int .i64 m) (hk : (n ≤ m ∧ k = n) ∨ (m < n ∧ k = m))
    (h : wpList P ops Q rest (a.put o.dst (.int .i64 k)) w) : wpList P ops Q (o :: rest) a w :=
  wpList_step fun K hK => by
    rw [if_pos hw]
    have hrun : (Builtin.min_ ts o.type #[.int .i64 n, .int .i64 m]).run P w = .ok (.int .i64 k) w := by
      have e : (if m < n then m else n) = k := by split <;> omega
      simp [Builtin.min_, Builtin.min2, e]
    unfold Oper.wp execOp
    simp only [ho, resolve, invoke, builtin, Sem.run_bind, Sem.run_pure, Result.andThen_ok, List.map_toArray, List.map_cons, List.map_nil, hs, hx, hrun]
    exact hK _ _ h

/-- All but block g is as it was. -/
def But (g : Nat) (w w' : World) : Prop := w.grownBy w' (some g)
theorem But.refl (g : Nat) (w : World) : But g w w := World.grownBy.refl w _
theorem But.of (g : Nat) {w w' : World} (h : Below w.heap.size w w') : But g w w' := ⟨h.os, h.tape, h.output, h.size, fun k hk _ => h.block k hk⟩
theorem But.trans {g : Nat} {a b c : World} (h : But g a b) (k : But g b c) : But g a c :=
  ⟨k.os.trans h.os, k.tape.trans h.tape, k.output.trans h.output, Nat.le_trans h.size k.size, fun i hi hne => (k.block i (Nat.lt_of_lt_of_le hi h.size) hne).trans (h.block i hi hne)⟩
theorem But.set (g : Nat) (w : World) (i : Nat) (u : Value) : But g w (w.setCell ⟨g, i, none⟩ u) :=
  ⟨rfl, rfl, rfl, by simp, fun k _ hne => Below.heap_setCell w ⟨g, i, none⟩ u k (fun h => hne (by rw [h]))⟩
theorem But.below {g B : Nat} {a b c : World} (h : Below B a b) (k : But g b c) (hg : B ≤ g) (hB : B ≤ b.heap.size) : Below B a c := h.grown k hB fun j hj => by injection hj with hj; omega
theorem Whole.but {w w' : World} {g k : Nat} {t : TypeId} {cs : Array Value} (h : Whole w k t cs) (hb : But g w w') (hne : k ≠ g) : Whole w' k t cs := (hb.block k h.lt (by simpa using hne)).trans h

def isU8 : Value → Bool
  | .int .u8 _ => true
  | _ => false
/-- A slice of bytes does not lie in a block that holds none. -/
theorem sv_but {w w' : World} {g : Nat} {v : Value} {l : List UInt8} {t : TypeId} {cs : Array Value} (h : SV w v (bys l)) (hw : Whole w g t cs) (hb : But g w w') (hn : (cs.toList.all fun v => !isU8 v) = true) : SV w' v (bys l) := by
  obtain ⟨A', c', e, h1, h2, h3, h4⟩ := h
  refine ⟨A', c', e, h1, h2, h3, fun hne => ?_⟩
  obtain ⟨bl, off, rfl, hc⟩ := h4 hne
  refine ⟨bl, off, rfl, fun j u hu => ?_⟩
  refine hb.cell (hc j u hu) ?_
  intro hg
  injection hg with hg
  have hc' := hc j u hu
  have hu' : ∃ x : UInt8, u = .int .u8 x.toNat := by
    simp only [bys, List.getElem?_map, Option.map_eq_some_iff] at hu
    obtain ⟨x, _, hx⟩ := hu
    exact ⟨x, hx.symm⟩
  obtain ⟨x, rfl⟩ := hu'
  simp only at hg
  rw [hg, hw.cell] at hc'
  have := List.all_eq_true.1 hn _ (Array.mem_toList_iff.2 (Array.mem_of_getElem? hc'))
  simp [isU8] at this


/-- A row that was just laid. -/
theorem sv_row (w : World) (xs : List Value) (n : Nat) (e : TypeId) (fr : Nat × Nat) (hn : xs.length = n) (hm : n ≤ 1073741824) : SV (w.alloc (.cells xs.toArray e fr)) (.slice (some ⟨w.heap.size, 0, none⟩) n n) xs := by
  refine ⟨_, n, by rw [hn], by rw [hn]; exact Nat.le_refl _, by unfold maxLen; omega, (fun h => by cases h), fun _ => ⟨_, _, rfl, fun j u hu => ?_⟩⟩
  rw [cell_of_row _ _ _ _ _ _ (heap_alloc_new w _)]
  simpa using hu

/-- A variable of several cells is read as a whole, under a guard. -/
theorem wpList_load_rowg {P : Program} {ops : Array Oper} {rest : List Oper} {o : Oper} {a : Act} {w : World} {Q : Exit → Act → World → Prop} (hw : Region.wanted o (yielded ops a.tmps) = true) (ty : TypeId) (x : Operand) (ho : o.op = .load ty x)
    (g : Nat) (hx : a.eval x = .pointer (some ⟨g, 0, none⟩)) (t : TypeId) (cs : Array Value) (fr : Nat × Nat) (d : TypeDesc) (hg : w.heap[g]? = some (.cells cs t fr))
    (hu : P.underlying ty = some d) (hd : (match d with | .struct _ | .array _ _ => true | _ => false) = true) (hi : (P.info? ty).map (·.size) = some cs.size)
    (h : wpList P ops Q rest (a.put o.dst (.agg cs)) w) : wpList P ops Q (o :: rest) a w :=
  wpList_step fun K hK => by
    rw [if_pos hw]
    exact wp_load_row ty x ho g hx t cs fr d hg hu hd hi (hK _ _ h)
end Go.Proofs.YtlpgmmcdcjkkiaaDoor
