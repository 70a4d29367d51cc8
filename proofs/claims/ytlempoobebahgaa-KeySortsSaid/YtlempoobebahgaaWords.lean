/- More words on memory: a block that is known whole; a slice cut; a literal's row; a row of the call's own from a lower block on. Nothing here speaks of the program. -/
import Derived.Deep.WholeRow
import Derived.Laws.CopyOwn
import Derived.Deep.Draws
import Derived.Test.YtlempoobebahgaaBase
namespace Go.Proofs.Ytlempoobebahgaa
open Go.RowKit

/-- These cells are all of block g, and each may be written. -/
def Whole (w : World) (g : Nat) (t : TypeId) (cs : Array Value) : Prop := w.heap[g]? = some (.cells cs t (0, 0))
namespace Whole
variable {w : World} {g : Nat} {t : TypeId} {cs : Array Value}
theorem lt (h : Whole w g t cs) : g < w.heap.size := (Array.getElem?_eq_some_iff.1 h).1
theorem cell (h : Whole w g t cs) (i : Nat) : w.cell? ⟨g, i, none⟩ = cs[i]? := cell_of_row w g i cs t (0, 0) h
theorem free (h : Whole w g t cs) (i : Nat) : w.frozen? ⟨g, i, none⟩ = false := frozen_of_row w g i cs t h
theorem put (h : Whole w g t cs) (i : Nat) (u : Value) : Whole (w.setCell ⟨g, i, none⟩ u) g t (cs.setIfInBounds i u) := heap_setCell_same w g i cs t u h
theorem apart (h : Whole w g t cs) {b i : Nat} (hb : g ≠ b) (u : Value) : Whole (w.setCell ⟨b, i, none⟩ u) g t cs := (heap_setCell_other w ⟨b, i, none⟩ g u hb).trans h
theorem made (w : World) (t : TypeId) (cs : Array Value) : Whole (w.alloc (.cells cs t)) w.heap.size t cs := heap_alloc_new w _
theorem later (h : Whole w g t cs) (o : Obj) : Whole (w.alloc o) g t cs := (heap_alloc_old w o h.lt).trans h
theorem second (w : World) (o : Obj) (t : TypeId) (cs : Array Value) : Whole ((w.alloc o).alloc (.cells cs t)) (w.heap.size + 1) t cs := by simpa using made (w.alloc o) t cs
theorem third (w : World) (o o' : Obj) (t : TypeId) (cs : Array Value) : Whole (((w.alloc o).alloc o').alloc (.cells cs t)) (w.heap.size + 1 + 1) t cs := by simpa using made ((w.alloc o).alloc o') t cs
theorem below {w' : World} {B : Nat} (h : Whole w g t cs) (hb : Below B w w') (hg : g < B) : Whole w' g t cs := (hb.block g hg).trans h
end Whole

theorem own_lower {w : World} {b b' : Nat} {e : TypeId} {size : Nat} {v : Value} {n : Nat} {xs : List Value} (h : w.ownsRow b e size v n xs) (hb : b' ≤ b) : w.ownsRow b' e size v n xs := by
  refine ⟨h.1, ?_⟩
  rcases h.2 with h' | ⟨g, cap, cur, hv, h1, rest⟩
  · exact .inl h'
  · exact .inr ⟨g, cap, cur, hv, by omega, rest⟩

theorem SV.cut {w : World} {A : Option Addr} {n c : Nat} {l : List UInt8} (h : SV w (.slice A n c) (bys l)) (k : Nat) (hk : k ≤ l.length) :
    SV w (.slice (if c = k then A else A.map (·.add k)) (n - k) (c - k)) (bys (l.drop k)) := by
  obtain ⟨A', c', e, h1, h2, h3, h4⟩ := h
  injection e with e1 e2 e3
  subst e1 e2 e3
  rw [bys_len] at *
  refine ⟨_, c - k, by rw [bys_len, List.length_drop], by rw [bys_len, List.length_drop]; omega, by omega, ?_, ?_⟩
  · intro hn
    by_cases hck : c = k
    · omega
    · rw [if_neg hck] at hn
      cases A with
      | none => have := h3 rfl; omega
      | some a => cases hn
  · intro hne
    have hlt : k < l.length := by
      rcases Nat.lt_or_ge k l.length with h | h
      · exact h
      · rw [List.drop_of_length_le h] at hne; exact (hne rfl).elim
    obtain ⟨b, off, rfl, hc⟩ := h4 (bys_ne (by omega))
    rw [if_neg (by omega)]
    refine ⟨b, off + k, by simp [Addr.add_lit], fun j u hu => ?_⟩
    rw [Nat.add_assoc]
    refine hc (k + j) u ?_
    simpa [bys, List.getElem?_drop] using hu

/-- The cells of a slice of bytes, one at a time. -/
def Cells8 (w : World) (A : Option Addr) (l : List UInt8) : Prop := ∀ k x, l[k]? = some x → ∃ b off, A = some ⟨b, off, none⟩ ∧ w.cell? ⟨b, off + k, none⟩ = some (.int .u8 (x : UInt8).toNat)
theorem SV.cells8 {w : World} {A : Option Addr} {n c : Nat} {l : List UInt8} (h : SV w (.slice A n c) (bys l)) : Cells8 w A l := by
  intro k x hx
  obtain ⟨A', c', e, h1, h2, h3, h4⟩ := h
  injection e with e1 _ e2
  subst e1 e2
  obtain ⟨b, off, hA, hc⟩ := h4 (bys_ne (by have := (List.getElem?_eq_some_iff.1 hx).1; omega))
  exact ⟨b, off, hA, hc k _ (by simp [bys, hx])⟩
theorem sv_lit (w : World) (l : List UInt8) (n : Nat) (e : TypeId) (fr : Nat × Nat) (hn : l.length = n) (hm : n ≤ 1073741824) : SV (w.alloc (.cells (bys l).toArray e fr)) (.slice (some ⟨w.heap.size, 0, none⟩) n n) (bys l) := by
  refine ⟨_, n, by rw [bys_len, hn], by rw [bys_len, hn]; exact Nat.le_refl _, by unfold maxLen; omega, (fun h => by cases h), fun _ => ⟨_, _, rfl, fun j u hu => ?_⟩⟩
  rw [cell_of_row _ _ _ _ _ _ (heap_alloc_new w _)]
  simpa using hu

theorem bys_set (p m : List UInt8) (n j : Nat) (hp : p.length = n) (y : UInt8) : (bys (p ++ m)).set (n + j) (.int .u8 y.toNat) = bys (p ++ m.set j y) := by
  subst hp
  simp [bys, List.map_set]

/-- A place of a slice: where it lies, and what it holds. -/
theorem SV.at {w : World} {A : Option Addr} {n c : Nat} {xs : List Value} (h : SV w (.slice A n c) xs) {k : Nat} (hk : k < n) : ∃ b off u, A = some ⟨b, off, none⟩ ∧ xs[k]? = some u ∧ w.cell? ⟨b, off + k, none⟩ = some u := by
  obtain ⟨A', c', e, h1, h2, h3, h4⟩ := h
  injection e with e1 e2 e3
  subst e1 e2 e3
  obtain ⟨b, off, hA, hc⟩ := h4 (by rintro rfl; simp at hk)
  exact ⟨b, off, xs[k], hA, List.getElem?_eq_getElem hk, hc k _ (List.getElem?_eq_getElem hk)⟩
theorem SV.bd {w : World} {A : Option Addr} {n c : Nat} {xs : List Value} (h : SV w (.slice A n c) xs) : n = xs.length ∧ n ≤ c ∧ c ≤ 9223372036854775807 := by
  obtain ⟨A', c', e, h1, h2, h3, h4⟩ := h
  injection e with e1 e2 e3
  subst e1 e2 e3
  exact ⟨rfl, h1, h2⟩

/-- A slice cut from a place on. -/
theorem SV.cutv {w : World} {A : Option Addr} {n c : Nat} {xs : List Value} (h : SV w (.slice A n c) xs) (k : Nat) (hk : k ≤ n) : SV w (.slice (if c = k then A else A.map (·.add k)) (n - k) (c - k)) (xs.drop k) := by
  obtain ⟨A', c', e, h1, h2, h3, h4⟩ := h
  injection e with e1 e2 e3
  subst e1 e2 e3
  refine ⟨_, c - k, by rw [List.length_drop], by rw [List.length_drop]; omega, by omega, ?_, ?_⟩
  · intro hn
    by_cases hck : c = k
    · omega
    · rw [if_neg hck] at hn
      cases A with
      | none => have := h3 rfl; omega
      | some a => cases hn
  · intro hne
    have hlt : k < xs.length := by
      rcases Nat.lt_or_ge k xs.length with h | h
      · exact h
      · rw [List.drop_of_length_le h] at hne; exact (hne rfl).elim
    obtain ⟨b, off, rfl, hc⟩ := h4 (by rintro rfl; simp at hlt)
    rw [if_neg (by omega)]
    refine ⟨b, off + k, by simp [Addr.add_lit], fun j u hu => ?_⟩
    rw [Nat.add_assoc]
    exact hc (k + j) u (by rwa [List.getElem?_drop] at hu)
/-- A slice cut ahead of a place. -/
theorem SV.takev {w : World} {A : Option Addr} {n c : Nat} {xs : List Value} (h : SV w (.slice A n c) xs) (k : Nat) (hk : k ≤ n) : SV w (.slice A k c) (xs.take k) := by
  obtain ⟨A', c', e, h1, h2, h3, h4⟩ := h
  injection e with e1 e2 e3
  subst e1 e2 e3
  have hlen : (xs.take k).length = k := by simp; omega
  refine ⟨A, c, by rw [hlen], by rw [hlen]; omega, h2, h3, fun hne => ?_⟩
  obtain ⟨b, off, hA, hc⟩ := h4 (by rintro rfl; simp at hne)
  refine ⟨b, off, hA, fun j u hu => hc j u ?_⟩
  have : j < k := by have := (List.getElem?_eq_some_iff.1 hu).1; omega
  rwa [List.getElem?_take, if_pos this] at hu

/-- One call behind the other. -/
theorem bthen {a b c : World} (h : Below a.heap.size a b) (k : Below b.heap.size b c) : Below a.heap.size a c := h.trans (k.mono h.size)
theorem two_more {a b : World} (h : Below a.heap.size a b) (o p : Obj) : Below a.heap.size a ((b.alloc o).alloc p) := (h.alloc h.size o).alloc (by have := h.size; simp; omega) p
theorem Whole.on {w w' : World} {g : Nat} {t : TypeId} {cs : Array Value} (h : Whole w g t cs) (hb : Below w.heap.size w w') : Whole w' g t cs := h.below hb h.lt
end Go.Proofs.Ytlempoobebahgaa
