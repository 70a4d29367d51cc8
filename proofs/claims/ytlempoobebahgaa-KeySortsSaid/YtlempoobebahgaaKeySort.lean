/- Layer 4: the program's Sort, over the library's contracts of Clone, Sort and Compact; the reference's Same. -/
import Derived.Test.YtlempoobebahgaaBase
import Derived.Test.YtlempoobebahgaaWords
import Derived.Test.YtlempoobebahgaaRegion
import Derived.Test.YtlempoobebahgaaKeyMath
import Derived.Test.YtlempoobebahgaaShelf
import Derived.Test.YtlempoobebahgaaChecked
import Derived.Sort.OwnSorted
namespace Go.Proofs.Ytlempoobebahgaa
open Go.RowKit Go.Sort

/-- Texts as values. -/
def strs (l : List (List UInt8)) : List Value := l.map encStr
@[simp] theorem strs_len (l : List (List UInt8)) : (strs l).length = l.length := by simp [strs]
theorem strs_get (l : List (List UInt8)) (j : Nat) : (strs l)[j]? = (l[j]?).map encStr := by simp [strs]
theorem strs_one (l : List (List UInt8)) : ∀ u ∈ strs l, u.oneCell' = true := by
  intro u hu
  obtain ⟨b, _, rfl⟩ := List.mem_map.1 hu
  rfl

/-- A slice that reads as xs came back; what was there is as it was. -/
def Gives (w : World) (xs : List Value) (e : Ending) (w' : World) : Prop := ∃ v, e = .returned v ∧ SV w' v xs ∧ Below w.heap.size w w'

theorem sort_len (l : List (List UInt8)) : (l.mergeSort fun x y => decide (x ≤ y)).length = l.length := List.length_mergeSort _

/-- A row of the call's own behind the library's sort and its compaction. -/
theorem once_row {w w2 w3 : World} {base g cap n q : Nat} {os : Array Obj} {cur : Array Value} {e : TypeId} {l : List (List UInt8)} (hbase : base ≤ g) (hb : w.heap[g]? = some (.cells cur e (0, 0))) (h1 : l.length ≤ cap) (h2 : cap ≤ maxLen) (h3 : cur.size = cap * 1)
    (e2 : w2 = grow (putRow encStr (Sort.ahead w n) g 0 (l.mergeSort fun x y => decide (x ≤ y)).toArray) os)
    (e3 : w3 = putRow encStr (Sort.ahead w2 q) g 0 (once l ++ List.replicate (l.length - (once l).length) []).toArray) :
    Holds encStr w2 g 0 (l.mergeSort fun x y => decide (x ≤ y)).toArray ∧ SV w3 (.slice (some ⟨g, 0, none⟩) (once l).length cap) (strs (once l)) ∧ w.grownBy w2 (some g) ∧ w2.grownBy w3 (some g) := by
  have hl := rises_len (once_rises l).1 fun y hy => ((once_rises l).2 y).1 hy
  have hs := heap_sorted (n := n) (os := os) (l.mergeSort fun x y => decide (x ≤ y)).toArray hb
  rw [← e2] at hs
  have hsz : (putCells encStr 0 (l.mergeSort fun x y => decide (x ≤ y)).toArray cur).size = cap * 1 := by simp [putCells, h3]
  refine ⟨holds_of_block hs (take_putCells cur _ (by rw [sort_len]; omega)), ?_, e2 ▸ grownBy_sorted _, ?_⟩
  · have := ownsRow_sorted (w := w2) (base := base) (n := q) (os := #[]) (ss := l) (ts := once l ++ List.replicate (l.length - (once l).length) []) (by simp; omega) hbase hs h1 h2 hsz
    rw [grow_empty, ← e3] at this
    have hv := (SV.own this).takev (once l).length hl
    have et : (List.map encStr (once l ++ List.replicate (l.length - (once l).length) [])).take (once l).length = strs (once l) := by
      rw [List.map_append, List.take_left' (by simp)]
      rfl
    rwa [et] at hv
  · have := grownBy_sorted (w := w2) (g := g) (n := q) (os := #[]) (once l ++ List.replicate (l.length - (once l).length) []).toArray
    rwa [grow_empty, ← e3] at this

theorem sort4_nil (c : Nat) (w : World) : Calls Try.prog 14 #[.slice none 0 c] w (Gives w (strs (once []))) := by
  have he : once [] = [] := by
    have := (once_rises []).2
    exact List.eq_nil_iff_forall_not_mem.2 fun y hy => by simpa using (this y).1 hy
  rw [he]
  go_enter Try.func14, Try.ntmps14
  go_wp2_with (first
    | (go_at_call 18; refine (Try.slices_Clone_string_nil _ _ _).mono ?_; rintro e w' ⟨rfl, rfl⟩)
    | (go_at_call 19; refine (Try.slices_Sort_string_none _ _ _).mono ?_; rintro e w' ⟨rfl, rfl⟩)
    | (go_at_call 20; refine (Try.slices_Compact_string_empty _ _ _).mono ?_; rintro e w' ⟨rfl, rfl⟩))
  go_ret
  exact ⟨_, rfl, SV.nil _, Below.refl _ _⟩

theorem own_some {w : World} {base : Nat} {e : TypeId} {v : Value} {n : Nat} {xs : List Value} (h : w.ownsRow base e 1 v n xs) (hv : v ≠ .slice none 0 0) :
    ∃ g cap cur, v = .slice (some ⟨g, 0, none⟩) n cap ∧ base ≤ g ∧ w.heap[g]? = some (.cells cur e (0, 0)) ∧ n ≤ cap ∧ cap ≤ maxLen ∧ cur.size = cap * 1 ∧ cur.toList.take n = xs := by
  rcases h.2 with ⟨rfl, rfl⟩ | ⟨g, cap, cur, h1, h2, h3, h4, h5, h6, h7⟩
  · exact (hv rfl).elim
  · exact ⟨g, cap, cur, h1, h2, h3, h4, h5, h6, by simpa using h7⟩

theorem sort4_zero (ad : Addr) (c : Nat) (w : World) : Calls Try.prog 14 #[.slice (some ad) 0 c] w (Gives w (strs (once []))) := by
  have he : once [] = [] := by
    have := (once_rises []).2
    exact List.eq_nil_iff_forall_not_mem.2 fun y hy => by simpa using (this y).1 hy
  rw [he]
  go_enter Try.func14, Try.ntmps14
  go_wp2_with (first
    | (go_at_call 18; refine (Try.slices_Clone_string_zero _ _ _).mono ?_; rintro e w1 ⟨v1, rfl, o1, n1, b1⟩; obtain ⟨g, cap, cur, rfl, -, -, -, -, -, -⟩ := own_some o1 n1)
    | (go_at_call 19; refine (Try.slices_Sort_string_none _ _ _).mono ?_; rintro e w' ⟨rfl, rfl⟩)
    | (go_at_call 20; refine (Try.slices_Compact_string_empty _ _ _).mono ?_; rintro e w' ⟨rfl, rfl⟩))
  go_ret
  exact ⟨_, rfl, SV.own o1, b1⟩

/-- The library's three, one behind the other. -/
theorem sort4_some (b off c : Nat) (l : List (List UInt8)) (w : World) (hv : SV w (.slice (some ⟨b, off, none⟩) l.length c) (strs l)) (hl : l.length ≤ 1000) : Calls Try.prog 14 #[.slice (some ⟨b, off, none⟩) l.length c] w (Gives w (strs (once l))) := by
  have hc : ∀ j, j < (l.map fun x : List UInt8 => (⟨x.toArray⟩ : ByteArray)).length → w.cell? ⟨b, off + j, none⟩ = some (.string ((l.map fun x : List UInt8 => (⟨x.toArray⟩ : ByteArray)).getD j ByteArray.empty)) := by
    intro j hj
    have hj' : j < l.length := by simpa using hj
    obtain ⟨A', c', e, h1, h2, h3, h4⟩ := hv
    obtain ⟨b', off', hA, hcc⟩ := h4 (by rintro h0; have := congrArg List.length h0; simp at this; rw [this] at hj'; simp at hj')
    injection e with e1 _ _
    rw [← e1] at hA
    injection hA with hA
    injection hA with e2 e3 _
    subst e2 e3
    rw [hcc j (encStr l[j]) (by rw [strs_get, List.getElem?_eq_getElem hj']; rfl)]
    simp [List.getD, hj']
  have C1 := Lib.hid (Try.slices_Clone_string b off l.length c _ w (by simp) (by omega) hc)
  clear hc hv
  have HL := Lib.hid (sort_len l)
  go_enter Try.func14, Try.ntmps14
  go_wp2_with (go_at_call 18; refine (C1.out).mono ?_; rintro e w1 ⟨v1, rfl, o1, n1, b1⟩)
  obtain ⟨g, cap, cur, rfl, hbase, hb, h1, h2, h3, h4⟩ := own_some o1 n1
  have h4' : cur.toList.take l.length = l.map encStr := by rw [h4, List.take_of_length_le (by simp), List.map_map]; rfl
  have hg : g < w1.heap.size := (Array.getElem?_eq_some_iff.1 hb).1
  have C2 := Lib.hid (Try.slices_Sort_string g 0 cap l w1 (holds_of_block hb h4') hg (by omega))
  have HB := Lib.hid hb
  have H3 := Lib.hid h3
  clear C1 o1 n1 h4 h4' hb h3
  go_wp2_with (go_at_call 19; refine (C2.out).mono ?_; rintro e w2 ⟨rfl, n, os, e2⟩; have E2 := Lib.hid e2; clear e2)
  have K := Lib.hid (fun w3 q e3 => once_row (w2 := w2) (w3 := w3) (q := q) hbase HB.out h1 h2 H3.out E2.out e3)
  have C3 := Try.slices_Compact_string g 0 cap (l.mergeSort fun x y => decide (x ≤ y)) w2 (K.out _ 0 rfl).1 (by rw [HL.out]; omega) (by rw [HL.out]; omega)
  rw [HL.out] at C3
  have C3 := Lib.hid C3
  clear C2
  go_wp2_with (go_at_call 20; refine (C3.out).mono ?_; rintro e w3 ⟨rfl, q, e3⟩; have E3 := Lib.hid e3; clear e3)
  go_ret
  obtain ⟨-, k2, k3, k4⟩ := K.out w3 q E3.out
  exact ⟨_, rfl, k2, (b1.grown k3 b1.size fun j hj => by cases hj; exact hbase).grown k4 (Nat.le_trans b1.size k3.size) fun j hj => by cases hj; exact hbase⟩

theorem sort4_any (v : Value) (l : List (List UInt8)) (w : World) (hv : SV w v (strs l)) (hl : l.length ≤ 1000) : Calls Try.prog 14 #[v] w (Gives w (strs (once l))) := by
  have hv' := hv
  obtain ⟨A, c, rfl, h1, h2, h3, h4⟩ := hv'
  rw [strs_len] at *
  cases A with
  | none =>
    have : l = [] := by have := h3 rfl; exact List.eq_nil_of_length_eq_zero (by omega)
    subst this
    exact sort4_nil c w
  | some ad =>
    by_cases hn : l = []
    · subst hn
      exact sort4_zero ad c w
    · obtain ⟨b, off, hA, -⟩ := h4 (by intro h0; have := congrArg List.length h0; simp at this; exact hn this)
      injection hA with hA
      subst hA
      exact sort4_some b off c l w hv hl
end Go.Proofs.Ytlempoobebahgaa
