/- Contracts of layer 2's table and of More: a row of 256 cells, made round by round; a sum through it. -/
import Derived.Deep.WholeRow
import Derived.Laws.CopyOwn
import Derived.RegionTactic
import Derived.Deep.Draws
import Derived.Test.YtelamhdnefnceaaWords
import Derived.Test.YtelamhdnefnceaaCrc
namespace Go.Proofs.Ytelamhdnefnceaa
set_option maxRecDepth 20000
open Go.RowKit

/-- The row of 256 cells, of which the first k are laid. -/
def tabAt (k : Nat) : Array Value := ((List.range 256).map fun j => Value.int .u32 (if j < k then bitn 8 j else 0 : Nat)).toArray
@[simp] theorem tabAt_size (k : Nat) : (tabAt k).size = 256 := by simp [tabAt]
theorem tabAt_get (k j : Nat) (h : j < 256) : (tabAt k)[j]? = some (.int .u32 (if j < k then bitn 8 j else 0 : Nat)) := by
  simp [tabAt, List.getElem?_map, List.getElem?_range h]
theorem tabAt_set (k : Nat) (h : k < 256) : (tabAt k).setIfInBounds k (.int .u32 (bitn 8 k : Nat)) = tabAt (k + 1) := by
  apply Array.ext_getElem?
  intro i
  by_cases hi : i < 256
  · by_cases e : i = k
    · subst e
      rw [tabAt_get _ _ hi, if_pos (by omega)]
      simp [hi]
    · rw [Array.getElem?_setIfInBounds_ne (fun h => e h.symm), tabAt_get _ _ hi, tabAt_get _ _ hi]
      by_cases h2 : i < k
      · rw [if_pos h2, if_pos (by omega)]
      · rw [if_neg h2, if_neg (by omega)]
  · rw [Array.getElem?_eq_none (by simp; omega), Array.getElem?_eq_none (by simp; omega)]
theorem tabAt_one (k : Nat) : (tabAt k).all (·.oneCell') = true := by
  simp [tabAt, Value.oneCell']
theorem Try.info100 : (Try.prog.info? 100).map (fun i => (i.zero, i.size)) = some (some (.agg (tabAt 0)), 256) := by kernel_rfl


/-- A number without its lowest bit, and that bit. -/
theorem low_bit (k : Nat) (h : k < 256) : k &&& (k - 1) ≠ 0 → k &&& (k - 1) < k ∧ k ^^^ (k &&& (k - 1)) < k := by
  have : ∀ k : Fin 256, k.val &&& (k.val - 1) ≠ 0 → k.val &&& (k.val - 1) < k.val ∧ k.val ^^^ (k.val &&& (k.val - 1)) < k.val := by decide +kernel
  exact this ⟨k, h⟩
theorem rest_of (k : Nat) (h : k < 256) : ∃ r q : Nat, bits .and .i64 (k : Int) ((k : Int) - 1) = (r : Int) ∧ bits .xor .i64 (k : Int) (r : Int) = (q : Int) ∧ (r ≠ 0 → r < k ∧ q < k) ∧ bitn 8 r ^^^ bitn 8 q = bitn 8 k := by
  refine ⟨k &&& (k - 1), k ^^^ (k &&& (k - 1)), ?_, ?_, low_bit k h, ?_⟩
  · cases k with
    | zero => rfl
    | succ k =>
      have := i64_and_nat (k + 1) k (by omega) (by omega)
      rw [show ((k + 1 : Nat) : Int) - 1 = (k : Int) by omega]
      exact this
  · have hr : k &&& (k - 1) ≤ k := Nat.and_le_left
    exact i64_xor_nat k _ (by omega) (by omega)
  · rw [← bitn_xor, Nat.xor_comm k, ← Nat.xor_assoc, Nat.xor_self, Nat.zero_xor]

set_option maxRecDepth 100000 in
set_option maxHeartbeats 1000000 in
theorem table_any (w : World) : Calls Try.prog 86 #[] w fun e w' => e = .returned (.agg (tabAt 256)) ∧ Below w.heap.size w w' := by
  have hz := (zero_of_info Try.info100).1
  have hi := (zero_of_info Try.info100).2
  go_enter Try.func86, Try.ntmps86
  go_wp2
  clear hz
  have b1 := (Whole.made w 100 (tabAt 0)).later (.cells (tabAt 0) 100)
  have b2 := Whole.made (w.alloc (.cells (tabAt 0) 100)) 100 (tabAt 0)
  rw [World.size_alloc] at b2
  have hb := ((Below.refl w.heap.size w).alloc (Nat.le_refl _) (.cells (tabAt 0) 100)).alloc (by simp) (.cells (tabAt 0) 100)
  generalize ((w.alloc (.cells (tabAt 0) 100)).alloc (.cells (tabAt 0) 100)) = w0 at *
  go_loopw [2, 3, 4] (fun _ _ i wr => ∃ k : Nat, k ≤ 256 ∧ i = .int .i64 k ∧ Whole wr w.heap.size 100 (tabAt 0) ∧ Whole wr (w.heap.size + 1) 100 (tabAt k) ∧ Below w.heap.size w wr) (fun _ _ i _ => 256 - (intOf i).toNat)
  case atStart => exact ⟨0, by omega, rfl, b1, b2, hb⟩
  case round =>
    obtain ⟨k, hk, rfl, c1, c2, hbr⟩ := hrel
    clear b1 b2 hb
    by_cases hlt : k < 256
    · obtain ⟨r, q, hr, hq, hrq, hx⟩ := rest_of k hlt
      have HX := Lib.hid hx
      have HQ := Lib.hid hrq
      clear hx hrq
      have hcs : (wr.cell? ⟨w.heap.size + 1, k, none⟩) = some (.int .u32 (0 : Nat)) := by rw [c2.cell, tabAt_get _ _ hlt, if_neg (by omega)]
      have hfs := c2.free k
      by_cases h0 : r = 0
      · subst h0
        clear hq
        have hk2 := bitn_lt 8 k (by omega)
        go_wp2_with (go_at_call 88; refine (shifted_any k _ (by omega)).mono ?_; rintro e w' ⟨rfl, rfl⟩)
        go_roundw
        case rel => exact ⟨k + 1, by omega, by go_num, c1.apart (by omega) _, by rw [← tabAt_set k hlt]; exact c2.put _ _, hbr.setCell (by simp) _⟩
        case measure => simp [intOf]; omega
      · have h0' : ((r : Int) == 0) = false := by simp; omega
        have hr1 := (HQ.out h0).1
        have hq1 := (HQ.out h0).2
        have hcr : (wr.cell? ⟨w.heap.size + 1, r, none⟩) = some (.int .u32 (bitn 8 r : Nat)) := by rw [c2.cell, tabAt_get _ _ (by omega), if_pos hr1]
        have hcq : (wr.cell? ⟨w.heap.size + 1, q, none⟩) = some (.int .u32 (bitn 8 q : Nat)) := by rw [c2.cell, tabAt_get _ _ (by omega), if_pos hq1]
        go_wp2
        go_region
        go_wp2
        have HV := Lib.hid (u32_xor_nat _ _ (bitn_lt 8 r (by omega)) (bitn_lt 8 q (by omega)))
        go_roundw
        case rel => exact ⟨k + 1, by omega, by go_num, c1.apart (by omega) _, by rw [← tabAt_set k hlt, HV.out, HX.out]; exact c2.put _ _, (hbr.setCell (p := ⟨w.heap.size + 1, k, none⟩) (by simp) _).drew⟩
        case measure => simp [intOf]; omega
    · obtain rfl : k = 256 := by omega
      go_wp2_with (first
        | (refine wpList_load_row rfl _ (.tmp 1) rfl (w.heap.size + 1) rfl 100 (tabAt 256) (0, 0) _ c2 Try.underlying100 rfl (by rw [tabAt_size]; exact hi) ?_)
        | (refine wpList_store_row rfl _ (.tmp 0) (.tmp 30) rfl w.heap.size (tabAt 256) rfl rfl 100 (tabAt 0) c1 (by rw [tabAt_size]; exact hi) (by rw [tabAt_size, tabAt_size]) (tabAt_one _) ?_))
      refine bodyPost_ret (v := .agg (tabAt 256)) ?_ rfl ⟨rfl, below_setRow hbr (Nat.le_refl _) _⟩
      exact results_cell_row rfl _ _ w.heap.size 100 (tabAt 256) (0, 0) _ rfl (setRow_heap _ _ _ _ _ _ c1) Try.underlying100 rfl (by rw [tabAt_size]; exact hi)

theorem not_u32 (s : Nat) (h : s < 4294967296) : bits .xor .u32 IntKind.u32.max (s : Int) = ((4294967295 - s : Nat) : Int) := by
  have e : bits .xor .u32 IntKind.u32.max (s : Int) = IntKind.u32.wrap ((BitVec.ofInt 32 IntKind.u32.max ^^^ BitVec.ofInt 32 (s : Int)).toNat : Int) := rfl
  have e2 : BitVec.ofInt 32 IntKind.u32.max = BitVec.allOnes 32 := by decide
  rw [e, e2, BitVec.allOnes_xor, BitVec.toNat_not, BitVec.toNat_ofInt, IntKind.wrap_u32]
  simp only [Nat.reducePow]
  omega
theorem low8_u32 (y : Nat) (x : UInt8) : bits .xor .u8 ((y : Int) % 256) (x.toNat : Int) = ((y % 256 ^^^ x.toNat : Nat) : Int) ∧ y % 256 ^^^ x.toNat < 256 := by
  have h := u8_nat_lt x
  exact ⟨u8_xor_nat (y % 256) _ (by omega) h, Nat.xor_lt_two_pow (n := 8) (by simp only [Nat.reducePow]; omega) h⟩

set_option maxRecDepth 100000 in
set_option maxHeartbeats 1000000 in
/-- **More**: the sum, out of a table made anew. -/
theorem more_any (s : Nat) (v : Value) (l : List UInt8) (w : World) (hs : s < 4294967296) (hl : l.length ≤ 1073741824) (hv : SV w v (bys l)) :
    Calls Try.prog 76 #[.int .u32 s, v] w fun e w' => e = .returned (.int .u32 (more s l : Nat)) ∧ Below w.heap.size w w' := by
  have hz := (zero_of_info Try.info100).1
  have hi := (zero_of_info Try.info100).2
  have hv' := hv
  obtain ⟨A, c, rfl, g1, g2, g3, g4⟩ := hv
  clear g4 g3
  rw [bys_len] at hv' g1 ⊢
  unfold maxLen at g2
  go_enter Try.func76, Try.ntmps76
  go_wp2_with (first
    | (go_at_call 86; refine (table_any _).mono ?_; rintro e w1 ⟨rfl, hb1⟩)
    | (refine wpList_store_row rfl _ (.tmp 5) (.tmp 9) rfl w1.heap.size (tabAt 256) rfl rfl 100 (tabAt 0) (heap_alloc_new _ _) (by rw [tabAt_size]; exact hi) (by rw [tabAt_size, tabAt_size]) (tabAt_one _) ?_))
  have b2 : Whole ((w1.alloc (.cells (tabAt 0) 100)).setRow w1.heap.size (tabAt 256)) w1.heap.size 100 (tabAt 256) := setRow_heap _ _ _ _ _ _ (heap_alloc_new _ _)
  have hb2 : Below w.heap.size w ((w1.alloc (.cells (tabAt 0) 100)).setRow w1.heap.size (tabAt 256)) := below_setRow (hb1.alloc hb1.size _) hb1.size _
  have hc2 := Lib.hid (hv'.keep (Keeps.below hb2)).cells8
  clear hz hi
  rw [not_u32 s hs]
  generalize hw2 : (w1.alloc (.cells (tabAt 0) 100)).setRow w1.heap.size (tabAt 256) = w2 at *
  clear hw2
  go_loop [6, 8, 14] (fun x _ i => ∃ k : Nat, k ≤ l.length ∧ i = .int .i64 k ∧ x = .int .u32 (run8 (4294967295 - s) (l.take k) : Nat)) (fun _ _ i => l.length - (intOf i).toNat)
  case atStart => exact ⟨0, by omega, rfl, by simp [run8]⟩
  case round =>
    obtain ⟨k, hk, rfl, rfl⟩ := hrel
    have hy := run8_lt (4294967295 - s) (l.take k) (by omega)
    by_cases hlt : k < l.length
    · have hx : ∃ x : UInt8, l[k]? = some x := ⟨_, List.getElem?_eq_getElem hlt⟩
      obtain ⟨x, hx⟩ := hx
      obtain ⟨b, off, hA, hc⟩ := hc2.out k x hx
      subst hA
      have HS := Lib.hid (show run8 (4294967295 - s) (l.take (k + 1)) = step8 (run8 (4294967295 - s) (l.take k)) x by
        rw [List.take_add_one, hx]; exact run8_snoc _ _ _)
      have hx0 := u8_nat_lt x
      clear hx
      generalize run8 (4294967295 - s) (l.take k) = y at *
      rw [step8_table] at HS
      obtain ⟨e2, e3⟩ := low8_u32 y x
      generalize y % 256 ^^^ x.toNat = j at *
      have hct : w2.cell? ⟨w1.heap.size, j, none⟩ = some (.int .u32 (bitn 8 j : Nat)) := by rw [b2.cell, tabAt_get _ _ e3, if_pos e3]
      clear b2
      have HD := Lib.hid (u32_xor_nat (y / 256) (bitn 8 j) (by omega) (bitn_lt 8 j (by omega)))
      go_wp2
      go_round
      case rel => exact ⟨k + 1, by omega, by go_num, by rw [HS.out, ← HD.out]; rfl⟩
      case measure => simp [intOf]; omega
    · obtain rfl : k = l.length := by omega
      rw [List.take_length] at hy
      go_wp2
      go_ret
      exact ⟨ret_int (by unfold more; rw [not_u32 _ hy]), hb2⟩
end Go.Proofs.Ytelamhdnefnceaa
