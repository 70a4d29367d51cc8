/- Contracts of layer 2's table and of More: a row of 256 cells, made round by round; a sum through it. -/
import Derived.Deep.WholeRow
import Derived.Laws.CopyOwn
import Derived.RegionTactic
import Derived.Deep.Draws
import Derived.Test.YtafmggipmaofnaaWords
import Derived.Test.YtafmggipmaofnaaCrc
namespace Go.Proofs.Ytafmggipmaofnaa
set_option maxRecDepth 20000
open Go.RowKit

/-- The row of 256 cells, of which the first k are laid. -/
def tabAt (k : Nat) : Array Value := ((List.range 256).map fun j => Value.int .u32 (if j < k then bitn 8 j else 0 : Nat)).toArray
@[simp] theorem tabAt_size (k : Nat) : (tabAt k).size = 256 := by simp [tabAt]
theorem tabAt_get (k j : Nat) (h : j < 256) : (tabAt k)[j]? = some (.int .u32 (if j < k then bitn 8 j else 0 : Nat)) := by
  simp [tabAt, List.getElem?_map, List.getElem?_range h]
theorem tabAt_set (k : Nat) (h : k < 256) : (tabAt k).setIfInBounds k (.int .u32 (bitn 8 k : Nat)) = tabAt (k + 1) := by
  apply Array.ext_getElem?
  intro i
  by_cases hi : i < 256
  · by_cases e : i = k
    · subst e
      rw [tabAt_get _ _ hi, if_pos (by omega)]
      simp [hi]
    · rw [Array.getElem?_setIfInBounds_ne (fun h => e h.symm), tabAt_get _ _ hi, tabAt_get _ _ hi]
      by_cases h2 : i < k
      · rw [if_pos h2, if_pos (by omega)]
      · rw [if_neg h2, if_neg (by omega)]
  · rw [Array.getElem?_eq_none (by simp; omega), Array.getElem?_eq_none (by simp; omega)]
theorem tabAt_one (k : Nat) : (tabAt k).all (·.oneCell') = true := by
  simp [tabAt, Value.oneCell']
/-- A number without its lowest bit, and that bit. -/
theorem low_bit (k : Nat) (h : k < 256) : k &&& (k - 1) ≠ 0 → k &&& (k - 1) < k ∧ k ^^^ (k &&& (k - 1)) < k := by
  have : ∀ k : Fin 256, k.val &&& (k.val - 1) ≠ 0 → k.val &&& (k.val - 1) < k.val ∧ k.val ^^^ (k.val &&& (k.val - 1)) < k.val := by decide +kernel
  exact this ⟨k, h⟩
theorem rest_of (k : Nat) (h : k < 256) : ∃ r q : Nat, bits .and .i64 (k : Int) ((k : Int) - 1) = (r : Int) ∧ bits .xor .i64 (k : Int) (r : Int) = (q : Int) ∧ (r ≠ 0 → r < k ∧ q < k) ∧ bitn 8 r ^^^ bitn 8 q = bitn 8 k := by
  refine ⟨k &&& (k - 1), k ^^^ (k &&& (k - 1)), ?_, ?_, low_bit k h, ?_⟩
  · cases k with
    | zero => rfl
    | succ k =>
      have := i64_and_nat (k + 1) k (by omega) (by omega)
      rw [show ((k + 1 : Nat) : Int) - 1 = (k : Int) by omega]
      exact this
  · have hr : k &&& (k - 1) ≤ k := Nat.and_le_left
    exact i64_xor_nat k _ (by omega) (by omega)
  · rw [← bitn_xor, Nat.xor_comm k, ← Nat.xor_assoc, Nat.xor_self, Nat.zero_xor]

theorem not_u32 (s : Nat) (h : s < 4294967296) : bits .xor .u32 IntKind.u32.max (s : Int) = ((4294967295 - s : Nat) : Int) := by
  have e : bits .xor .u32 IntKind.u32.max (s : Int) = IntKind.u32.wrap ((BitVec.ofInt 32 IntKind.u32.max ^^^ BitVec.ofInt 32 (s : Int)).toNat : Int) := rfl
  have e2 : BitVec.ofInt 32 IntKind.u32.max = BitVec.allOnes 32 := by decide
  rw [e, e2, BitVec.allOnes_xor, BitVec.toNat_not, BitVec.toNat_ofInt, IntKind.wrap_u32]
  simp only [Nat.reducePow]
  omega
theorem low8_u32 (y : Nat) (x : UInt8) : bits .xor .u8 ((y : Int) % 256) (x.toNat : Int) = ((y % 256 ^^^ x.toNat : Nat) : Int) ∧ y % 256 ^^^ x.toNat < 256 := by
  have h := u8_nat_lt x
  exact ⟨u8_xor_nat (y % 256) _ (by omega) h, Nat.xor_lt_two_pow (n := 8) (by simp only [Nat.reducePow]; omega) h⟩

end Go.Proofs.Ytafmggipmaofnaa
