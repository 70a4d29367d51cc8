/- Layer 4: contracts of the program's and the reference's functions that only compute: hashes, which text is a key, buckets. -/
import Derived.Test.YtafmggipmaofnaaBase
import Derived.Test.YtafmggipmaofnaaKeyMath
import Derived.Test.YtafmggipmaofnaaChecked
import Derived.Laws.RangeAny
import Derived.IntWalk
namespace Go.Proofs.Ytafmggipmaofnaa
set_option maxRecDepth 20000
open Go.RowKit

theorem take_next (s : ByteArray) (k : Nat) (h : k < s.size) : s.data.toList.take (k + 1) = s.data.toList.take k ++ [s[k]] := by
  rw [List.take_succ_eq_append_getElem (by simpa using h)]; rfl
theorem str_get (s : ByteArray) (k : Nat) (h : k < s.size) : s.data.toList[k]? = some s[k] := by
  rw [List.getElem?_eq_getElem (by simpa using h)]; rfl
theorem fold_next (h : Nat) (s : ByteArray) (k : Nat) (hk : k < s.size) : (s.data.toList.take (k + 1)).foldl hstep h = hstep ((s.data.toList.take k).foldl hstep h) s[k] := by
  rw [take_next s k hk, fold_snoc]
theorem byte_lt (x : UInt8) : x.toNat < 256 := x.toNat_lt
theorem xor_lt (h : Nat) (x : UInt8) (hh : h < 4294967296) : h ^^^ x.toNat < 4294967296 := Nat.xor_lt_two_pow (n := 32) (by omega) (by have := byte_lt x; simp only [Nat.reducePow]; omega)
theorem step32 (y : Nat) (x : UInt8) (hy : y < 4294967296) : bits .xor .u32 (y : Int) ((x.toNat : Int) % 4294967296) * 16777619 % 4294967296 = (hstep y x : Nat) := by
  have hx := byte_lt x
  have e : (x.toNat : Int) % 4294967296 = (x.toNat : Nat) := by omega
  rw [e, u32_xor_nat y x.toNat hy (by omega)]
  unfold hstep
  omega
theorem step64 (y : Nat) (x : UInt8) (hy : y < 4294967296) : (IntKind.u64.wrap (bits .xor .u64 (y : Int) (IntKind.u64.wrap (x.toNat : Int)) * 16777619)).tmod 4294967296 = (hstep y x : Nat) := by
  have hx := byte_lt x
  have hl := xor_lt y x hy
  have e : IntKind.u64.wrap (x.toNat : Int) = (x.toNat : Nat) := by rw [IntKind.wrap_u64]; omega
  rw [e, u64_xor_nat y x.toNat (by omega) (by omega), IntKind.wrap_u64, Int.tmod_eq_emod_of_nonneg (by omega)]
  unfold hstep
  omega
theorem take_all (s : ByteArray) : s.data.toList.take s.size = s.data.toList := List.take_of_length_le (by simp)

/-- What Check tells. -/
def ckI (l : List UInt8) : Int := if isKey l then 0 else 1
theorem ckI_yes {l : List UInt8} (h : isKey l = true) : ckI l = 0 := by simp [ckI, h]
theorem ckI_no {l : List UInt8} (h : isKey l = false) : ckI l = 1 := by simp [ckI, h]
theorem key_short {s : ByteArray} (h : s.size < 1) : isKey s.data.toList = false := by
  simp [isKey]; omega
theorem key_long {s : ByteArray} (h : 16 < s.size) : isKey s.data.toList = false := by
  simp [isKey]; omega
theorem key_bad {s : ByteArray} {k : Nat} (h : k < s.size) (hf : fitB s[k] = false) : allFit s.data.toList = false := allFit_no (str_get s k h) hf
theorem key_good {s : ByteArray} (h : ∀ j (hj : j < s.size), fitB s[j] = true) : allFit s.data.toList = true :=
  allFit_yes fun j x hx => by
    have hj : j < s.size := by have := (List.getElem?_eq_some_iff.1 hx).1; simpa using this
    rw [str_get s j hj] at hx
    injection hx with hx
    exact hx ▸ h j hj
theorem key_of (s : ByteArray) (h1 : 1 ≤ s.size) (h2 : s.size ≤ 16) : isKey s.data.toList = allFit s.data.toList := by
  have a : 0 < s.size := by omega
  simp [isKey, a, h2]
theorem kfit_yes {x : UInt8} (h : fitB x = true) : 33 ≤ (x.toNat : Int) ∧ (x.toNat : Int) ≤ 126 := by
  simp only [fitB, Bool.and_eq_true, decide_eq_true_eq] at h; omega
theorem kfit_no {x : UInt8} (h : fitB x = false) : (x.toNat : Int) < 33 ∨ 126 < (x.toNat : Int) := by
  simp only [fitB, Bool.and_eq_false_iff, decide_eq_false_iff_not] at h; omega

/-- A text's bucket. -/
def bkI (l : List UInt8) (n : Int) : Int := if n < 1 then 0 else (hashN l : Int) % n
theorem bkI_no {l : List UInt8} {n : Int} (h : n < 1) : bkI l n = 0 := by simp [bkI, h]
theorem bkI_yes {l : List UInt8} {n : Int} (h : ¬ n < 1) : bkI l n = (hashN l : Int) % n := by simp [bkI, h]

end Go.Proofs.Ytafmggipmaofnaa
