/- Plain facts on numbers as bytes, the greatest ahead: which number a row of bytes is, which bytes a number has. Nothing here speaks of the program. -/
import Derived.WalkKit
import Derived.Laws.BitsAllLaws
namespace Go.Proofs.YtlpgmmcdcjkkiaaDoor
set_option maxRecDepth 20000
open Go.RowKit

/-- The number that bytes are. -/
def numOf (l : List UInt8) : Nat := l.foldl (fun n b => 256 * n + b.toNat) 0
theorem numOf_snoc (l : List UInt8) (b : UInt8) : numOf (l ++ [b]) = 256 * numOf l + b.toNat := by simp [numOf]

theorem u8_lt (b : UInt8) : (b.toNat : Int) < 256 := by have := b.toNat_lt; omega

/-- What 'n<<8 | x' makes of a number that goes round. -/
theorem or_step (N : Nat) (x : Int) (h0 : 0 ≤ x) (h1 : x < 256) :
    bits .or .i64 (wrap64 (wrap64 (N : Int) * 256)) x = wrap64 (256 * (N : Int) + x) := by
  have key : (BitVec.ofInt 64 (wrap64 (wrap64 (N : Int) * 256)) ||| BitVec.ofInt 64 x).toNat = ((N * 256) % 18446744073709551616) + x.toNat := by
    rw [BitVec.toNat_or]
    have ha : (BitVec.ofInt 64 (wrap64 (wrap64 (N : Int) * 256))).toNat = (N * 256) % 18446744073709551616 := by
      rw [BitVec.toNat_ofInt]; unfold wrap64; simp only [Nat.reducePow]; omega
    have hb : (BitVec.ofInt 64 x).toNat = x.toNat := by
      rw [BitVec.toNat_ofInt]; simp only [Nat.reducePow]; omega
    rw [ha, hb]
    exact nat_join 8 _ _ (by omega) (by simp only [Nat.reducePow]; omega)
  have e : bits .or .i64 (wrap64 (wrap64 (N : Int) * 256)) x = IntKind.i64.wrap ((BitVec.ofInt 64 (wrap64 (wrap64 (N : Int) * 256)) ||| BitVec.ofInt 64 x).toNat : Int) := rfl
  rw [e, key, IntKind.wrap_i64]
  unfold wrap64
  omega

/-- The lowest bytes of U, the greatest ahead. -/
def beb : Nat → Nat → List UInt8
  | 0, _ => []
  | k + 1, U => UInt8.ofNat (U / 256 ^ k % 256) :: beb k U
@[simp] theorem beb_len (k U : Nat) : (beb k U).length = k := by induction k <;> simp [beb, *]

/-- 64 bits, without a sign. -/
def ub (n : Int) : Nat := (n % 18446744073709551616).toNat
theorem ub_lt (n : Int) : ub n < 18446744073709551616 := by unfold ub; omega
theorem ub_cast (n : Int) : ((ub n : Nat) : Int) = n % 18446744073709551616 := by unfold ub; omega
theorem ub_wrap (n : Int) : IntKind.u64.wrap n = ((ub n : Nat) : Int) := by rw [IntKind.wrap_u64, ub_cast]

theorem ub_nat (n : Nat) (h : n < 18446744073709551616) : ub (n : Int) = n := by unfold ub; omega

/-- A number modulo 2^64, as an int: kept behind a name. -/
def m64 (N : Nat) : Int := ((N % 18446744073709551616 : Nat) : Int)
theorem m64_lo (N : Nat) : 0 ≤ m64 N := by unfold m64; omega
theorem m64_hi (N : Nat) : m64 N ≤ 18446744073709551615 := by unfold m64; omega
theorem m64_step (N : Nat) (x : UInt8) : IntKind.u64.wrap (IntKind.u64.wrap (256 * m64 N) + x.toNat) = m64 (256 * N + x.toNat) := by
  rw [IntKind.wrap_u64, IntKind.wrap_u64]; unfold m64; omega
theorem m64_wrap (N : Nat) : wrap64 (m64 N) = wrap64 (N : Int) := by unfold m64 wrap64; omega
theorem m64_zero : m64 0 = 0 := rfl

/-- A byte of a number, as Go's shift and conversion tell it. -/
theorem byte_of (x : Int) (j : Nat) (hj : j ≤ 7) : ((UInt8.ofNat (ub x / 256 ^ j % 256)).toNat : Int) = x / 2 ^ (8 * j) % 256 := by
  have h := ub_cast x
  simp only [UInt8.toNat_ofNat']
  obtain rfl | rfl | rfl | rfl | rfl | rfl | rfl | rfl : j = 0 ∨ j = 1 ∨ j = 2 ∨ j = 3 ∨ j = 4 ∨ j = 5 ∨ j = 6 ∨ j = 7 := by omega
  all_goals
    generalize ub x = U at *
    simp only [Nat.reduceMul, Nat.reducePow, Int.reducePow]
    omega
end Go.Proofs.YtlpgmmcdcjkkiaaDoor
