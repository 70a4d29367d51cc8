/- Plain facts on sums of bytes: a bit's step, that it goes through xor, what eight steps make of a byte, that no step loses a difference. Nothing here speaks of the program. -/
import Derived.WalkKit
import Derived.Laws.BitsAllLaws
import Derived.Test.YtafmggipmaofnaaBeMath
namespace Go.Proofs.Ytafmggipmaofnaa
set_option maxRecDepth 20000
open Go.RowKit

/-- A bit's step. -/
def bit1 (v : Nat) : Nat := if v % 2 = 1 then v / 2 ^^^ 2197175160 else v / 2
/-- So many steps. -/
def bitn : Nat → Nat → Nat
  | 0, v => v
  | k + 1, v => bitn k (bit1 v)
/-- A byte's step. -/
def step8 (v : Nat) (b : UInt8) : Nat := bitn 8 (v ^^^ b.toNat)
def run8 (v : Nat) (l : List UInt8) : Nat := l.foldl step8 v
/-- The sum of bytes behind others whose sum is s. -/
def more (s : Nat) (l : List UInt8) : Nat := 4294967295 - run8 (4294967295 - s) l

theorem xor_div2 (a b : Nat) : (a ^^^ b) / 2 = a / 2 ^^^ b / 2 := by
  apply Nat.eq_of_testBit_eq; intro i; simp [Nat.testBit_div_two]
theorem xor_mod2 (a b : Nat) : (a ^^^ b) % 2 = (a % 2) ^^^ (b % 2) := by
  have := Nat.xor_mod_two_pow (a := a) (b := b) (n := 1)
  simpa using this
theorem bit1_lt (v : Nat) (h : v < 4294967296) : bit1 v < 4294967296 := by
  unfold bit1
  split
  · exact Nat.xor_lt_two_pow (n := 32) (by omega) (by decide)
  · omega
theorem bitn_lt (k v : Nat) (h : v < 4294967296) : bitn k v < 4294967296 := by
  induction k generalizing v with
  | zero => exact h
  | succ k ih => exact ih _ (bit1_lt v h)
theorem bitn_snoc (k v : Nat) : bitn (k + 1) v = bit1 (bitn k v) := by
  induction k generalizing v with
  | zero => rfl
  | succ k ih => exact ih (bit1 v)
theorem bitn_add (j k v : Nat) : bitn (j + k) v = bitn k (bitn j v) := by
  induction j generalizing v with
  | zero => simp [bitn]
  | succ j ih => rw [show j + 1 + k = (j + k) + 1 by omega]; exact ih (bit1 v)
theorem bit1_xor (a b : Nat) : bit1 (a ^^^ b) = bit1 a ^^^ bit1 b := by
  unfold bit1
  rw [xor_mod2, xor_div2]
  generalize a / 2 = x
  generalize b / 2 = y
  have hx : ∀ p q r : Nat, p ^^^ q ^^^ r = p ^^^ (q ^^^ r) := fun p q r => Nat.xor_assoc p q r
  rcases Nat.mod_two_eq_zero_or_one a with h | h <;> rcases Nat.mod_two_eq_zero_or_one b with k | k <;> rw [h, k] <;> simp
  · rw [hx]
  · rw [hx, hx, Nat.xor_comm y]
  · rw [hx, ← hx 2197175160 y, Nat.xor_comm 2197175160 y, hx y, Nat.xor_self, Nat.xor_zero]
theorem bitn_xor (k a b : Nat) : bitn k (a ^^^ b) = bitn k a ^^^ bitn k b := by
  induction k generalizing a b with
  | zero => rfl
  | succ k ih => rw [bitn, bitn, bitn, bit1_xor, ih]
theorem bitn_mul (k m : Nat) : bitn k (2 ^ k * m) = m := by
  induction k generalizing m with
  | zero => simp [bitn]
  | succ k ih =>
    have h : bit1 (2 ^ (k + 1) * m) = 2 ^ k * m := by
      unfold bit1
      have e : 2 ^ (k + 1) * m = 2 * (2 ^ k * m) := by rw [Nat.pow_succ, Nat.mul_comm (2 ^ k) 2, Nat.mul_assoc]
      rw [e, if_neg (by omega)]
      omega
    rw [bitn, h, ih]
theorem bit1_zero (v : Nat) (h : v < 4294967296) (h0 : bit1 v = 0) : v = 0 := by
  unfold bit1 at h0
  split at h0
  · have : v / 2 = 2197175160 := by
      have e := congrArg (· ^^^ 2197175160) h0
      simpa [Nat.xor_assoc] using e
    omega
  · omega
theorem bitn_zero (k v : Nat) (h : v < 4294967296) (h0 : bitn k v = 0) : v = 0 := by
  induction k generalizing v with
  | zero => exact h0
  | succ k ih => exact bit1_zero v h (ih _ (bit1_lt v h) h0)

theorem xor_divp (i a b : Nat) : (a ^^^ b) / 2 ^ i = a / 2 ^ i ^^^ b / 2 ^ i := by
  apply Nat.eq_of_testBit_eq; intro j; simp [Nat.testBit_div_two_pow]
theorem xor_modp (i a b : Nat) : (a ^^^ b) % 2 ^ i = (a % 2 ^ i) ^^^ (b % 2 ^ i) := Nat.xor_mod_two_pow
theorem xor_join (i x y : Nat) (hy : y < 2 ^ i) : 2 ^ i * x ^^^ y = 2 ^ i * x + y := by
  have h1 := xor_divp i (2 ^ i * x) y
  have h2 := xor_modp i (2 ^ i * x) y
  rw [Nat.div_eq_of_lt hy, Nat.xor_zero, Nat.mul_div_cancel_left _ (Nat.two_pow_pos i)] at h1
  rw [Nat.mod_eq_of_lt hy, Nat.mul_mod_right, Nat.zero_xor] at h2
  have := Nat.div_add_mod (2 ^ i * x ^^^ y) (2 ^ i)
  rw [h1, h2] at this
  exact this.symm
theorem split8 (v : Nat) : 2 ^ 8 * (v / 256) ^^^ (v % 256) = v := by
  rw [xor_join 8 _ _ (by simp only [Nat.reducePow]; omega)]
  simp only [Nat.reducePow]; omega
theorem u8_nat_lt (b : UInt8) : b.toNat < 256 := b.toNat_lt
/-- What a table of all bytes is for: a byte's step, out of what eight steps make of one byte. -/
theorem step8_table (v : Nat) (b : UInt8) : step8 v b = v / 256 ^^^ bitn 8 (v % 256 ^^^ b.toNat) := by
  unfold step8
  conv => lhs; rw [← split8 v]
  rw [Nat.xor_assoc, bitn_xor, bitn_mul]
theorem step8_lt (v : Nat) (b : UInt8) (h : v < 4294967296) : step8 v b < 4294967296 :=
  bitn_lt 8 _ (Nat.xor_lt_two_pow (n := 32) (by omega) (by have := u8_nat_lt b; simp only [Nat.reducePow]; omega))
theorem run8_lt (v : Nat) (l : List UInt8) (h : v < 4294967296) : run8 v l < 4294967296 := by
  induction l generalizing v with
  | nil => exact h
  | cons b l ih => exact ih _ (step8_lt v b h)
theorem run8_snoc (v : Nat) (l : List UInt8) (b : UInt8) : run8 v (l ++ [b]) = step8 (run8 v l) b := by simp [run8]
theorem run8_app (v : Nat) (l m : List UInt8) : run8 v (l ++ m) = run8 (run8 v l) m := by simp [run8]
theorem more_lt (s : Nat) (l : List UInt8) : more s l < 4294967296 := by unfold more; omega
theorem more_app (s : Nat) (l m : List UInt8) (h : s < 4294967296) : more s (l ++ m) = more (more s l) m := by
  have h1 := run8_lt (4294967295 - s) l (by omega)
  have e : 4294967295 - more s l = run8 (4294967295 - s) l := by unfold more; omega
  unfold more at *
  rw [run8_app, e]

/-- Bytes as one number, the least ahead. -/
def leN : List UInt8 → Nat
  | [] => 0
  | b :: l => 2 ^ 8 * leN l ^^^ b.toNat
theorem run8_num (v : Nat) (l : List UInt8) : run8 v l = bitn (8 * l.length) (leN l ^^^ v) := by
  induction l generalizing v with
  | nil => simp [run8, leN, bitn]
  | cons b l ih =>
    have h : run8 v (b :: l) = run8 (step8 v b) l := rfl
    rw [h, ih, List.length_cons, Nat.mul_succ, Nat.add_comm, bitn_add, leN, Nat.xor_assoc, bitn_xor 8, bitn_mul, step8, Nat.xor_comm v]
theorem leN_set (l : List UInt8) (j : Nat) (x t : UInt8) (h : l[j]? = some x) : leN (l.set j (x ^^^ t)) = leN l ^^^ 2 ^ (8 * j) * t.toNat := by
  induction l generalizing j with
  | nil => simp at h
  | cons b l ih =>
    cases j with
    | zero =>
      obtain rfl : b = x := by simpa using h
      simp [leN, Nat.xor_assoc]
    | succ j =>
      have := ih j (by simpa using h)
      have e : 2 ^ (8 * (j + 1)) * t.toNat = 2 ^ 8 * (2 ^ (8 * j) * t.toNat) := by rw [Nat.mul_succ, Nat.pow_add, Nat.mul_comm (2 ^ (8 * j)), Nat.mul_assoc]
      have d : ∀ a c : Nat, 2 ^ 8 * (a ^^^ c) = 2 ^ 8 * a ^^^ 2 ^ 8 * c := fun a c => by
        apply Nat.eq_of_testBit_eq; intro i; simp only [Nat.testBit_two_pow_mul, Nat.testBit_xor]
        cases decide (i ≥ 8) <;> simp
      simp only [List.set_cons_succ, leN]
      rw [this, e, d, Nat.xor_assoc, Nat.xor_assoc, Nat.xor_comm _ b.toNat]

/-- **No burst of 32 bits is lost.** -/
theorem run8_burst (v : Nat) (l m : List UInt8) (a t : Nat) (hl : m.length = l.length) (ht : t < 4294967296) (h0 : t ≠ 0) (ha : a + 32 ≤ 8 * l.length) (h : leN m = leN l ^^^ 2 ^ a * t) : run8 v m ≠ run8 v l := by
  intro e
  rw [run8_num, run8_num, hl, h] at e
  have e1 : leN l ^^^ 2 ^ a * t ^^^ v = (leN l ^^^ v) ^^^ 2 ^ a * t := by rw [Nat.xor_assoc, Nat.xor_assoc, Nat.xor_comm v]
  rw [e1, bitn_xor] at e
  have e2 : bitn (8 * l.length) (2 ^ a * t) = 0 := by
    have := congrArg (bitn (8 * l.length) (leN l ^^^ v) ^^^ ·) e
    simpa [← Nat.xor_assoc] using this
  rw [show 8 * l.length = a + (8 * l.length - a) by omega, bitn_add, bitn_mul] at e2
  exact h0 (bitn_zero _ _ ht e2)
theorem more_burst (s : Nat) (l m : List UInt8) (a t : Nat) (hl : m.length = l.length) (ht : t < 4294967296) (h0 : t ≠ 0) (ha : a + 32 ≤ 8 * l.length) (h : leN m = leN l ^^^ 2 ^ a * t) : more s m ≠ more s l := by
  have h1 := run8_burst (4294967295 - s) l m a t hl ht h0 ha h
  have h2 := run8_lt (4294967295 - s) l (by omega)
  have h3 := run8_lt (4294967295 - s) m (by omega)
  unfold more
  omega

theorem bv64 (a : Nat) (h : a < 9223372036854775808) : (BitVec.ofInt 64 (a : Int)).toNat = a := by
  rw [BitVec.toNat_ofInt]; simp only [Nat.reducePow]; omega
theorem i64_xor_nat (a b : Nat) (ha : a < 9223372036854775808) (hb : b < 9223372036854775808) : bits .xor .i64 (a : Int) (b : Int) = ((a ^^^ b : Nat) : Int) := by
  have hx : a ^^^ b < 2 ^ 63 := Nat.xor_lt_two_pow (by omega) (by omega)
  have e : bits .xor .i64 (a : Int) (b : Int) = IntKind.i64.wrap ((BitVec.ofInt 64 (a : Int) ^^^ BitVec.ofInt 64 (b : Int)).toNat : Int) := rfl
  rw [e, BitVec.toNat_xor, bv64 a ha, bv64 b hb, IntKind.wrap_i64]
  simp only [Nat.reducePow] at hx
  omega
theorem i64_and_nat (a b : Nat) (ha : a < 9223372036854775808) (hb : b < 9223372036854775808) : bits .and .i64 (a : Int) (b : Int) = ((a &&& b : Nat) : Int) := by
  have hx : a &&& b ≤ a := Nat.and_le_left
  have e : bits .and .i64 (a : Int) (b : Int) = IntKind.i64.wrap ((BitVec.ofInt 64 (a : Int) &&& BitVec.ofInt 64 (b : Int)).toNat : Int) := rfl
  rw [e, BitVec.toNat_and, bv64 a ha, bv64 b hb, IntKind.wrap_i64]
  omega

theorem mul_xor (k a c : Nat) : 2 ^ k * (a ^^^ c) = 2 ^ k * a ^^^ 2 ^ k * c := by
  apply Nat.eq_of_testBit_eq; intro i; simp only [Nat.testBit_two_pow_mul, Nat.testBit_xor]
  cases decide (i ≥ k) <;> simp
/-- One bit more of what is turned. -/
theorem burst_step (N a t i : Nat) (h : t / 2 ^ i % 2 = 1) : (N ^^^ 2 ^ a * (t % 2 ^ i)) ^^^ 2 ^ (a + i) = N ^^^ 2 ^ a * (t % 2 ^ (i + 1)) := by
  have e : t % 2 ^ (i + 1) = 2 ^ i * 1 ^^^ t % 2 ^ i := by
    rw [xor_join i 1 _ (Nat.mod_lt _ (Nat.two_pow_pos i)), Nat.pow_succ, Nat.mod_mul, h]
    omega
  rw [e, mul_xor, Nat.mul_one, ← Nat.pow_add, Nat.xor_assoc, Nat.xor_comm (2 ^ (a + i))]
theorem burst_skip (t i : Nat) (h : t / 2 ^ i % 2 = 0) : t % 2 ^ (i + 1) = t % 2 ^ i := by
  rw [Nat.pow_succ, Nat.mod_mul, h, Nat.mul_zero, Nat.add_zero]
/-- A byte with one bit turned. -/
theorem leN_turn (l : List UInt8) (k : Nat) (x : UInt8) (h : l[k / 8]? = some x) : leN (l.set (k / 8) (x ^^^ UInt8.ofNat (2 ^ (k % 8)))) = leN l ^^^ 2 ^ k := by
  rw [leN_set _ _ _ _ h]
  have e : (UInt8.ofNat (2 ^ (k % 8))).toNat = 2 ^ (k % 8) := by
    rw [UInt8.toNat_ofNat']
    have : 2 ^ (k % 8) < 2 ^ 8 := Nat.pow_lt_pow_right (by omega) (by omega)
    exact Nat.mod_eq_of_lt this
  rw [e, ← Nat.pow_add, Nat.div_add_mod]
end Go.Proofs.Ytafmggipmaofnaa
