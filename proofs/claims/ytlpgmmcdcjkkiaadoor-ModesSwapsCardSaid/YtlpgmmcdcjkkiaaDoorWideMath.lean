/- Layer 3, plain mathematics: a number of 128 bits as two parts; the reference's two parts; rows of numbers. -/
import Derived.WalkKit
import Derived.IntWalk
namespace Go.Proofs.YtlpgmmcdcjkkiaaDoor
set_option maxRecDepth 20000
open Go.RowKit

def hiW (x : Int) : Int := x / 18446744073709551616
def loN (x : Int) : Nat := (x % 18446744073709551616).toNat
/-- The program's Sum of a number. -/
def wide (x : Int) : Value := .agg #[.int .i64 (hiW x), .int .u64 (loN x : Int)]
/-- May it be a Sum's number, with room? -/
def inSum (x : Int) : Prop := -1267650600228229401496703205376 ≤ x ∧ x ≤ 1267650600228229401496703205376
def in64 (x : Int) : Prop := -9223372036854775808 ≤ x ∧ x ≤ 9223372036854775807
instance (x : Int) : Decidable (in64 x) := inferInstanceAs (Decidable (_ ∧ _))

/-- The number, if it is one of 64 bits; else 0; and whether it is. -/
def fitI (x : Int) : Int := if in64 x then x else 0
def wfitB (x : Int) : Bool := decide (in64 x)
theorem fit_yes {x : Int} (h : in64 x) : fitI x = x ∧ wfitB x = true := ⟨if_pos h, decide_eq_true h⟩
theorem fit_no {x : Int} (h : ¬ in64 x) : fitI x = 0 ∧ wfitB x = false := ⟨if_neg h, decide_eq_false h⟩
theorem parts (x : Int) : x = hiW x * 18446744073709551616 + (loN x : Int) ∧ (loN x : Int) ≤ 18446744073709551615 ∧ 0 ≤ (loN x : Int) := by
  unfold hiW loN; omega
theorem loN_lt (x : Int) : loN x < 18446744073709551616 := by unfold loN; omega
theorem hiW_bd (x : Int) (h : inSum x) : -68719476736 ≤ hiW x ∧ hiW x ≤ 68719476736 := by unfold inSum at h; unfold hiW; omega
theorem of_parts (h : Int) (l : Int) (h0 : 0 ≤ l) (h1 : l ≤ 18446744073709551615) : hiW (h * 18446744073709551616 + l) = h ∧ (loN (h * 18446744073709551616 + l) : Int) = l := by
  unfold hiW loN; omega
theorem hiW_neg (n : Int) (h : n < 0) (h1 : in64 n) : hiW n = -1 ∧ IntKind.u64.wrap n = (loN n : Int) := by
  unfold in64 at h1; rw [IntKind.wrap_u64]; unfold hiW loN; omega
theorem hiW_pos (n : Int) (h : 0 ≤ n) (h1 : in64 n) : hiW n = 0 ∧ IntKind.u64.wrap n = (loN n : Int) := by
  unfold in64 at h1; rw [IntKind.wrap_u64]; unfold hiW loN; omega
theorem join_lo (x y : Int) : (loN x + loN y + 0) % 18446744073709551616 = loN (x + y) := by unfold loN; omega
theorem join_hi (x y : Int) : hiW x + hiW y + (((loN x + loN y + 0) / 18446744073709551616 : Nat) : Int) = hiW (x + y) := by unfold hiW loN; omega
theorem carry_le (x y : Int) : (loN x + loN y + 0) / 18446744073709551616 ≤ 1 := by unfold loN; omega
theorem opp_hi (x : Int) : hiW (-x - 1) = -(hiW x) - 1 := by unfold hiW; omega
theorem opp_lo (x : Int) : loN (-x - 1) = 18446744073709551615 - loN x := by unfold loN; omega
theorem wide_inj {x y : Int} (h : hiW x = hiW y) (k : loN x = loN y) : x = y := by
  have a := (parts x).1; have b := (parts y).1
  rw [a, b, h, k]
theorem less_hi (x y : Int) (h : hiW x ≠ hiW y) : decide (hiW x < hiW y) = decide (x < y) := by
  have a := parts x; have b := parts y
  by_cases hx : hiW x < hiW y <;> simp [hx] <;> omega
theorem less_lo (x y : Int) (h : hiW x = hiW y) : decide (loN x < loN y) = decide (x < y) := by
  have a := parts x; have b := parts y
  by_cases hx : loN x < loN y <;> simp [hx] <;> omega

/-! The reference's number: how many times 2^32, and what is left -/
def num (x : Int) : Value := .agg #[.int .i64 (x / 4294967296), .int .i64 (x % 4294967296)]

theorem ref_of (n : Int) (hn : in64 n) : wrap64 ((wrap64 (n - n.tmod 4294967296)).tdiv 4294967296) * 4294967296 + n.tmod 4294967296 = n ∧
    (-17592186044416 ≤ wrap64 ((wrap64 (n - n.tmod 4294967296)).tdiv 4294967296) ∧ wrap64 ((wrap64 (n - n.tmod 4294967296)).tdiv 4294967296) ≤ 17592186044416) ∧ -4294967296 ≤ n.tmod 4294967296 ∧ n.tmod 4294967296 ≤ 8589934592 := by
  unfold in64 at hn
  by_cases h : 0 ≤ n
  · have e1 : n.tmod 4294967296 = n % 4294967296 := Int.tmod_eq_emod_of_nonneg h
    have e2 : wrap64 (n - n % 4294967296) = n - n % 4294967296 := by unfold wrap64; omega
    have e3 : (n - n % 4294967296).tdiv 4294967296 = (n - n % 4294967296) / 4294967296 := Int.tdiv_eq_ediv_of_nonneg (by omega)
    rw [e1, e2, e3]
    unfold wrap64
    omega
  · obtain ⟨m, rfl⟩ : ∃ m, n = -m := ⟨-n, by omega⟩
    have e0 : (-m).tmod 4294967296 = -(m % 4294967296) := by rw [Int.neg_tmod, Int.tmod_eq_emod_of_nonneg (by omega)]
    have e2 : wrap64 (-m - -(m % 4294967296)) = -(m - m % 4294967296) := by unfold wrap64; omega
    have e3 : (-(m - m % 4294967296)).tdiv 4294967296 = -((m - m % 4294967296) / 4294967296) := by rw [Int.neg_tdiv, Int.tdiv_eq_ediv_of_nonneg (by omega)]
    rw [e0, e2, e3]
    unfold wrap64
    omega

/-! Rows of numbers, some of them taken off -/
def term (l : List Int) (o : List Bool) (k : Nat) : Int := if o[k]? = some true then -(l[k]?.getD 0) else l[k]?.getD 0
def upto (l : List Int) (o : List Bool) : Nat → Int
  | 0 => 0
  | k + 1 => upto l o k + term l o k
def tot (l : List Int) (o : List Bool) : Int := upto l o l.length
theorem term_bd (l : List Int) (o : List Bool) (k : Nat) (h : ∀ x ∈ l, in64 x) : -9223372036854775808 ≤ term l o k ∧ term l o k ≤ 9223372036854775808 := by
  unfold term
  have : in64 (l[k]?.getD 0) := by
    cases hk : l[k]? with
    | none => simp [in64]
    | some x => exact h x (List.mem_of_getElem? hk)
  unfold in64 at this
  split <;> omega
theorem upto_bd (l : List Int) (o : List Bool) (h : ∀ x ∈ l, in64 x) : ∀ k : Nat, -(k * 9223372036854775808 : Int) ≤ upto l o k ∧ upto l o k ≤ k * 9223372036854775808
  | 0 => by simp [upto]
  | k + 1 => by
    have := upto_bd l o h k
    have := term_bd l o k h
    unfold upto
    omega
theorem tot_bd (l : List Int) (o : List Bool) (h : ∀ x ∈ l, in64 x) (hl : l.length ≤ 60) : -553402322211286548480 ≤ tot l o ∧ tot l o ≤ 553402322211286548480 := by
  have := upto_bd l o h l.length
  unfold tot
  omega

/-- What is behind a place. -/
theorem term_take (l : List Int) (o : List Bool) (k j : Nat) (h : j < k) : term (l.take k) o j = term l o j := by
  unfold term; rw [List.getElem?_take, if_pos h]
theorem upto_take (l : List Int) (o : List Bool) (k : Nat) : ∀ j, j ≤ k → upto (l.take k) o j = upto l o j
  | 0, _ => rfl
  | j + 1, h => by rw [upto, upto, upto_take l o k j (by omega), term_take l o k j (by omega)]
theorem tot_take (l : List Int) (o : List Bool) (k : Nat) (h : k ≤ l.length) : tot (l.take k) o = upto l o k := by
  unfold tot
  rw [show (l.take k).length = k by simp; omega]
  exact upto_take l o k k (Nat.le_refl _)
theorem upto_drop (l : List Int) (o : List Bool) (k : Nat) : ∀ j, upto (l.drop k) (o.drop k) j = upto l o (k + j) - upto l o k
  | 0 => by simp [upto]
  | j + 1 => by
    rw [upto, upto_drop l o k j, ← Nat.add_assoc, upto]
    have : term (l.drop k) (o.drop k) j = term l o (k + j) := by unfold term; rw [List.getElem?_drop, List.getElem?_drop]
    omega
theorem tot_drop (l : List Int) (o : List Bool) (k : Nat) (h : k ≤ l.length) : tot (l.drop k) (o.drop k) = tot l o - upto l o k := by
  unfold tot
  rw [upto_drop, List.length_drop, show k + (l.length - k) = l.length by omega]
theorem tot_split (l : List Int) (o : List Bool) (k : Nat) (h : k ≤ l.length) : tot (l.take k) o + tot (l.drop k) (o.drop k) = tot l o := by
  rw [tot_take l o k h, tot_drop l o k h]; omega
end Go.Proofs.YtlpgmmcdcjkkiaaDoor
