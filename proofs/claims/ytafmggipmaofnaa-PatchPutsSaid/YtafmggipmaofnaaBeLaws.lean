/- Layer 1: the page's example (live), Put of no width, Text; and what the two laws come to. -/
import Derived.Test.YtafmggipmaofnaaBePut
namespace Go.Proofs.Ytafmggipmaofnaa
set_option maxRecDepth 20000
open Go.RowKit

theorem put_no (v : Value) (l : List UInt8) (m x : Int) (w : World) (hl : l.length ≤ 1073741824) (hv : SV w v (bys l)) (hm : m < 1 ∨ 8 < m) :
    Calls Try.prog 42 #[v, .int .i64 m, .int .i64 x] w fun e w' => ∃ v, e = .returned v ∧ w'.ownsRow w.heap.size 5 1 v l.length (bys l) ∧ Below w.heap.size w w' := by
  go_enter Try.func42, Try.ntmps42
  go_wp2_with (first
    | (go_at_call 46; refine (fits_no _ _ hm).mono ?_; rintro e w' ⟨rfl, rfl⟩)
    | (go_at_call 45; refine (clone_any _ l _ hl hv).mono ?_; rintro e w1 ⟨v1, rfl, hown, hb⟩))
  go_ret
  exact ⟨_, rfl, hown, hb⟩

theorem num_eq (v : Value) (l : List UInt8) (a n : Nat) (N : Int) (w : World) (hl : l.length ≤ 1073741824) (hv : SV w v (bys l)) (h1 : 1 ≤ n) (h2 : n ≤ 8) (h3 : a + n ≤ l.length) (hN : wrap64 (numOf ((l.drop a).take n)) = N) :
    Calls Try.prog 44 #[v, .int .i64 a, .int .i64 n] w fun e w' => e = .returned (.tuple #[.int .i64 N, .bool true]) ∧ w = w' := by
  subst hN
  exact num_yes v l a n w hl hv h1 h2 h3

theorem n258 : wrap64 (numOf ((([9, 1, 2] : List UInt8).drop 1).take 2)) = 258 := by
  have h : numOf ((([9, 1, 2] : List UInt8).drop 1).take 2) = 258 := by decide
  rw [h]
  unfold wrap64
  omega

theorem numOf_app (l m : List UInt8) : numOf (l ++ m) = numOf l * 256 ^ m.length + numOf m := by
  have h : ∀ k (m : List UInt8), m.length = k → numOf (l ++ m) = numOf l * 256 ^ k + numOf m := by
    intro k
    induction k with
    | zero => intro m hm; rw [List.eq_nil_of_length_eq_zero hm]; simp [numOf]
    | succ k ih =>
      intro m hm
      obtain ⟨m', b, rfl⟩ : ∃ m' b, m = m' ++ [b] := ⟨m.dropLast, m.getLast (by rintro rfl; simp at hm), (List.dropLast_concat_getLast _).symm⟩
      rw [← List.append_assoc, numOf_snoc, ih m' (by simpa using hm), numOf_snoc, Nat.pow_succ, Nat.mul_add, ← Nat.mul_assoc, ← Nat.mul_assoc, Nat.mul_comm 256, Nat.mul_assoc _ 256, Nat.mul_comm 256, ← Nat.mul_assoc, Nat.add_assoc]
  exact h _ m rfl
theorem numOf_beb (k U : Nat) : numOf (beb k U) = U % 256 ^ k := by
  induction k with
  | zero => simp [beb, numOf, Nat.mod_one]
  | succ k ih =>
    have h : beb (k + 1) U = [UInt8.ofNat (U / 256 ^ k % 256)] ++ beb k U := rfl
    rw [h, numOf_app, ih, beb_len]
    have h1 : numOf [UInt8.ofNat (U / 256 ^ k % 256)] = U / 256 ^ k % 256 := by simp [numOf]
    rw [h1, Nat.pow_succ, Nat.mod_mul, Nat.mul_comm, Nat.add_comm]

end Go.Proofs.Ytafmggipmaofnaa
