/- Plain facts on cells: which may be, which bytes one has. Nothing here speaks of the program. -/
import Derived.Test.YtlpgmmcdcjkkiaaDoorWords
import Derived.Test.YtlpgmmcdcjkkiaaDoorBeMath
namespace Go.Proofs.YtlpgmmcdcjkkiaaDoor
set_option maxRecDepth 20000
open Go.RowKit

/-- A cell: kind, data, bounds, value. -/
structure Cl where
  k : Int
  d : List UInt8
  lo : Int
  hi : Int
  v : Int

/-- Within the bounds? -/
def inB (lo hi v : Int) : Bool := decide (lo ≤ v) && decide (v ≤ hi)
theorem inB_yes {lo hi v : Int} (h : inB lo hi v = true) : lo ≤ v ∧ v ≤ hi := by simpa [inB] using h
theorem inB_no {lo hi v : Int} (h : inB lo hi v = false) : decide (lo ≤ v) = false ∨ (decide (lo ≤ v) = true ∧ decide (v ≤ hi) = false) := by
  unfold inB at h
  cases h1 : decide (lo ≤ v) <;> simp [h1] at h ⊢
  exact h

/-- May it be? -/
def good (c : Cl) : Bool := (c.k == 1 && decide (c.d.length ≤ 32) && c.lo == 0 && c.hi == 0 && c.v == 0) || (c.k == 2 && decide (c.d.length = 0) && inB c.lo c.hi c.v)

/-- The ways in which a cell may be, or not. -/
inductive Way (c : Cl) : Bool → Prop
  | none (h1 : (c.k == 1) = false) (h2 : (c.k == 2) = false) : Way c false
  | long (h1 : c.k = 1) (h2 : decide (c.d.length ≤ 32) = false) : Way c false
  | lo (h1 : c.k = 1) (h2 : c.d.length ≤ 32) (h3 : (c.lo == 0) = false) : Way c false
  | hi (h1 : c.k = 1) (h2 : c.d.length ≤ 32) (h3 : c.lo = 0) (h4 : (c.hi == 0) = false) : Way c false
  | val (h1 : c.k = 1) (h2 : c.d.length ≤ 32) (h3 : c.lo = 0) (h4 : c.hi = 0) (h5 : (c.v == 0) = false) : Way c false
  | record (h1 : c.k = 1) (h2 : c.d.length ≤ 32) (h3 : c.lo = 0) (h4 : c.hi = 0) (h5 : c.v = 0) : Way c true
  | data (h1 : c.k = 2) (h2 : decide (c.d.length = 0) = false) : Way c false
  | out (h1 : c.k = 2) (h2 : c.d.length = 0) (h3 : inB c.lo c.hi c.v = false) : Way c false
  | counter (h1 : c.k = 2) (h2 : c.d.length = 0) (h3 : inB c.lo c.hi c.v = true) : Way c true
theorem way_of (c : Cl) : Way c (good c) := by
  unfold good
  by_cases k1 : c.k = 1
  · have k2 : (c.k == 2) = false := by rw [k1]; rfl
    by_cases h2 : c.d.length ≤ 32
    · by_cases h3 : c.lo = 0
      · by_cases h4 : c.hi = 0
        · by_cases h5 : c.v = 0
          · simp only [k1, h2, h3, h4, h5]; exact .record k1 h2 h3 h4 h5
          · have : (c.v == 0) = false := by simpa using h5
            simp only [this, k2, Bool.and_false, Bool.false_and, Bool.or_false]; exact .val k1 h2 h3 h4 this
        · have : (c.hi == 0) = false := by simpa using h4
          simp only [this, k2, Bool.and_false, Bool.false_and, Bool.or_false]; exact .hi k1 h2 h3 this
      · have : (c.lo == 0) = false := by simpa using h3
        simp only [this, k2, Bool.and_false, Bool.false_and, Bool.or_false]; exact .lo k1 h2 this
    · have : decide (c.d.length ≤ 32) = false := by simpa using h2
      simp only [this, k2, Bool.and_false, Bool.false_and, Bool.or_false]; exact .long k1 this
  · have k1' : (c.k == 1) = false := by simpa using k1
    simp only [k1', Bool.false_and, Bool.false_or]
    by_cases k2 : c.k = 2
    · by_cases h2 : c.d.length = 0
      · cases h3 : inB c.lo c.hi c.v
        · simp only [Bool.and_false]; exact .out k2 h2 h3
        · simp only [k2, h2, beq_self_eq_true, decide_true, Bool.true_and]; exact .counter k2 h2 h3
      · have : decide (c.d.length = 0) = false := by simpa using h2
        simp only [this, Bool.and_false, Bool.false_and]; exact .data k2 this
    · have : (c.k == 2) = false := by simpa using k2
      simp only [this, Bool.false_and]; exact .none k1' this

/-- The bytes of a cell. -/
def cbytes (c : Cl) : List UInt8 := if good c then (if c.k = 1 then beb 1 (ub c.k) ++ (beb 1 (ub c.d.length) ++ c.d) else beb 1 (ub c.k) ++ (beb 8 (ub c.lo) ++ (beb 8 (ub c.hi) ++ beb 8 (ub c.v)))) else []
theorem cbytes_no {c : Cl} (h : good c = false) : cbytes c = [] := by simp [cbytes, h]
theorem cbytes_rec {c : Cl} (h : good c = true) (k : c.k = 1) : cbytes c = beb 1 (ub 1) ++ (beb 1 (ub c.d.length) ++ c.d) := by simp [cbytes, h, k]
theorem cbytes_cnt {c : Cl} (h : good c = true) (k : c.k = 2) : cbytes c = beb 1 (ub 2) ++ (beb 8 (ub c.lo) ++ (beb 8 (ub c.hi) ++ beb 8 (ub c.v))) := by simp [cbytes, h, k]

/-- What Check tells. -/
def ckC (c : Cl) : Int := if good c then 0 else 1
theorem ckC_yes {c : Cl} (h : good c = true) : ckC c = 0 := by simp [ckC, h]
theorem ckC_no {c : Cl} (h : good c = false) : ckC c = 1 := by simp [ckC, h]

/-- A cell as a value; D: its data's slice. -/
def cv (D : Value) (c : Cl) : Value := .agg #[.int .i64 c.k, D, .int .i64 c.lo, .int .i64 c.hi, .int .i64 c.v]
/-- Its numbers are of 64 bits. -/
def in64c (c : Cl) : Prop := (-9223372036854775808 ≤ c.k ∧ c.k ≤ 9223372036854775807) ∧ (-9223372036854775808 ≤ c.lo ∧ c.lo ≤ 9223372036854775807) ∧ (-9223372036854775808 ≤ c.hi ∧ c.hi ≤ 9223372036854775807) ∧ (-9223372036854775808 ≤ c.v ∧ c.v ≤ 9223372036854775807)

/-- Are two cells the same? -/
def sameC (a b : Cl) : Bool := a.k == b.k && a.d == b.d && a.lo == b.lo && a.hi == b.hi && a.v == b.v
inductive SameWay (a b : Cl) : Bool → Prop
  | k (h1 : (a.k == b.k) = false) : SameWay a b false
  | d (h1 : (a.k == b.k) = true) (h2 : (a.d == b.d) = false) : SameWay a b false
  | lo (h1 : (a.k == b.k) = true) (h2 : (a.d == b.d) = true) (h3 : (a.lo == b.lo) = false) : SameWay a b false
  | hi (h1 : (a.k == b.k) = true) (h2 : (a.d == b.d) = true) (h3 : (a.lo == b.lo) = true) (h4 : (a.hi == b.hi) = false) : SameWay a b false
  | all (h1 : (a.k == b.k) = true) (h2 : (a.d == b.d) = true) (h3 : (a.lo == b.lo) = true) (h4 : (a.hi == b.hi) = true) (x : Bool) (h5 : (a.v == b.v) = x) : SameWay a b x
theorem sameWay_of (a b : Cl) : SameWay a b (sameC a b) := by
  unfold sameC
  cases h1 : a.k == b.k
  · simp only [Bool.false_and]; exact .k h1
  · cases h2 : a.d == b.d
    · simp only [Bool.and_false, Bool.false_and]; exact .d h1 h2
    · cases h3 : a.lo == b.lo
      · simp only [Bool.and_false, Bool.false_and]; exact .lo h1 h2 h3
      · cases h4 : a.hi == b.hi
        · simp only [Bool.and_false, Bool.false_and]; exact .hi h1 h2 h3 h4
        · simp only [Bool.true_and]; exact .all h1 h2 h3 h4 _ rfl
theorem sameC_self (a : Cl) : sameC a a = true := by simp [sameC]

/-- What Set makes, and its error. -/
def setB (c : Cl) (x : Int) : Bool := c.k == 2 && good c && inB c.lo c.hi x
def zeroC : Cl := ⟨0, [], 0, 0, 0⟩
def stC (c : Cl) (x : Int) : Cl := if setB c x then ⟨2, [], c.lo, c.hi, x⟩ else zeroC
def stE (c : Cl) (x : Int) : Int := if setB c x then 0 else if c.k == 2 && good c then 8 else 6
inductive SetWay (c : Cl) (x : Int) : Prop
  | kind (h1 : (c.k == 2) = false) (e1 : stC c x = zeroC) (e2 : stE c x = 6)
  | bad (h1 : c.k = 2) (h2 : good c = false) (e1 : stC c x = zeroC) (e2 : stE c x = 6)
  | out (h1 : c.k = 2) (h2 : good c = true) (h3 : inB c.lo c.hi x = false) (e1 : stC c x = zeroC) (e2 : stE c x = 8)
  | fine (h1 : c.k = 2) (h2 : good c = true) (hd : c.d = []) (h3 : inB c.lo c.hi x = true) (e1 : stC c x = ⟨2, [], c.lo, c.hi, x⟩) (e2 : stE c x = 0)
theorem good_data {c : Cl} (h : good c = true) (k : c.k = 2) : c.d = [] := by
  simp [good, k] at h
  exact h.1
theorem setWay_of (c : Cl) (x : Int) : SetWay c x := by
  by_cases k2 : c.k = 2
  · cases h2 : good c
    · exact .bad k2 h2 (by simp [stC, setB, h2]) (by simp [stE, setB, h2])
    · cases h3 : inB c.lo c.hi x
      · exact .out k2 h2 h3 (by simp [stC, setB, h2, h3]) (by simp [stE, setB, h2, h3, k2])
      · exact .fine k2 h2 (good_data h2 k2) h3 (by simp [stC, setB, h2, h3, k2]) (by simp [stE, setB, h2, h3, k2])
  · have : (c.k == 2) = false := by simpa using k2
    exact .kind this (by simp [stC, setB, this]) (by simp [stE, setB, this])
end Go.Proofs.YtlpgmmcdcjkkiaaDoor
