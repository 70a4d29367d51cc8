/- Plain facts on items: which may be, which bytes one has, which item bytes are. Nothing here speaks of the program. -/
import Derived.Test.YtafmggipmaofnaaCellBytes
import Derived.Test.YtafmggipmaofnaaKeyMath
namespace Go.Proofs.Ytafmggipmaofnaa
set_option maxRecDepth 20000
open Go.RowKit

/-- An item: state, key, cell. -/
structure It where
  s : Int
  k : List UInt8
  c : Cl
def zeroI : It := ⟨0, [], zeroC⟩
/-- Are two items the same? -/
def sameI (a b : It) : Bool := a.s == b.s && a.k == b.k && sameC a.c b.c
inductive ISame (a b : It) : Bool → Prop
  | s (h1 : (a.s == b.s) = false) : ISame a b false
  | k (h1 : (a.s == b.s) = true) (h2 : (a.k == b.k) = false) : ISame a b false
  | c (h1 : (a.s == b.s) = true) (h2 : (a.k == b.k) = true) (x : Bool) (h3 : sameC a.c b.c = x) : ISame a b x
theorem isame_of (a b : It) : ISame a b (sameI a b) := by
  unfold sameI
  cases h1 : a.s == b.s
  · simp only [Bool.false_and]; exact .s h1
  · cases h2 : a.k == b.k
    · simp only [Bool.and_false, Bool.false_and]; exact .k h1 h2
    · simp only [Bool.true_and]; exact .c h1 h2 _ rfl
theorem sameC_eq {a b : Cl} (h : sameC a b = true) : a = b := by
  obtain ⟨k, d, lo, hi, v⟩ := a
  obtain ⟨k', d', lo', hi', v'⟩ := b
  simp [sameC] at h
  obtain ⟨⟨⟨⟨rfl, rfl⟩, rfl⟩, rfl⟩, rfl⟩ := h
  rfl
theorem sameI_eq {a b : It} (h : sameI a b = true) : a = b := by
  obtain ⟨s, k, c⟩ := a
  obtain ⟨s', k', c'⟩ := b
  simp only [sameI, Bool.and_eq_true, beq_iff_eq] at h
  obtain ⟨⟨rfl, rfl⟩, h⟩ := h
  rw [sameC_eq h]
theorem sameI_self (a : It) : sameI a a = true := by simp [sameI, sameC_self]

/-- May it be? -/
def goodI (x : It) : Bool := if x.s = 0 then sameI x zeroI else (x.s == 1 || x.s == 2) && (isKey x.k && good x.c)
inductive IWay (x : It) : Bool → Prop
  | zero (h : x.s = 0) (b : Bool) (hb : sameI x zeroI = b) : IWay x b
  | none (h0 : (x.s == 0) = false) (h1 : (x.s == 1) = false) (h2 : (x.s == 2) = false) : IWay x false
  | key (h : x.s = 1 ∨ x.s = 2) (hk : isKey x.k = false) : IWay x false
  | cell (h : x.s = 1 ∨ x.s = 2) (hk : isKey x.k = true) (b : Bool) (hc : good x.c = b) : IWay x b
theorem iway_of (x : It) : IWay x (goodI x) := by
  unfold goodI
  by_cases h0 : x.s = 0
  · rw [if_pos h0]; exact .zero h0 _ rfl
  · rw [if_neg h0]
    by_cases h : x.s = 1 ∨ x.s = 2
    · have hb : (x.s == 1 || x.s == 2) = true := by simpa using h
      rw [hb, Bool.true_and]
      cases hk : isKey x.k
      · exact .key h hk
      · rw [Bool.true_and]; exact .cell h hk _ rfl
    · have h1 : (x.s == 1) = false := by simp; omega
      have h2 : (x.s == 2) = false := by simp; omega
      rw [h1, h2]
      exact .none (by simpa using h0) h1 h2
/-- What Check tells. -/
def ckI6 (x : It) : Int := if goodI x then 0 else 1

/-- The bytes ahead of those that fill up. -/
def ibytes (x : It) : List UInt8 := if x.s ≠ 0 ∧ goodI x = true then beb 1 (ub x.s) ++ beb 1 (ub x.k.length) ++ x.k ++ cbytes x.c else []
def pad (l : List UInt8) : List UInt8 := l ++ List.replicate (64 - l.length) 0
def sbytes (x : It) : List UInt8 := pad (ibytes x)
def z64 : List UInt8 := List.replicate 64 0
theorem z64_len : z64.length = 64 := by simp [z64]
theorem pad_nil : pad [] = z64 := rfl
theorem cbytes_len {c : Cl} : (cbytes c).length ≤ 34 := by
  cases hg : good c
  · rw [cbytes_no hg]; simp
  · by_cases hk : c.k = 1
    · rw [cbytes_rec hg hk]; have hd : c.d.length ≤ 32 := by simp [good, hk] at hg; omega
      simp; omega
    · have hk2 : c.k = 2 := by simp [good, hk] at hg; exact hg.1.1
      rw [cbytes_cnt hg hk2]; simp
theorem key_len {k : List UInt8} (h : isKey k = true) : 1 ≤ k.length ∧ k.length ≤ 16 := by
  simp only [isKey, Bool.and_eq_true, decide_eq_true_eq] at h; omega
theorem goodI_parts {x : It} (h0 : x.s ≠ 0) (h : goodI x = true) : (x.s = 1 ∨ x.s = 2) ∧ isKey x.k = true ∧ good x.c = true := by
  simp only [goodI, if_neg h0, Bool.and_eq_true, Bool.or_eq_true, beq_iff_eq] at h
  exact ⟨h.1, h.2.1, h.2.2⟩
theorem ibytes_len (x : It) : (ibytes x).length ≤ 52 := by
  unfold ibytes
  split
  · rename_i h
    obtain ⟨_, hk, _⟩ := goodI_parts h.1 h.2
    have := key_len hk
    have := cbytes_len (c := x.c)
    simp; omega
  · simp
theorem pad_len {l : List UInt8} (h : l.length ≤ 64) : (pad l).length = 64 := by simp [pad]; omega
theorem sbytes_len (x : It) : (sbytes x).length = 64 := pad_len (by have := ibytes_len x; omega)
theorem ibytes_no {x : It} (h : x.s = 0 ∨ goodI x = false) : ibytes x = [] := by
  unfold ibytes
  rw [if_neg]
  rintro ⟨h1, h2⟩
  rcases h with h | h
  · exact h1 h
  · rw [h] at h2; cases h2
theorem ibytes_yes {x : It} (h0 : x.s ≠ 0) (h : goodI x = true) : ibytes x = beb 1 (ub x.s) ++ beb 1 (ub x.k.length) ++ x.k ++ cbytes x.c := by
  unfold ibytes; rw [if_pos ⟨h0, h⟩]
theorem sbytes_no {x : It} (h : x.s = 0 ∨ goodI x = false) : sbytes x = z64 := by unfold sbytes; rw [ibytes_no h, pad_nil]

/-! ### Of bytes -/
theorem get_put_on (c : Cl) (r : List UInt8) (hg : good c = true) (h : in64c c) (hr : (cbytes c ++ r).length ≤ 257) : getC (cbytes c ++ r) = (c, ((cbytes c).length : Int), 0) := by
  obtain ⟨-, hlo, hhi, hv⟩ := h
  unfold getC
  rw [List.take_of_length_le hr]
  have hlen : (((cbytes c ++ r).length : Nat) : Int) - r.length = (cbytes c).length := by rw [List.length_append]; omega
  by_cases hk : c.k = 1
  · have hd : c.d.length ≤ 32 := by simp [good, hk] at hg; omega
    have hz : c.lo = 0 ∧ c.hi = 0 ∧ c.v = 0 := by simp [good, hk] at hg; omega
    have e1 := wrap_one 1 (by omega)
    have e2 := wrap_one c.d.length (by omega)
    have R : readC (cbytes c ++ r) = (c, (r, false)) := by
      rw [cbytes_rec hg hk]
      unfold readC
      simp only [List.append_assoc, rdI_beb, rdS_beb]
      have e1' : wrap64 ((ub 1 % 256 ^ 1 : Nat) : Int) = 1 := e1
      rw [e1', if_pos rfl, e2]
      have hh : rdHas (c.d ++ r, false) c.d.length = true := by simp [rdHas]
      simp only [Int.toNat_natCast, rdB, rdS, hh, if_true, List.take_left, List.drop_left]
      obtain ⟨k, d, lo, hi, v⟩ := c
      simp only at *
      obtain ⟨rfl, rfl, rfl⟩ := hz
      rw [hk]
    rw [R]
    simp only [Bool.false_eq_true, if_false, hg, if_true, hlen]
  · have hk2 : c.k = 2 := by simp [good, hk] at hg; exact hg.1.1
    have hd := good_data hg hk2
    have R : readC (cbytes c ++ r) = (c, (r, false)) := by
      rw [cbytes_cnt hg hk2]
      unfold readC
      have e1 : wrap64 ((ub 2 % 256 ^ 1 : Nat) : Int) = 2 := wrap_one 2 (by omega)
      simp only [List.append_assoc, rdI_beb, rdS_beb, e1, wrap_ub _ hlo, wrap_ub _ hhi, wrap_ub _ hv]
      rw [if_neg (by omega), if_pos trivial]
      obtain ⟨k, d, lo, hi, v⟩ := c
      simp only at *
      rw [hk2, hd]
    rw [R]
    simp only [Bool.false_eq_true, if_false, hg, if_true, hlen]

/-- What the program reads. -/
def readI (l : List UInt8) : It :=
  let s1 := rdS (l, false) 1
  let n := (rdI s1 1).toNat
  let s2 := rdS s1 1
  let s3 := rdS s2 n
  let r := rdB s3 (if s3.2 then 0 else s3.1.length)
  if (getC r).2.2 = 0 then ⟨rdI (l, false) 1, rdB s2 n, (getC r).1⟩ else zeroI
/-- What the program's Get tells. -/
def getI (l : List UInt8) : It × Int := if sbytes (readI l) = l then (readI l, 0) else (zeroI, 12)

/-- What the reference's Get of a cell tells, of 25 bytes or more. -/
def refC (l : List UInt8) : Cl × Int × Int :=
  if numOf (l.take 1) = 2 then
    if inB (wrap64 (numOf ((l.drop 1).take 8))) (wrap64 (numOf ((l.drop 9).take 8))) (wrap64 (numOf ((l.drop 17).take 8))) then
      (⟨2, [], wrap64 (numOf ((l.drop 1).take 8)), wrap64 (numOf ((l.drop 9).take 8)), wrap64 (numOf ((l.drop 17).take 8))⟩, 25, 0)
    else (zeroC, 0, 12)
  else if numOf (l.take 1) ≠ 1 then (zeroC, 0, 12)
  else if l.length < numOf ((l.drop 1).take 1) + 2 then (zeroC, 0, 13)
  else if 32 < numOf ((l.drop 1).take 1) then (zeroC, 0, 12)
  else (⟨1, (l.drop 2).take (numOf ((l.drop 1).take 1)), 0, 0, 0⟩, 2 + (numOf ((l.drop 1).take 1) : Int), 0)
/-- What it reads of an item; what its Get tells. -/
def refX (l : List UInt8) : It := ⟨numOf (l.take 1), (l.drop 2).take (numOf ((l.drop 1).take 1)), (refC (l.drop (2 + numOf ((l.drop 1).take 1)))).1⟩
def refI (l : List UInt8) : It × Int :=
  if numOf (l.take 1) = 0 then (if l = z64 then (zeroI, 0) else (zeroI, 12))
  else if 16 < numOf ((l.drop 1).take 1) then (zeroI, 12)
  else if (refC (l.drop (2 + numOf ((l.drop 1).take 1)))).2.2 = 0 ∧ goodI (refX l) = true ∧ sbytes (refX l) = l then (refX l, 0) else (zeroI, 12)

theorem num_beb (m U : Nat) (r : List UInt8) : numOf ((beb m U ++ r).take m) = U % 256 ^ m := by rw [List.take_left' (beb_len m U), numOf_beb]
theorem ref_put (c : Cl) (r : List UInt8) (hg : good c = true) (h : in64c c) (hr : 25 ≤ (cbytes c ++ r).length) : (refC (cbytes c ++ r)).1 = c ∧ (refC (cbytes c ++ r)).2.2 = 0 := by
  obtain ⟨-, hlo, hhi, hv⟩ := h
  by_cases hk : c.k = 1
  · have hd : c.d.length ≤ 32 := by simp [good, hk] at hg; omega
    have hz : c.lo = 0 ∧ c.hi = 0 ∧ c.v = 0 := by simp [good, hk] at hg; omega
    have e1 : numOf ((cbytes c ++ r).take 1) = 1 := by rw [cbytes_rec hg hk, List.append_assoc, num_beb]; rfl
    have d1 : (cbytes c ++ r).drop 1 = beb 1 (ub c.d.length) ++ (c.d ++ r) := by rw [cbytes_rec hg hk, List.append_assoc, List.drop_left' (beb_len _ _), List.append_assoc]
    have e2 : numOf (((cbytes c ++ r).drop 1).take 1) = c.d.length := by rw [d1, num_beb, ub_nat _ (by omega)]; omega
    have d2 : (cbytes c ++ r).drop 2 = c.d ++ r := by
      rw [show 2 = 1 + 1 from rfl, ← List.drop_drop, d1, List.drop_left' (beb_len _ _)]
    have hl : (cbytes c ++ r).length = 2 + c.d.length + r.length := by rw [cbytes_rec hg hk]; simp; omega
    unfold refC
    rw [e1, e2, d2, hl]
    rw [if_neg (by omega), if_neg (by omega), if_neg (by omega), if_neg (by omega), List.take_left]
    obtain ⟨k, d, lo, hi, v⟩ := c
    simp only at *
    obtain ⟨rfl, rfl, rfl⟩ := hz
    rw [hk]
    exact ⟨rfl, trivial⟩
  · have hk2 : c.k = 2 := by simp [good, hk] at hg; exact hg.1.1
    have hd := good_data hg hk2
    have hb : inB c.lo c.hi c.v = true := by simp [good, hk2] at hg; exact hg.2
    have e1 : numOf ((cbytes c ++ r).take 1) = 2 := by rw [cbytes_cnt hg hk2, List.append_assoc, num_beb]; rfl
    have d1 : (cbytes c ++ r).drop 1 = beb 8 (ub c.lo) ++ (beb 8 (ub c.hi) ++ (beb 8 (ub c.v) ++ r)) := by rw [cbytes_cnt hg hk2, List.append_assoc, List.drop_left' (beb_len _ _), List.append_assoc, List.append_assoc]
    have d9 : (cbytes c ++ r).drop 9 = beb 8 (ub c.hi) ++ (beb 8 (ub c.v) ++ r) := by
      rw [show 9 = 1 + 8 from rfl, ← List.drop_drop, d1, List.drop_left' (beb_len _ _)]
    have d17 : (cbytes c ++ r).drop 17 = beb 8 (ub c.v) ++ r := by
      rw [show 17 = 9 + 8 from rfl, ← List.drop_drop, d9, List.drop_left' (beb_len _ _)]
    unfold refC
    rw [e1, if_pos rfl, d1, d9, d17, num_beb, num_beb, num_beb, wrap_ub _ hlo, wrap_ub _ hhi, wrap_ub _ hv, hb]
    obtain ⟨k, d, lo, hi, v⟩ := c
    simp only at *
    rw [hk2, hd]
    exact ⟨rfl, rfl⟩

theorem sbytes_is {x : It} (h0 : x.s ≠ 0) (h : goodI x = true) : ∃ r, sbytes x = beb 1 (ub x.s) ++ (beb 1 (ub x.k.length) ++ (x.k ++ (cbytes x.c ++ r))) := ⟨_, by unfold sbytes pad; rw [ibytes_yes h0 h]; simp only [List.append_assoc]; rfl⟩

theorem state_nat {x : It} (h : x.s = 1 ∨ x.s = 2) : ∃ n : Nat, x.s = n ∧ 1 ≤ n ∧ n ≤ 2 := by
  rcases h with h | h
  · exact ⟨1, h, by omega, by omega⟩
  · exact ⟨2, h, by omega, by omega⟩

/-- **Get of Put**, as the program reads. -/
theorem read_put {x : It} (h0 : x.s ≠ 0) (h : goodI x = true) (h64 : in64c x.c) : readI (sbytes x) = x := by
  obtain ⟨hs, hk, hc⟩ := goodI_parts h0 h
  have hkl := key_len hk
  obtain ⟨n, hn, h1, h2⟩ := state_nat hs
  have hlen := sbytes_len x
  obtain ⟨r, hr⟩ := sbytes_is h0 h
  have hcl : (cbytes x.c ++ r).length ≤ 257 := by rw [hr] at hlen; simp at hlen ⊢; omega
  have e1 := wrap_one n (by omega)
  have e2 := wrap_one x.k.length (by omega)
  have hh : rdHas (x.k ++ (cbytes x.c ++ r), false) x.k.length = true := by simp [rdHas]
  have hall : rdHas (cbytes x.c ++ r, false) (cbytes x.c ++ r).length = true := by simp [rdHas]
  rw [hr]
  unfold readI
  simp only [rdI_beb, rdS_beb, hn, e1, e2, Int.toNat_natCast]
  have b1 : rdB (x.k ++ (cbytes x.c ++ r), false) x.k.length = x.k := by simp only [rdB, hh, if_true, List.take_left]
  have b2 : rdS (x.k ++ (cbytes x.c ++ r), false) x.k.length = (cbytes x.c ++ r, false) := by simp only [rdS, hh, if_true, List.drop_left]
  rw [b1, b2]
  simp only [Bool.false_eq_true, if_false]
  have b3 : rdB (cbytes x.c ++ r, false) (cbytes x.c ++ r).length = cbytes x.c ++ r := by simp only [rdB, hall, if_true, List.take_length]
  rw [b3, get_put_on x.c r hc h64 hcl]
  simp only [if_true, ← hn]
theorem ref_read {x : It} (h0 : x.s ≠ 0) (h : goodI x = true) (h64 : in64c x.c) : refI (sbytes x) = (x, 0) := by
  obtain ⟨hs, hk, hc⟩ := goodI_parts h0 h
  have hkl := key_len hk
  obtain ⟨n, hn, h1, h2⟩ := state_nat hs
  have hlen := sbytes_len x
  obtain ⟨r, hr⟩ := sbytes_is h0 h
  have hcl : 25 ≤ (cbytes x.c ++ r).length := by rw [hr] at hlen; simp at hlen ⊢; omega
  have e1 : numOf ((sbytes x).take 1) = n := by rw [hr, num_beb, hn, ub_nat _ (by omega)]; omega
  have d1 : (sbytes x).drop 1 = beb 1 (ub x.k.length) ++ (x.k ++ (cbytes x.c ++ r)) := by rw [hr, List.drop_left' (beb_len _ _)]
  have e2 : numOf (((sbytes x).drop 1).take 1) = x.k.length := by rw [d1, num_beb, ub_nat _ (by omega)]; omega
  have d2 : (sbytes x).drop 2 = x.k ++ (cbytes x.c ++ r) := by rw [show 2 = 1 + 1 from rfl, ← List.drop_drop, d1, List.drop_left' (beb_len _ _)]
  have d3 : (sbytes x).drop (2 + x.k.length) = cbytes x.c ++ r := by rw [← List.drop_drop, d2, List.drop_left]
  obtain ⟨g1, g2⟩ := ref_put x.c r hc h64 hcl
  have hX : refX (sbytes x) = x := by
    unfold refX
    rw [e1, e2, d2, d3, g1, List.take_left, ← hn]
  unfold refI
  rw [e1, e2, d3, g2, hX, if_neg (by omega), if_neg (by omega), if_pos ⟨rfl, h, rfl⟩]
theorem read_zero : readI z64 = zeroI := by kernel_rfl
theorem get_zero : getI z64 = (zeroI, 0) := by
  unfold getI
  rw [read_zero, sbytes_no (.inl rfl), if_pos rfl]
theorem ref_zero : refI z64 = (zeroI, 0) := by rfl
/-- Get of Put. -/
theorem getI_put (x : It) (h64 : in64c x.c) : getI (sbytes x) = (if goodI x then x else zeroI, 0) := by
  by_cases h : x.s ≠ 0 ∧ goodI x = true
  · unfold getI
    rw [read_put h.1 h.2 h64, if_pos rfl, h.2, if_pos rfl]
  · have h' : x.s = 0 ∨ goodI x = false := by
      by_cases h0 : x.s = 0
      · exact .inl h0
      · exact .inr (by simpa [h0] using h)
    rw [sbytes_no h', get_zero]
    cases hg : goodI x
    · rfl
    · rcases h' with h0 | h'
      · have : x = zeroI := by unfold goodI at hg; rw [if_pos h0] at hg; exact sameI_eq hg
        rw [if_pos rfl, this]
      · rw [h'] at hg; cases hg
theorem good_put {x y : It} (hx : goodI x = true) (hy : goodI y = true) (h1 : in64c x.c) (h2 : in64c y.c) : sameI x y = (sbytes x == sbytes y) := by
  cases h : sbytes x == sbytes y
  · cases hs : sameI x y
    · rfl
    · rw [sameI_eq hs] at h
      simp at h
  · have e := congrArg getI (beq_iff_eq.1 h)
    rw [getI_put x h1, getI_put y h2, hx, hy] at e
    simp only [if_true, Prod.mk.injEq, and_true] at e
    rw [e, sameI_self]

/-- In 64 bits: the cell that the program reads, the cell that the reference reads. -/
theorem wrap_in (x : Int) : -9223372036854775808 ≤ wrap64 x ∧ wrap64 x ≤ 9223372036854775807 := by unfold wrap64; omega
theorem rdI_in (s : List UInt8 × Bool) (m : Nat) : -9223372036854775808 ≤ rdI s m ∧ rdI s m ≤ 9223372036854775807 := by
  unfold rdI
  split
  · exact wrap_in _
  · omega
theorem zero_in : in64c zeroC := by unfold in64c zeroC; simp
theorem getC_in (l : List UInt8) : in64c (getC l).1 := by
  unfold getC
  simp only
  split
  · exact zero_in
  · split
    · unfold readC
      simp only
      split
      · refine ⟨?_, ?_, ?_, ?_⟩ <;> simp
      · split
        · exact ⟨by simp, rdI_in _ _, rdI_in _ _, rdI_in _ _⟩
        · exact ⟨rdI_in _ _, by simp, by simp, by simp⟩
    · exact zero_in
theorem refC_in (l : List UInt8) : in64c (refC l).1 := by
  unfold refC
  split
  · split
    · exact ⟨by simp, wrap_in _, wrap_in _, wrap_in _⟩
    · exact zero_in
  · split
    · exact zero_in
    · split
      · exact zero_in
      · split
        · exact zero_in
        · refine ⟨?_, ?_, ?_, ?_⟩ <;> simp
theorem readI_in (l : List UInt8) : in64c (readI l).c := by
  unfold readI
  simp only
  generalize rdB (rdS (rdS (rdS (l, false) 1) 1) (rdI (rdS (l, false) 1) 1).toNat) _ = r
  split
  · exact getC_in _
  · exact zero_in

theorem rdB_le (s : List UInt8 × Bool) (n : Nat) : (rdB s n).length ≤ s.1.length := by
  unfold rdB
  split
  · simp; omega
  · simp
theorem rdS_le (s : List UInt8 × Bool) (n : Nat) : (rdS s n).1.length ≤ s.1.length := by
  unfold rdS
  split
  · simp
  · simp
theorem getC_len (l : List UInt8) : (getC l).1.d.length ≤ l.length := by
  unfold getC
  simp only
  split
  · simp [zeroC]
  · split
    · unfold readC
      simp only
      split
      · have h1 := rdB_le (rdS (rdS (l.take 257, false) 1) 1) (rdI (rdS (l.take 257, false) 1) 1).toNat
        have h2 := rdS_le (rdS (l.take 257, false) 1) 1
        have h3 := rdS_le (l.take 257, false) 1
        simp only [List.length_take] at *
        omega
      · split <;> simp
    · simp [zeroC]
theorem readI_len (l : List UInt8) : (readI l).k.length ≤ l.length ∧ (readI l).c.d.length ≤ l.length := by
  have h1 := rdS_le (l, false) 1
  have h2 := rdS_le (rdS (l, false) 1) 1
  have h3 := rdB_le (rdS (rdS (l, false) 1) 1) (rdI (rdS (l, false) 1) 1).toNat
  have h4 := rdS_le (rdS (rdS (l, false) 1) 1) (rdI (rdS (l, false) 1) 1).toNat
  unfold readI
  simp only
  generalize hr : rdB (rdS (rdS (rdS (l, false) 1) 1) (rdI (rdS (l, false) 1) 1).toNat) _ = r
  have h5 : r.length ≤ (rdS (rdS (rdS (l, false) 1) 1) (rdI (rdS (l, false) 1) 1).toNat).1.length := by rw [← hr]; exact rdB_le _ _
  have h6 := getC_len r
  simp only at *
  split
  · simp only; omega
  · simp [zeroI, zeroC]
theorem getI_len (l : List UInt8) : (getI l).1.k.length ≤ l.length ∧ (getI l).1.c.d.length ≤ l.length := by
  unfold getI
  split
  · exact readI_len l
  · simp [zeroI, zeroC]

/-- **Both Gets tell the same.** -/
theorem get_ref (l : List UInt8) : getI l = refI l := by
  by_cases h : ∃ x : It, x.s ≠ 0 ∧ goodI x = true ∧ in64c x.c ∧ sbytes x = l
  · obtain ⟨x, h0, hg, h64, rfl⟩ := h
    rw [ref_read h0 hg h64, getI_put x h64, hg, if_pos rfl]
  · by_cases hz : l = z64
    · rw [hz, get_zero, ref_zero]
    · have e1 : getI l = (zeroI, 12) := by
        unfold getI
        rw [if_neg]
        intro he
        by_cases hg : (readI l).s ≠ 0 ∧ goodI (readI l) = true
        · exact h ⟨_, hg.1, hg.2, readI_in l, he⟩
        · have h' : (readI l).s = 0 ∨ goodI (readI l) = false := by
            by_cases h0 : (readI l).s = 0
            · exact .inl h0
            · exact .inr (by simpa [h0] using hg)
          rw [sbytes_no h'] at he
          exact hz he.symm
      rw [e1]
      unfold refI
      rw [if_neg hz]
      split
      · rfl
      · split
        · rfl
        · rename_i h0 _
          rw [if_neg]
          rintro ⟨_, g2, g3⟩
          exact h ⟨refX l, by unfold refX; simp only; omega, g2, refC_in _, g3⟩
theorem getI_err (l : List UInt8) : (getI l).2 = 0 ∨ (getI l).2 = 12 := by
  unfold getI
  split
  · exact .inl rfl
  · exact .inr rfl
theorem getI_sb {l : List UInt8} (h : (getI l).2 = 0) : sbytes (getI l).1 = l := by
  unfold getI at h ⊢
  split
  · rename_i h'; exact h'
  · rename_i h'; rw [if_neg h'] at h; cases h
theorem getI_in (l : List UInt8) : in64c (getI l).1.c := by
  unfold getI
  split
  · exact readI_in l
  · exact zero_in
end Go.Proofs.Ytafmggipmaofnaa
