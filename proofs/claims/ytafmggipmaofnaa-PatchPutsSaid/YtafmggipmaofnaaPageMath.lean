/- Layer 7: a page as bytes: others put at a place, its numbers, its slots, what is right. -/
import Derived.Test.YtafmggipmaofnaaSlotMath
import Derived.Test.YtafmggipmaofnaaCrcSeal
namespace Go.Proofs.Ytafmggipmaofnaa
set_option maxRecDepth 20000
open Go.RowKit

/-- Bytes with others from a place on. -/
def putAt (l : List UInt8) (a : Nat) (c : List UInt8) : List UInt8 := l.take a ++ c ++ l.drop (a + c.length)
/-- So many bytes from a place on. -/
def midL (l : List UInt8) (a n : Nat) : List UInt8 := (l.drop a).take n
theorem putAt_len {l c : List UInt8} {a : Nat} (h : a + c.length ≤ l.length) : (putAt l a c).length = l.length := by simp [putAt]; omega
theorem putAt_get {l c : List UInt8} {a : Nat} (h : a + c.length ≤ l.length) (j : Nat) : (putAt l a c)[j]? = if j < a then l[j]? else if j < a + c.length then c[j - a]? else l[j]? := by
  unfold putAt
  rw [List.append_assoc]
  by_cases h1 : j < a
  · rw [if_pos h1, List.getElem?_append_left (by simp; omega), List.getElem?_take, if_pos h1]
  · rw [if_neg h1, List.getElem?_append_right (by simp; omega), List.length_take, Nat.min_eq_left (by omega)]
    by_cases h2 : j < a + c.length
    · rw [if_pos h2, List.getElem?_append_left (by omega)]
    · rw [if_neg h2, List.getElem?_append_right (by omega), List.getElem?_drop]
      congr 1
      omega
theorem mid_get (l : List UInt8) (a n j : Nat) : (midL l a n)[j]? = if j < n then l[a + j]? else none := by
  unfold midL
  rw [List.getElem?_take]
  split
  · rw [List.getElem?_drop]
  · rfl
theorem mid_len {l : List UInt8} {a n : Nat} (h : a + n ≤ l.length) : (midL l a n).length = n := by simp [midL]; omega
theorem mid_put {l c : List UInt8} {a n : Nat} (h : a + c.length ≤ l.length) (hn : n = c.length) : midL (putAt l a c) a n = c := by
  apply List.ext_getElem?
  intro j
  rw [mid_get, putAt_get h]
  split
  · rw [if_neg (by omega), if_pos (by omega)]
    congr 1
    omega
  · rw [List.getElem?_eq_none (by omega)]
theorem mid_else {l c : List UInt8} {a b n : Nat} (h : a + c.length ≤ l.length) (hd : b + n ≤ a ∨ a + c.length ≤ b) : midL (putAt l a c) b n = midL l b n := by
  apply List.ext_getElem?
  intro j
  rw [mid_get, mid_get, putAt_get h]
  split
  · split
    · rfl
    · rw [if_neg (by omega)]
  · rfl
theorem put_comm {l c d : List UInt8} {a b : Nat} (h1 : a + c.length ≤ l.length) (h2 : b + d.length ≤ l.length) (hd : a + c.length ≤ b ∨ b + d.length ≤ a) : putAt (putAt l a c) b d = putAt (putAt l b d) a c := by
  apply List.ext_getElem?
  intro j
  rw [putAt_get (by rw [putAt_len h1]; exact h2), putAt_get h1, putAt_get (by rw [putAt_len h2]; exact h1), putAt_get h2]
  repeat' split
  all_goals first | rfl | omega

/-- A page's number. -/
def numA (l : List UInt8) (a n : Nat) : Int := wrap64 (numOf (midL l a n))
theorem num_else {l c : List UInt8} {a b n : Nat} (h : a + c.length ≤ l.length) (hd : b + n ≤ a ∨ a + c.length ≤ b) : numA (putAt l a c) b n = numA l b n := by unfold numA; rw [mid_else h hd]
theorem num_put {l : List UInt8} {a n : Nat} {x : Int} (h : a + n ≤ l.length) : numA (putAt l a (beb n (ub x))) a n = wrap64 ((ub x % 256 ^ n : Nat) : Int) := by
  unfold numA
  rw [mid_put (by rw [beb_len]; exact h) (by rw [beb_len]), numOf_beb]
theorem num_put8 {l : List UInt8} {a : Nat} {x : Int} (h : a + 8 ≤ l.length) (hx : -9223372036854775808 ≤ x ∧ x ≤ 9223372036854775807) : numA (putAt l a (beb 8 (ub x))) a 8 = x := by
  rw [num_put h]
  have := ub_cast x
  have h2 := ub_lt x
  rw [Nat.mod_eq_of_lt (by simpa using h2)]
  unfold wrap64
  omega
theorem num_put2 {l : List UInt8} {a : Nat} {x : Int} (h : a + 2 ≤ l.length) (hx : 0 ≤ x ∧ x ≤ 9223372036854775807) : numA (putAt l a (beb 2 (ub x))) a 2 = x % 65536 := by
  rw [num_put h]
  have := ub_cast x
  unfold wrap64
  omega
theorem numA_in (l : List UInt8) (a n : Nat) : -9223372036854775808 ≤ numA l a n ∧ numA l a n ≤ 9223372036854775807 := wrap_in _

/-- A page's slot. -/
def slotL (l : List UInt8) (k : Nat) : List UInt8 := midL l (32 + 64 * k) 64
theorem slot_len {l : List UInt8} {k : Nat} (hl : l.length = 512) (hk : k < 7) : (slotL l k).length = 64 := mid_len (by omega)
def z512 : List UInt8 := List.replicate 512 0
theorem z512_len : z512.length = 512 := by simp [z512]
/-- The page sealed. -/
def sealP (l : List UInt8) : List UInt8 := sealb (l.drop 4)
theorem sealP_len {l : List UInt8} (hl : l.length = 512) : (sealP l).length = 512 := by simp [sealP]; omega
/-- Are all of its bytes 0? -/
def allZ (l : List UInt8) : Bool := l.all (· == 0)
theorem allZ_is (l : List UInt8) : allZ l = (l == List.replicate l.length 0) := by
  rw [Bool.eq_iff_iff]
  simp only [allZ, List.all_eq_true, beq_iff_eq]
  exact ⟨fun h => List.eq_replicate_iff.2 ⟨rfl, h⟩, fun h => (List.eq_replicate_iff.1 h).2⟩
/-- Is the slot's item told? -/
def okS (l : List UInt8) (k : Nat) : Bool := (getI (slotL l k)).2 == 0
def okTo (l : List UInt8) (k : Nat) : Bool := (List.range k).all (okS l)
theorem okTo_snoc (l : List UInt8) (k : Nat) : okTo l (k + 1) = (okTo l k && okS l k) := by simp [okTo, List.range_succ]
theorem okTo_no {l : List UInt8} {k n : Nat} (hk : k < n) (h : okS l k = false) : okTo l n = false := by
  simp only [okTo, List.all_eq_false, List.mem_range]
  exact ⟨k, hk, by simp [h]⟩
/-- Are they a page of this number? -/
def rightP (l : List UInt8) (no : Int) : Bool := goodB l && ((numA l 12 2 == no) && (allZ (midL l 24 8) && (allZ (l.drop 480) && okTo l 7)))

def page0 (x : Int) : List UInt8 := putAt z512 12 (beb 2 (ub x))
theorem page0_len (x : Int) : (page0 x).length = 512 := by unfold page0; rw [putAt_len (by rw [beb_len, z512_len]; omega), z512_len]
theorem live_bad : rightP (page0 258) 258 = false := by
  have : goodB (page0 258) = false := by decide +kernel
  unfold rightP
  rw [this, Bool.false_and]
theorem good_sealb (l : List UInt8) : goodB (sealb l) = true := by
  have h1 : ∀ N, N < 4294967296 → numOf ((beb 4 N ++ l).take 4) = N ∧ (beb 4 N ++ l).drop 4 = l := fun N h => by
    refine ⟨?_, ?_⟩
    · rw [List.take_left' (beb_len 4 N), numOf_beb, Nat.mod_eq_of_lt (by simpa using h)]
    · rw [List.drop_left' (beb_len 4 N)]
  have hm := more_lt 0 l
  have h2 := h1 _ hm
  unfold goodB sealb
  rw [h2.1, h2.2]
  simp
theorem live_good7 : rightP (sealP (page0 258)) 258 = true := by
  unfold rightP
  have h1 : goodB (sealP (page0 258)) = true := good_sealb _
  have h2 : numA (sealP (page0 258)) 12 2 = 258 := by decide +kernel
  have h3 : allZ (midL (sealP (page0 258)) 24 8) = true := by decide +kernel
  have h4 : allZ ((sealP (page0 258)).drop 480) = true := by decide +kernel
  have h5 : ∀ k, k < 7 → slotL (sealP (page0 258)) k = z64 := by decide +kernel
  have h6 : okTo (sealP (page0 258)) 7 = true := by
    unfold okTo
    rw [List.all_eq_true]
    intro k hk
    unfold okS
    rw [h5 k (by simpa using hk), get_zero]
    rfl
  rw [h1, h2, h3, h4, h6]
  rfl
theorem live_12 : (page0 258)[12]? = some 1 ∧ (page0 258)[13]? = some 2 := by decide +kernel
theorem live_no : numA (page0 258) 12 2 = 258 := by decide +kernel
end Go.Proofs.Ytafmggipmaofnaa
