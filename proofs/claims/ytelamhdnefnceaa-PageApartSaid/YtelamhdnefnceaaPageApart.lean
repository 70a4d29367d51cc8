/- Layer 7: what is written to a page's parts, in any order, each alone. -/
import Derived.Test.YtelamhdnefnceaaPageSlot
namespace Go.Proofs.Ytelamhdnefnceaa
set_option maxRecDepth 20000
open Go.RowKit

/-- A page with an item in a slot and all its numbers n. -/
def allN (l : List UInt8) (i : Int) (x : It) (n : Int) : List UInt8 := putAt (putAt (putAt (pwslot l i x) 4 (beb 8 (ub n))) 14 (beb 2 (ub n))) 16 (beb 8 (ub n))
theorem put512 {l c : List UInt8} {a : Nat} (hl : l.length = 512) (h : a + c.length ≤ 512) : (putAt l a c).length = 512 := by rw [putAt_len (by omega), hl]
theorem slot_put {l c : List UInt8} {a k : Nat} (h : a + c.length ≤ l.length) (h32 : a + c.length ≤ 32) : slotL (putAt l a c) k = slotL l k := mid_else h (by omega)
theorem slot_other {l : List UInt8} {i : Int} {x : It} {k : Nat} (hl : l.length = 512) (hk : (k : Int) ≠ i) : slotL (pwslot l i x) k = slotL l k := by
  unfold pwslot
  split
  · rfl
  · exact mid_else (by rw [sbytes_len]; omega) (by rw [sbytes_len]; omega)
theorem num_slot {l : List UInt8} {i : Int} {x : It} {b n : Nat} (hl : l.length = 512) (h : b + n ≤ 32) : numA (pwslot l i x) b n = numA l b n := by
  unfold pwslot
  split
  · rfl
  · exact num_else (by rw [sbytes_len]; omega) (by omega)
theorem slot_comm {l c : List UInt8} {i : Int} {x : It} {a : Nat} (hl : l.length = 512) (h : a + c.length ≤ 32) : pwslot (putAt l a c) i x = putAt (pwslot l i x) a c := by
  unfold pwslot
  split
  · rfl
  · exact put_comm (by omega) (by rw [sbytes_len]; omega) (by omega)
theorem beb_pos (m U : Nat) (a : Nat) : a + (beb m U).length = a + m := by rw [beb_len]
section
variable {l : List UInt8} {i : Int} {x : It} {n : Int} (hl : l.length = 512)
include hl
theorem allN_len : (allN l i x n).length = 512 := by
  unfold allN
  exact put512 (put512 (put512 (pwslot_len hl) (by simp)) (by simp)) (by simp)
theorem allN_slot (k : Nat) (hk : (k : Int) ≠ i) : slotL (allN l i x n) k = slotL l k := by
  have e1 := pwslot_len (l := l) (i := i) (x := x) hl
  have e2 : (putAt (pwslot l i x) 4 (beb 8 (ub n))).length = 512 := put512 e1 (by simp)
  have e3 : (putAt (putAt (pwslot l i x) 4 (beb 8 (ub n))) 14 (beb 2 (ub n))).length = 512 := put512 e2 (by simp)
  unfold allN
  rw [slot_put (by rw [e3]; simp) (by simp), slot_put (by rw [e2]; simp) (by simp), slot_put (by rw [e1]; simp) (by simp), slot_other hl hk]
theorem allN_pslot (k : Nat) (h7 : k < 7) (hk : (k : Int) ≠ i) : pslot (allN l i x n) k = pslot l k := by rw [pslot_yes h7, pslot_yes h7, allN_slot hl k hk]
theorem allN_no : numA (allN l i x n) 12 2 = numA l 12 2 := by
  have e1 := pwslot_len (l := l) (i := i) (x := x) hl
  have e2 : (putAt (pwslot l i x) 4 (beb 8 (ub n))).length = 512 := put512 e1 (by simp)
  have e3 : (putAt (putAt (pwslot l i x) 4 (beb 8 (ub n))) 14 (beb 2 (ub n))).length = 512 := put512 e2 (by simp)
  unfold allN
  rw [num_else (by rw [e3]; simp) (by simp), num_else (by rw [e2]; simp) (by simp), num_else (by rw [e1]; simp) (by simp), num_slot hl (by omega)]
theorem allN_lsn (hn : -9223372036854775808 ≤ n ∧ n ≤ 9223372036854775807) : numA (allN l i x n) 4 8 = n := by
  have e1 := pwslot_len (l := l) (i := i) (x := x) hl
  have e2 : (putAt (pwslot l i x) 4 (beb 8 (ub n))).length = 512 := put512 e1 (by simp)
  have e3 : (putAt (putAt (pwslot l i x) 4 (beb 8 (ub n))) 14 (beb 2 (ub n))).length = 512 := put512 e2 (by simp)
  unfold allN
  rw [num_else (by rw [e3]; simp) (by simp), num_else (by rw [e2]; simp) (by simp), num_put8 (by rw [e1]; omega) hn]
theorem allN_next (hn : 0 ≤ n ∧ n ≤ 9223372036854775807) : numA (allN l i x n) 14 2 = n % 65536 := by
  have e1 := pwslot_len (l := l) (i := i) (x := x) hl
  have e2 : (putAt (pwslot l i x) 4 (beb 8 (ub n))).length = 512 := put512 e1 (by simp)
  have e3 : (putAt (putAt (pwslot l i x) 4 (beb 8 (ub n))) 14 (beb 2 (ub n))).length = 512 := put512 e2 (by simp)
  unfold allN
  rw [num_else (by rw [e3]; simp) (by simp), num_put2 (by rw [e2]; omega) hn]
theorem allN_note (hn : -9223372036854775808 ≤ n ∧ n ≤ 9223372036854775807) : numA (allN l i x n) 16 8 = n := by
  have e1 := pwslot_len (l := l) (i := i) (x := x) hl
  have e2 : (putAt (pwslot l i x) 4 (beb 8 (ub n))).length = 512 := put512 e1 (by simp)
  have e3 : (putAt (putAt (pwslot l i x) 4 (beb 8 (ub n))) 14 (beb 2 (ub n))).length = 512 := put512 e2 (by simp)
  unfold allN
  rw [num_put8 (by rw [e3]; omega) hn]
/-- The other order. -/
theorem allN_turned : pwslot (putAt (putAt (putAt l 16 (beb 8 (ub n))) 14 (beb 2 (ub n))) 4 (beb 8 (ub n))) i x = allN l i x n := by
  have e1 := pwslot_len (l := l) (i := i) (x := x) hl
  have f1 : (putAt l 16 (beb 8 (ub n))).length = 512 := put512 hl (by simp)
  have f2 : (putAt (putAt l 16 (beb 8 (ub n))) 14 (beb 2 (ub n))).length = 512 := put512 f1 (by simp)
  unfold allN
  rw [slot_comm f2 (by simp), slot_comm f1 (by simp), slot_comm hl (by simp)]
  have g1 : (putAt (pwslot l i x) 16 (beb 8 (ub n))).length = 512 := put512 e1 (by simp)
  have g2 : (putAt (pwslot l i x) 4 (beb 8 (ub n))).length = 512 := put512 e1 (by simp)
  rw [put_comm (l := putAt (pwslot l i x) 16 (beb 8 (ub n))) (by rw [g1]; simp) (by rw [g1]; simp) (by simp), put_comm (l := pwslot l i x) (a := 16) (b := 4) (by rw [e1]; simp) (by rw [e1]; simp) (by simp), put_comm (l := putAt (pwslot l i x) 4 (beb 8 (ub n))) (a := 16) (b := 14) (by rw [g2]; simp) (by rw [g2]; simp) (by simp)]
end
end Go.Proofs.Ytelamhdnefnceaa
