/- Layer 5: the contract of the reference's Bytes; what Get tells of the bytes of a cell. -/
import Derived.Test.YtafmggipmaofnaaCellMath
import Derived.Test.YtafmggipmaofnaaCellRef
import Derived.Test.YtafmggipmaofnaaCellPut
import Derived.Test.YtafmggipmaofnaaCellGet
import Derived.Test.YtafmggipmaofnaaBeRef
import Derived.Test.YtafmggipmaofnaaChecked
namespace Go.Proofs.Ytafmggipmaofnaa
set_option maxRecDepth 20000
open Go.RowKit Go.Sort

theorem byte_cell (d : List UInt8) (h : d.length ≤ 32) : bys (beb 1 (ub d.length)) = [.int .u8 (d.length : Int)] := by
  rw [ub_nat _ (by omega)]
  simp [beb, bys]
  omega

theorem rd_has (m U : Nat) (r : List UInt8) : rdHas (beb m U ++ r, false) m = true := by simp [rdHas]
theorem rdI_beb (m U : Nat) (r : List UInt8) : rdI (beb m U ++ r, false) m = wrap64 ((U % 256 ^ m : Nat) : Int) := by
  unfold rdI
  simp only [rd_has, if_true, List.take_left' (beb_len m U), numOf_beb]
theorem rdS_beb (m U : Nat) (r : List UInt8) : rdS (beb m U ++ r, false) m = (r, false) := by
  unfold rdS
  simp only [rd_has, if_true, List.drop_left' (beb_len m U)]
theorem wrap_ub (x : Int) (h : -9223372036854775808 ≤ x ∧ x ≤ 9223372036854775807) : wrap64 ((ub x % 256 ^ 8 : Nat) : Int) = x := by
  have h1 := ub_lt x
  rw [Nat.mod_eq_of_lt (by omega)]
  have h2 := ub_cast x
  unfold wrap64
  omega
theorem wrap_one (n : Nat) (h : n ≤ 255) : wrap64 ((ub n % 256 ^ 1 : Nat) : Int) = n := by
  rw [ub_nat n (by omega), Nat.mod_eq_of_lt (by omega)]
  unfold wrap64
  omega

theorem get_put (c : Cl) (hg : good c = true) (h : in64c c) : getC (cbytes c) = (c, ((cbytes c).length : Int), 0) := by
  obtain ⟨-, hlo, hhi, hv⟩ := h
  by_cases hk : c.k = 1
  · have hd : c.d.length ≤ 32 := by simp [good, hk] at hg; omega
    have hz : c.lo = 0 ∧ c.hi = 0 ∧ c.v = 0 := by simp [good, hk] at hg; omega
    have hl : (cbytes c).length ≤ 257 := by rw [cbytes_rec hg hk]; simp; omega
    unfold getC
    rw [List.take_of_length_le hl]
    have e1 := wrap_one 1 (by omega)
    have e2 := wrap_one c.d.length (by omega)
    have R : readC (cbytes c) = (c, ([], false)) := by
      rw [cbytes_rec hg hk]
      unfold readC
      simp only [rdI_beb, rdS_beb]
      have e1' : wrap64 ((ub 1 % 256 ^ 1 : Nat) : Int) = 1 := e1
      rw [e1', if_pos rfl, e2]
      have hh : rdHas (c.d, false) c.d.length = true := by simp [rdHas]
      simp only [Int.toNat_natCast, rdB, rdS, hh, if_true, List.take_length, List.drop_length]
      obtain ⟨k, d, lo, hi, v⟩ := c
      simp only at *
      obtain ⟨rfl, rfl, rfl⟩ := hz
      rw [hk]
    rw [R]
    simp [hg]
  · have hk2 : c.k = 2 := by simp [good, hk] at hg; exact hg.1.1
    have hl : (cbytes c).length ≤ 257 := by rw [cbytes_cnt hg hk2]; simp
    have hd := good_data hg hk2
    unfold getC
    rw [List.take_of_length_le hl]
    have R : readC (cbytes c) = (c, ([], false)) := by
      rw [cbytes_cnt hg hk2]
      unfold readC
      have e1 : wrap64 ((ub 2 % 256 ^ 1 : Nat) : Int) = 2 := wrap_one 2 (by omega)
      have e3 := rdI_beb 8 (ub c.v) []
      have e4 := rdS_beb 8 (ub c.v) []
      rw [List.append_nil] at e3 e4
      simp only [rdI_beb, rdS_beb, e1, e3, e4, wrap_ub _ hlo, wrap_ub _ hhi, wrap_ub _ hv]
      rw [if_neg (by omega), if_pos trivial]
      obtain ⟨k, d, lo, hi, v⟩ := c
      simp only at *
      rw [hk2, hd]
    rw [R]
    simp [hg]
end Go.Proofs.Ytafmggipmaofnaa
