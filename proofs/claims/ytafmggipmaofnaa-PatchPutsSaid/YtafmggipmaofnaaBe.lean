/- Contracts of layer 1's functions that only compute or read: fits, Num; the reference's At. -/
import Derived.Test.YtafmggipmaofnaaBase
import Derived.Test.YtafmggipmaofnaaBeMath
import Derived.Test.YtafmggipmaofnaaChecked
namespace Go.Proofs.Ytafmggipmaofnaa
set_option maxRecDepth 20000
open Go.RowKit

theorem fits_yes (n : Int) (w : World) (h1 : 1 ≤ n) (h2 : n ≤ 8) : Calls Try.prog 46 #[.int .i64 n] w fun e w' => e = .returned (.bool true) ∧ w = w' := by
  go_enter Try.func46, Try.ntmps46
  go_wp2
  go_ret
  exact ⟨rfl, rfl⟩
theorem fits_no (n : Int) (w : World) (h : n < 1 ∨ 8 < n) : Calls Try.prog 46 #[.int .i64 n] w fun e w' => e = .returned (.bool false) ∧ w = w' := by
  by_cases h1 : n < 1
  · go_enter Try.func46, Try.ntmps46
    go_wp2
    go_ret
    exact ⟨rfl, rfl⟩
  · have h2 : decide (n ≤ 8) = false := by simp; omega
    go_enter Try.func46, Try.ntmps46
    go_wp2
    go_ret
    exact ⟨rfl, rfl⟩

/-- Are there width bytes of so many at a place? -/
def isAt (len at_ width : Int) : Prop := 1 ≤ width ∧ width ≤ 8 ∧ 0 ≤ at_ ∧ at_ + width ≤ len

theorem num_no (v : Value) (l : List UInt8) (a n : Int) (w : World) (hl : l.length ≤ 1073741824) (hv : SV w v (bys l)) (h : ¬ isAt l.length a n) :
    Calls Try.prog 44 #[v, .int .i64 a, .int .i64 n] w fun e w' => e = .returned (.tuple #[.int .i64 0, .bool false]) ∧ w = w' := by
  obtain ⟨A, c, rfl, h1, h2, h3, h4⟩ := hv
  simp only [bys_len] at *
  unfold isAt at h
  by_cases c1 : n < 1 ∨ 8 < n
  · go_enter Try.func44, Try.ntmps44
    go_wp2_with (go_at_call 46; refine (fits_no _ _ c1).mono ?_; rintro e w' ⟨rfl, rfl⟩)
    go_ret2
    exact ⟨rfl, rfl⟩
  · by_cases c2 : a < 0
    · go_enter Try.func44, Try.ntmps44
      go_wp2_with (go_at_call 46; refine (fits_yes _ _ (by omega) (by omega)).mono ?_; rintro e w' ⟨rfl, rfl⟩)
      go_ret2
      exact ⟨rfl, rfl⟩
    · have c3 : (l.length : Int) - n < a := by omega
      have c2' : 0 ≤ a := by omega
      have c4 : 1 ≤ n := by omega
      have c5 : n ≤ 8 := by omega
      go_enter Try.func44, Try.ntmps44
      go_wp2_with (go_at_call 46; refine (fits_yes _ _ (by omega) (by omega)).mono ?_; rintro e w' ⟨rfl, rfl⟩)
      go_ret2
      exact ⟨rfl, rfl⟩

theorem num_yes (v : Value) (l : List UInt8) (a n : Nat) (w : World) (hl : l.length ≤ 1073741824) (hv : SV w v (bys l)) (h1 : 1 ≤ n) (h2 : n ≤ 8) (h3 : a + n ≤ l.length) :
    Calls Try.prog 44 #[v, .int .i64 a, .int .i64 n] w fun e w' => e = .returned (.tuple #[.int .i64 (wrap64 (numOf ((l.drop a).take n))), .bool true]) ∧ w = w' := by
  obtain ⟨A, c, rfl, g1, g2, g3, g4⟩ := hv
  obtain ⟨b, off, rfl, hcell⟩ := g4 (bys_ne (by omega))
  simp only [bys_len, maxLen] at *
  have HC := Lib.hid hcell
  clear hcell g4 g3
  go_enter Try.func44, Try.ntmps44
  go_wp2_with (go_at_call 46; refine (fits_yes _ _ (by omega) (by omega)).mono ?_; rintro e w' ⟨rfl, rfl⟩)
  go_loop [8, 33] (fun s i => ∃ k : Nat, k ≤ n ∧ i = .int .i64 k ∧ s = .int .i64 (wrap64 (numOf ((l.drop a).take k)))) (fun _ i => n - (intOf i).toNat)
  case atStart => exact ⟨0, by omega, rfl, by simp [numOf, wrap64]⟩
  case round =>
    obtain ⟨k, hk, rfl, rfl⟩ := hrel
    by_cases hlt : k < n
    · have hx : ∃ x : UInt8, l[a + k]? = some x := ⟨_, List.getElem?_eq_getElem (by omega)⟩
      obtain ⟨x, hx⟩ := hx
      have HS := Lib.hid (show numOf ((l.drop a).take (k + 1)) = 256 * numOf ((l.drop a).take k) + x.toNat by
        rw [List.take_add_one, List.getElem?_drop, hx]; exact numOf_snoc _ _)
      have hcell : w.cell? ⟨b, off + a + k, none⟩ = some (.int .u8 x.toNat) := by rw [Nat.add_assoc]; exact HC.out (a + k) _ (by simp [bys, hx])
      have hb := u8_lt x
      have hb0 : (0 : Int) ≤ x.toNat := by omega
      clear hx
      go_wp2
      go_round
      case rel => exact ⟨k + 1, by omega, by go_num, by rw [HS.out, or_step _ _ hb0 hb]; simp⟩
      case measure => simp [intOf]; omega
    · obtain rfl : k = n := by omega
      go_wp2
      go_ret2
      exact ⟨rfl, rfl⟩
end Go.Proofs.Ytafmggipmaofnaa
