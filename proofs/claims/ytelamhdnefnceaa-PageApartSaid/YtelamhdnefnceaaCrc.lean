/- Contracts of layer 2's functions that only compute: a bit's step (the reference's), eight shifts (the code's), the reference's More. -/
import Derived.Test.YtelamhdnefnceaaBase
import Derived.Test.YtelamhdnefnceaaCrcMath
import Derived.Test.YtelamhdnefnceaaChecked
namespace Go.Proofs.Ytelamhdnefnceaa
set_option maxRecDepth 20000
open Go.RowKit

theorem bit1_cast (v : Nat) (h : v < 4294967296) : ((v : Int) % 2 = 1 → bits .xor .u32 ((v : Int) / 2) 2197175160 = (bit1 v : Int)) ∧ (¬ (v : Int) % 2 = 1 → (v : Int) / 2 = (bit1 v : Int)) := by
  have h2 : (v : Int) / 2 = ((v / 2 : Nat) : Int) := rfl
  rw [h2]
  unfold bit1
  constructor
  · intro h1
    rw [if_pos (by omega)]
    exact u32_xor_nat (v / 2) 2197175160 (by omega) (by decide)
  · intro h1
    rw [if_neg (by omega)]

theorem refBit (v : Nat) (w : World) (h : v < 4294967296) : Calls Try.prog 77 #[.int .u32 v] w fun e w' => e = .returned (.int .u32 (bit1 v : Nat)) ∧ w = w' := by
  have hb := bit1_cast v h
  by_cases h1 : (v : Int) % 2 = 1
  · have HB := Lib.hid (hb.1 h1)
    have h1' : ((v : Int) % 2 == 1) = true := by simp [h1]
    clear hb h1
    go_enter Try.func77, Try.ntmps77
    go_wp2
    go_ret
    exact ⟨ret_int HB.out, rfl⟩
  · have HB := Lib.hid (hb.2 h1)
    have h1' : ((v : Int) % 2 == 1) = false := by simp [h1]
    clear hb h1
    go_enter Try.func77, Try.ntmps77
    go_wp2
    go_ret
    exact ⟨ret_int HB.out, rfl⟩

theorem and1_u32 (v : Nat) (h : v < 4294967296) : bits .and .u32 (v : Int) 1 = (v : Int) % 2 := by
  have := u32_and_nat v 1 h (by decide)
  rw [Nat.and_one_is_mod] at this
  exact this

theorem shifted_any (v : Nat) (w : World) (h : v < 4294967296) : Calls Try.prog 88 #[.int .u32 v] w fun e w' => e = .returned (.int .u32 (bitn 8 v : Nat)) ∧ w = w' := by
  go_enter Try.func88, Try.ntmps88
  go_wp2
  go_loop [0, 3, 4] (fun x _ i => ∃ k : Nat, k ≤ 8 ∧ i = .int .i64 k ∧ x = .int .u32 (bitn k v : Nat)) (fun _ _ i => 8 - (intOf i).toNat)
  case atStart => exact ⟨0, by omega, rfl, rfl⟩
  case round =>
    obtain ⟨k, hk, rfl, rfl⟩ := hrel
    have hy := bitn_lt k v h
    by_cases hlt : k < 8
    · have HS := Lib.hid (bitn_snoc k v)
      generalize bitn k v = y at *
      have hb := bit1_cast y hy
      have ha := and1_u32 y hy
      by_cases h1 : (y : Int) % 2 = 1
      · have HB := Lib.hid (hb.1 h1)
        have h1' : (bits BinOp.and IntKind.u32 (↑y) 1 == 1) = true := by rw [ha, h1]; rfl
        clear hb h1 ha
        go_wp2
        go_round
        case rel => exact ⟨k + 1, by omega, by go_num, by rw [HS.out, HB.out]⟩
        case measure => simp [intOf]; omega
      · have HB := Lib.hid (hb.2 h1)
        have h1' : (bits BinOp.and IntKind.u32 (↑y) 1 == 1) = false := by rw [ha]; simpa using h1
        clear hb h1 ha
        go_wp2
        go_round
        case rel => exact ⟨k + 1, by omega, by go_num, by rw [HS.out, HB.out]⟩
        case measure => simp [intOf]; omega
    · obtain rfl : k = 8 := by omega
      go_wp2
      go_ret
      exact ⟨rfl, rfl⟩

/-- The reference's sum, of bytes that are there. -/
theorem refMore (s : Nat) (v : Value) (l : List UInt8) (w : World) (hs : s < 4294967296) (hl : l.length ≤ 1073741824) (hv : SV w v (bys l)) :
    Calls Try.prog 60 #[.int .u32 s, v] w fun e w' => e = .returned (.int .u32 (more s l : Nat)) ∧ w = w' := by
  obtain ⟨A, c, rfl, g1, g2, g3, g4⟩ := hv
  simp only [bys_len, maxLen] at *
  have HC : Hid (∀ k x, l[k]? = some x → ∃ b off, A = some ⟨b, off, none⟩ ∧ w.cell? ⟨b, off + k, none⟩ = some (.int .u8 (x : UInt8).toNat)) := by
    intro k x hx
    obtain ⟨b, off, hA, hc⟩ := g4 (bys_ne (by have := (List.getElem?_eq_some_iff.1 hx).1; omega))
    exact ⟨b, off, hA, hc k _ (by simp [bys, hx])⟩
  clear g4 g3
  go_enter Try.func60, Try.ntmps60
  go_wp2
  go_loop [5, 6, 7] (fun x i _ => ∃ k : Nat, k ≤ l.length ∧ i = .int .i64 k ∧ x = .int .u32 (run8 (4294967295 - s) (l.take k) : Nat)) (fun _ i _ => l.length - (intOf i).toNat)
  case atStart => exact ⟨0, by omega, rfl, by simp [run8]; omega⟩
  case round =>
    obtain ⟨k, hk, rfl, rfl⟩ := hrel
    have hy := run8_lt (4294967295 - s) (l.take k) (by omega)
    by_cases hlt : k < l.length
    · have hx : ∃ x : UInt8, l[k]? = some x := ⟨_, List.getElem?_eq_getElem hlt⟩
      obtain ⟨x, hx⟩ := hx
      obtain ⟨b, off, hA, hc⟩ := HC.out k x hx
      subst hA
      have HS := Lib.hid (show run8 (4294967295 - s) (l.take (k + 1)) = step8 (run8 (4294967295 - s) (l.take k)) x by
        rw [List.take_add_one, hx]; exact run8_snoc _ _ _)
      have hx0 := u8_nat_lt x
      clear hx
      generalize run8 (4294967295 - s) (l.take k) = y at *
      have hm : y ^^^ x.toNat < 4294967296 := Nat.xor_lt_two_pow (n := 32) (by omega) (by simp only [Nat.reducePow]; omega)
      have hxor := u32_xor_nat y x.toNat hy (by omega)
      go_wp2
      have HX := Lib.hid hxor
      clear hxor
      go_loop [5, 7] (fun x' j => ∃ i : Nat, i ≤ 8 ∧ j = .int .i64 i ∧ x' = .int .u32 (bitn i (y ^^^ x.toNat) : Nat)) (fun _ j => 8 - (intOf j).toNat)
      case atStart => exact ⟨0, by omega, rfl, by simp [bitn]⟩
      case round =>
        obtain ⟨i, hi, rfl, rfl⟩ := hrel
        have hz := bitn_lt i _ hm
        by_cases hil : i < 8
        · have HI := Lib.hid (bitn_snoc i (y ^^^ x.toNat))
          generalize bitn i (y ^^^ x.toNat) = z at *
          go_wp2_with (go_at_call 77; refine (refBit _ _ hz).mono ?_; rintro e w' ⟨rfl, rfl⟩)
          go_round
          case rel => exact ⟨i + 1, by omega, by go_num, by rw [HI.out]⟩
          case measure => simp [intOf]; omega
        · obtain rfl : i = 8 := by omega
          go_wp2
          go_round
          case rel => exact ⟨k + 1, by omega, by go_num, by rw [HS.out]; rfl⟩
          case measure => simp [intOf]; omega
    · obtain rfl : k = l.length := by omega
      rw [List.take_length] at hy
      go_wp2
      go_ret
      exact ⟨ret_int (by unfold more; omega), rfl⟩
end Go.Proofs.Ytelamhdnefnceaa
