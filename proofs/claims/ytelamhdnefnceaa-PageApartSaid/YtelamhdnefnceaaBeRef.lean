/- Contracts of the reference's functions for layer 1: At, Same, Bytes, Text. -/
import Derived.Test.YtelamhdnefnceaaBase
import Derived.Test.YtelamhdnefnceaaBeMath
import Derived.Test.YtelamhdnefnceaaBe
import Derived.Test.YtelamhdnefnceaaChecked
import Derived.WalkSpells
namespace Go.Proofs.Ytelamhdnefnceaa
set_option maxRecDepth 20000
open Go.RowKit

theorem at_no (v : Value) (l : List UInt8) (a n : Int) (w : World) (hv : SV w v (bys l)) (wa : -9223372036854775808 ≤ a ∧ a ≤ 9223372036854775807) (h : ¬ isAt l.length a n) :
    Calls Try.prog 51 #[v, .int .i64 a, .int .i64 n] w fun e w' => e = .returned (.tuple #[.int .i64 0, .bool false]) ∧ w = w' := by
  obtain ⟨A, c, rfl, h1, h2, h3, h4⟩ := hv
  simp only [bys_len] at *
  unfold isAt at h
  by_cases c1 : n < 1
  · go_enter Try.func51, Try.ntmps51
    go_wp2
    go_ret2
    exact ⟨rfl, rfl⟩
  · by_cases c2 : 8 < n
    · go_enter Try.func51, Try.ntmps51
      go_wp2
      go_ret2
      exact ⟨rfl, rfl⟩
    · by_cases c3 : a < 0
      · go_enter Try.func51, Try.ntmps51
        go_wp2
        go_ret2
        exact ⟨rfl, rfl⟩
      · by_cases c4 : (l.length : Int) ≤ a
        · go_enter Try.func51, Try.ntmps51
          go_wp2
          go_ret2
          exact ⟨rfl, rfl⟩
        · have c5 : (l.length : Int) - a < n := by omega
          go_enter Try.func51, Try.ntmps51
          go_wp2
          go_ret2
          exact ⟨rfl, rfl⟩

theorem at_yes (v : Value) (l : List UInt8) (a n : Nat) (w : World) (hl : l.length ≤ 1073741824) (hv : SV w v (bys l)) (h1 : 1 ≤ n) (h2 : n ≤ 8) (h3 : a + n ≤ l.length) :
    Calls Try.prog 51 #[v, .int .i64 a, .int .i64 n] w fun e w' => e = .returned (.tuple #[.int .i64 (wrap64 (numOf ((l.drop a).take n))), .bool true]) ∧ w = w' := by
  obtain ⟨A, c, rfl, g1, g2, g3, g4⟩ := hv
  obtain ⟨b, off, rfl, hcell⟩ := g4 (bys_ne (by omega))
  simp only [bys_len, maxLen] at *
  have HC := Lib.hid hcell
  clear hcell g4 g3
  go_enter Try.func51, Try.ntmps51
  go_wp2
  go_loop [8, 9] (fun s i => ∃ k : Nat, k ≤ n ∧ i = .int .i64 k ∧ s = .int .u64 (m64 (numOf ((l.drop a).take k)))) (fun _ i => n - (intOf i).toNat)
  case atStart => exact ⟨0, by omega, rfl, by simp [numOf, m64_zero]⟩
  case round =>
    obtain ⟨k, hk, rfl, rfl⟩ := hrel
    by_cases hlt : k < n
    · have hx : ∃ x : UInt8, l[a + k]? = some x := ⟨_, List.getElem?_eq_getElem (by omega)⟩
      obtain ⟨x, hx⟩ := hx
      have HS := Lib.hid (show numOf ((l.drop a).take (k + 1)) = 256 * numOf ((l.drop a).take k) + x.toNat by
        rw [List.take_add_one, List.getElem?_drop, hx]; exact numOf_snoc _ _)
      have hcell : w.cell? ⟨b, off + (a + k), none⟩ = some (.int .u8 x.toNat) := HC.out (a + k) _ (by simp [bys, hx])
      have hb := u8_lt x
      have hb0 : (0 : Int) ≤ x.toNat := by omega
      have hm0 := m64_lo (numOf ((l.drop a).take k))
      have hm1 := m64_hi (numOf ((l.drop a).take k))
      clear hx
      go_wp2
      go_round
      case rel => exact ⟨k + 1, by omega, by go_num, by rw [HS.out, ← m64_step]⟩
      case measure => simp [intOf]; omega
    · obtain rfl : k = n := by omega
      go_wp2
      go_ret2
      exact ⟨ret2_int (m64_wrap _), rfl⟩

theorem same_any (v u : Value) (l m : List UInt8) (w : World) (hv : SV w v (bys l)) (hu : SV w u (bys m)) :
    Calls Try.prog 19 #[v, u] w fun e w' => e = .returned (.bool (l == m)) ∧ w = w' := by
  have c1 := run_bytes_string (P := Try.prog) hv 26 5 Try.underlying26 Try.underlying5 9 Try.underlying9
  have c2 := run_bytes_string (P := Try.prog) hu 26 5 Try.underlying26 Try.underlying5 9 Try.underlying9
  clear hv hu
  go_enter Try.func19, Try.ntmps19
  go_wp2
  go_ret
  exact ⟨rfl, rfl⟩

theorem Try.info5 : (Try.prog.info? 5).map (fun i => (i.zero, i.size, i.bytes)) = some (some (.int .u8 0), 1, 1) := by kernel_rfl

theorem beb_cell (U : Nat) : IntKind.u8.wrap ((U : Int) % 256) = ((UInt8.ofNat (U % 256)).toNat : Int) := by
  rw [IntKind.wrap_u8]
  simp only [UInt8.toNat_ofNat']
  omega

set_option maxHeartbeats 400000 in
theorem refBytes (n : Nat) (x : Int) (w : World) (h2 : n ≤ 8) :
    Calls Try.prog 21 #[.int .i64 n, .int .i64 x] w fun e w' => ∃ v, e = .returned v ∧ w'.ownsRow w.heap.size 5 1 v n (bys (beb n (ub x))) ∧ Below w.heap.size w w' := by
  obtain ⟨i0, hi, hz0, hz1, hz2⟩ := info_parts Try.info5
  have hu := ub_wrap x
  have hul := ub_lt x
  go_enter Try.func21, Try.ntmps21
  go_wp2
  go_loopw [5, 6, 7] (fun u out i wr => ∃ k : Nat, k ≤ n ∧ i = .int .i64 k ∧ u = .int .u64 ((ub x / 256 ^ k : Nat) : Int) ∧ wr.ownsRow w.heap.size 5 1 out k (bys (beb k (ub x))) ∧ Below w.heap.size w wr)
    (fun _ _ i _ => n - (intOf i).toNat)
  case atStart => exact ⟨0, by omega, rfl, by simp, World.ownsRow_nil _ _ _ _, Below.refl _ _⟩
  case round =>
    obtain ⟨k, hk, rfl, rfl, hown, hb⟩ := hrel
    by_cases hlt : k < n
    · have hU : ub x / 256 ^ k < 18446744073709551616 := Nat.lt_of_le_of_lt (Nat.div_le_self _ _) hul
      have hstep : ((ub x / 256 ^ k : Nat) : Int) / 256 = ((ub x / 256 ^ (k + 1) : Nat) : Int) := by rw [Nat.pow_succ, ← Nat.div_div_eq_div_mul]; rfl
      have HS := Lib.hid hstep
      clear hstep hu
      have HB := Lib.hid (show bys (beb (k + 1) (ub x)) = [.int .u8 ((ub x / 256 ^ k : Nat) % 256 : Int)] ++ bys (beb k (ub x)) by
        simp [beb, bys])
      generalize ub x / 256 ^ k = U at *
      have hlit : (wr.alloc (.cells #[.int .u8 ((U : Int) % 256)] 5)).ownsRow w.heap.size 5 1 (.slice (some ⟨wr.heap.size, 0, none⟩) 1 1) 1 [.int .u8 ((U : Int) % 256)] := World.ownsRow_lit wr #[.int .u8 ((U : Int) % 256)] 1 hb.size (by decide) rfl
      have HL := Lib.hid hlit
      clear hlit
      go_wp2_with (at_builtin; refine wpList_app _ rfl _ _ 26 rfl w.heap.size 5 i0 (.int .u8 0) 1 Try.underlying26 hi hz0 hz1 hz2 rfl _ [.int .u8 ((U : Int) % 256)] rfl (.inl HL.out) _ (bys (beb k (ub x))) rfl ((SV.own hown).keep (Keeps.alloc _ _)) (bys_one _) (by simp [maxLen]; omega) (by simp; omega) (by have := hb.size; simp; omega) ?_; intro v' w1 happ)
      go_roundw
      case rel => exact ⟨k + 1, by omega, by go_num, by rw [← HS.out], by have := happ.own (.inr HL.out); rw [HB.out]; simpa [Nat.add_comm] using this, (hb.alloc hb.size _).trans (happ.below (by have := hb.size; simp; omega))⟩
      case measure => simp [intOf]; omega
    · obtain rfl : k = n := by omega
      go_wp2
      go_ret
      exact ⟨_, rfl, hown, hb⟩

/-- A text as bytes: how many, and they. -/
def textb (s : List UInt8) : List UInt8 := beb 2 s.length ++ s

end Go.Proofs.Ytelamhdnefnceaa
