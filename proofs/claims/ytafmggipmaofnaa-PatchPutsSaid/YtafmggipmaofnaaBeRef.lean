/- Contracts of the reference's functions for layer 1: At, Same, Bytes, Text. -/
import Derived.Test.YtafmggipmaofnaaBase
import Derived.Test.YtafmggipmaofnaaBeMath
import Derived.Test.YtafmggipmaofnaaBe
import Derived.Test.YtafmggipmaofnaaChecked
import Derived.WalkSpells
namespace Go.Proofs.Ytafmggipmaofnaa
set_option maxRecDepth 20000
open Go.RowKit

theorem same_any (v u : Value) (l m : List UInt8) (w : World) (hv : SV w v (bys l)) (hu : SV w u (bys m)) :
    Calls Try.prog 11 #[v, u] w fun e w' => e = .returned (.bool (l == m)) ∧ w = w' := by
  have c1 := run_bytes_string (P := Try.prog) hv 32 5 Try.underlying32 Try.underlying5 9 Try.underlying9
  have c2 := run_bytes_string (P := Try.prog) hu 32 5 Try.underlying32 Try.underlying5 9 Try.underlying9
  clear hv hu
  go_enter Try.func11, Try.ntmps11
  go_wp2
  go_ret
  exact ⟨rfl, rfl⟩

theorem Try.info5 : (Try.prog.info? 5).map (fun i => (i.zero, i.size, i.bytes)) = some (some (.int .u8 0), 1, 1) := by kernel_rfl

theorem beb_cell (U : Nat) : IntKind.u8.wrap ((U : Int) % 256) = ((UInt8.ofNat (U % 256)).toNat : Int) := by
  rw [IntKind.wrap_u8]
  simp only [UInt8.toNat_ofNat']
  omega

set_option maxHeartbeats 400000 in
theorem refBytes (n : Nat) (x : Int) (w : World) (h2 : n ≤ 8) :
    Calls Try.prog 31 #[.int .i64 n, .int .i64 x] w fun e w' => ∃ v, e = .returned v ∧ w'.ownsRow w.heap.size 5 1 v n (bys (beb n (ub x))) ∧ Below w.heap.size w w' := by
  obtain ⟨i0, hi, hz0, hz1, hz2⟩ := info_parts Try.info5
  have hu := ub_wrap x
  have hul := ub_lt x
  go_enter Try.func31, Try.ntmps31
  go_wp2
  go_loopw [5, 6, 7] (fun u out i wr => ∃ k : Nat, k ≤ n ∧ i = .int .i64 k ∧ u = .int .u64 ((ub x / 256 ^ k : Nat) : Int) ∧ wr.ownsRow w.heap.size 5 1 out k (bys (beb k (ub x))) ∧ Below w.heap.size w wr)
    (fun _ _ i _ => n - (intOf i).toNat)
  case atStart => exact ⟨0, by omega, rfl, by simp, World.ownsRow_nil _ _ _ _, Below.refl _ _⟩
  case round =>
    obtain ⟨k, hk, rfl, rfl, hown, hb⟩ := hrel
    by_cases hlt : k < n
    · have hU : ub x / 256 ^ k < 18446744073709551616 := Nat.lt_of_le_of_lt (Nat.div_le_self _ _) hul
      have hstep : ((ub x / 256 ^ k : Nat) : Int) / 256 = ((ub x / 256 ^ (k + 1) : Nat) : Int) := by rw [Nat.pow_succ, ← Nat.div_div_eq_div_mul]; rfl
      have HS := Lib.hid hstep
      clear hstep hu
      have HB := Lib.hid (show bys (beb (k + 1) (ub x)) = [.int .u8 ((ub x / 256 ^ k : Nat) % 256 : Int)] ++ bys (beb k (ub x)) by
        simp [beb, bys])
      generalize ub x / 256 ^ k = U at *
      have hlit : (wr.alloc (.cells #[.int .u8 ((U : Int) % 256)] 5)).ownsRow w.heap.size 5 1 (.slice (some ⟨wr.heap.size, 0, none⟩) 1 1) 1 [.int .u8 ((U : Int) % 256)] := World.ownsRow_lit wr #[.int .u8 ((U : Int) % 256)] 1 hb.size (by decide) rfl
      have HL := Lib.hid hlit
      clear hlit
      go_wp2_with (at_builtin; refine wpList_app _ rfl _ _ 32 rfl w.heap.size 5 i0 (.int .u8 0) 1 Try.underlying32 hi hz0 hz1 hz2 rfl _ [.int .u8 ((U : Int) % 256)] rfl (.inl HL.out) _ (bys (beb k (ub x))) rfl ((SV.own hown).keep (Keeps.alloc _ _)) (bys_one _) (by simp [maxLen]; omega) (by simp; omega) (by have := hb.size; simp; omega) ?_; intro v' w1 happ)
      go_roundw
      case rel => exact ⟨k + 1, by omega, by go_num, by rw [← HS.out], by have := happ.own (.inr HL.out); rw [HB.out]; simpa [Nat.add_comm] using this, (hb.alloc hb.size _).trans (happ.below (by have := hb.size; simp; omega))⟩
      case measure => simp [intOf]; omega
    · obtain rfl : k = n := by omega
      go_wp2
      go_ret
      exact ⟨_, rfl, hown, hb⟩

/-- A text as bytes: how many, and they. -/
def textb (s : List UInt8) : List UInt8 := beb 2 s.length ++ s

theorem refText (s : ByteArray) (w : World) (hs : s.size ≤ 65535) :
    Calls Try.prog 32 #[.string s] w fun e w' => ∃ v, e = .returned v ∧ w'.ownsRow w.heap.size 5 1 v (2 + s.size) (bys (textb s.data.toList)) ∧ Below w.heap.size w w' := by
  obtain ⟨i0, hi, hz0, hz1, hz2⟩ := info_parts Try.info5
  go_enter Try.func32, Try.ntmps32
  go_wp2_with (first
    | (go_at_call 31; refine (refBytes 2 _ _ (by omega)).mono ?_; rintro e w1 ⟨v1, rfl, hown, hb⟩)
    | (at_builtin; go_must (refine Lib.wpList_append_own_string _ rfl _ _ 32 9 rfl w.heap.size 5 i0 Try.underlying32 Try.underlying9 hi hz0 hz1 hz2 _ 2 _ rfl hown _ rfl (by simp [maxLen]; omega) (by omega) hb.size ?_); intro v2 w2 hown2 hg2 _))
  go_ret
  refine ⟨_, rfl, ?_, hb.grown hg2 hb.size fun k hk => (hown.lt k hk).1⟩
  have e : bys (textb s.data.toList) = bys (beb 2 (ub (s.size : Int))) ++ Lib.strCells s := by
    have h1 : ub (s.size : Int) = s.data.toList.length := ub_nat _ (by omega)
    rw [h1]
    simp [textb, bys, Lib.strCells]
  rw [e]
  exact hown2
end Go.Proofs.Ytafmggipmaofnaa
