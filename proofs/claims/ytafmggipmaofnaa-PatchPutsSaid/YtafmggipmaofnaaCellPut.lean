/- Layer 5: contracts of the program's form and Put, of the library's Grow and Concat at []byte, of the reference's Bytes. -/
import Derived.Test.YtafmggipmaofnaaCellMath
import Derived.Test.YtafmggipmaofnaaCell
import Derived.Test.YtafmggipmaofnaaCellRef
import Derived.Test.YtafmggipmaofnaaBePut
import Derived.Test.YtafmggipmaofnaaBeRef
import Derived.Test.YtafmggipmaofnaaChecked
namespace Go.Proofs.Ytafmggipmaofnaa
set_option maxRecDepth 20000
open Go.RowKit Go.Sort

/-- A slice of bytes that is the call's own came back. -/
def OwnB (l : List UInt8) (w : World) (e : Ending) (w' : World) : Prop := ∃ v, e = .returned v ∧ fOwn w.heap.size 5 (bys l) v w' ∧ Below w.heap.size w w'
theorem own_put (v : Value) (l : List UInt8) (m : Nat) (x : Int) (w : World) (hl : l.length ≤ 1073741824) (hv : SV w v (bys l)) (m1 : 1 ≤ m) (m8 : m ≤ 8) :
    Calls Try.prog 42 #[v, .int .i64 m, .int .i64 x] w (OwnB (l ++ beb m (ub x)) w) :=
  (put_yes v l m x w hl hv m1 m8).mono fun _ _ ⟨v', h1, h2, h3⟩ => ⟨v', h1, by unfold fOwn; rw [bys_len, List.length_append, beb_len]; exact h2, h3⟩
theorem fOwn.low {B B' : Nat} {e : TypeId} {xs : List Value} {v : Value} {w : World} (h : fOwn B e xs v w) (hb : B' ≤ B) : fOwn B' e xs v w := own_lower h hb
theorem fOwn.on {B : Nat} {e : TypeId} {xs : List Value} {v : Value} {w w' : World} (h : fOwn B e xs v w) (hb : Below w.heap.size w w') : fOwn B e xs v w' := ownsRow_later h hb

/-- Grow of nil. -/
theorem grow_zero (w : World) : Calls Try.prog 41 #[.slice none 0 0, .int .i64 0] w fun e w' => e = .returned (.slice none 0 0) ∧ w = w' := by
  go_enter Try.func41, Try.ntmps41
  go_wp2
  go_ret
  exact ⟨rfl, rfl⟩
theorem grow_some (n : Nat) (w : World) (hn : 1 ≤ n) (hm : n ≤ 1073741824) : Calls Try.prog 41 #[.slice none 0 0, .int .i64 n] w fun e w' => ∃ v, e = .returned v ∧ fOwn w.heap.size 5 [] v w' ∧ Below w.heap.size w w' := by
  have hb : Try.t5.bytes = 1 := by kernel_rfl
  have hns : Builtin.nextslicecap n 0 = n := by unfold Builtin.nextslicecap; simp; omega
  have h1 : ¬ (281474976710656 < n) := by omega
  have h2 : ¬ n = 0 := by omega
  have h3 : (n : Int) ≤ 281474976710656 := by omega
  have h4 : ¬ (281474976710656 < (n : Int)) := by omega
  go_enter Try.func41, Try.ntmps41
  go_wp2
  go_ret
  refine ⟨_, rfl, ?_, ((Below.refl _ w).alloc (Nat.le_refl _) _).drew⟩
  have g1 := grownCap_ge w n 0 5
  have g2 := grownCap_le_maxLen w n 0 5 (by unfold maxLen; omega)
  unfold grownCap at g1 g2
  refine ⟨rfl, .inr ⟨_, _, _, rfl, Nat.le_refl _, heap_alloc_new w _, Nat.zero_le _, g2, ?_, rfl⟩⟩
  simp only [Array.size_append, size_zeroCells]
  simp
  omega
theorem grow_any (n : Nat) (w : World) (hm : n ≤ 1073741824) : Calls Try.prog 41 #[.slice none 0 0, .int .i64 n] w fun e w' => ∃ v, e = .returned v ∧ fOwn w.heap.size 5 [] v w' ∧ Below w.heap.size w w' := by
  by_cases h : n = 0
  · subst h
    exact (grow_zero w).mono fun e w' ⟨h1, h2⟩ => ⟨_, h1, World.ownsRow_nil _ _ _ _, h2 ▸ Below.refl _ _⟩
  · exact grow_some n w (by omega) hm

/-- These slices, one by one. -/
def Rows8 (w : World) (vs : List Value) (ls : List (List UInt8)) : Prop := ∀ (k : Nat) (v : Value), vs[k]? = some v → ∃ l, ls[k]? = some l ∧ SV w v (bys l)
theorem flat_next (ls : List (List UInt8)) (k : Nat) (l : List UInt8) (h : ls[k]? = some l) : (ls.take (k + 1)).flatten = (ls.take k).flatten ++ l := by
  rw [List.take_add_one, h]; simp
theorem flat_le (ls : List (List UInt8)) (k : Nat) : (ls.take k).flatten.length ≤ ls.flatten.length := by
  have : ls.flatten = (ls.take k).flatten ++ (ls.drop k).flatten := by rw [← List.flatten_append, List.take_append_drop]
  rw [this, List.length_append]
  omega
theorem dst_row {w : World} {B : Nat} {e : TypeId} {xs : List Value} {v : Value} (h : fOwn B e xs v w) : Dst w B e v xs := .inl h
theorem fown_nil (B : Nat) (e : TypeId) (xs : List Value) (v : Value) (w : World) (h : fOwn B e xs v w) : w.ownsRow B e 1 v xs.length xs := h

set_option maxHeartbeats 1000000 in
theorem concat_any (A : Option Addr) (m c : Nat) (vs : List Value) (ls : List (List UInt8)) (w : World) (hs : SV w (.slice A m c) vs) (hr : Rows8 w vs ls) (hl : ls.length = m) (hb : ls.flatten.length ≤ 1073741824) :
    Calls Try.prog 29 #[.slice A m c] w (OwnB ls.flatten w) := by
  obtain ⟨-, bd1, bd2⟩ := hs.bd
  obtain ⟨i0, hi, hz0, hz1, hz2⟩ := info_parts Try.info5
  have AT := Lib.hid (fun k (hk : k < m) => hs.at hk)
  have HR := Lib.hid hr
  have HF := Lib.hid (flat_le ls)
  have HN := Lib.hid (flat_next ls)
  have HA := Lib.hid (show ls.take m = ls from List.take_of_length_le (by omega))
  clear hs hr hl
  go_enter Try.func29, Try.ntmps29
  go_wp2
  go_loop [3, 11] (fun s i => ∃ k : Nat, k ≤ m ∧ i = .int .i64 k ∧ s = .int .i64 (ls.take k).flatten.length) (fun _ i => m - (intOf i).toNat)
  case atStart => exact ⟨0, by omega, rfl, rfl⟩
  case round =>
    obtain ⟨k, hk, rfl, rfl⟩ := hrel
    by_cases hlt : k < m
    · obtain ⟨b, off, u, rfl, hu, hcell⟩ := AT.out k hlt
      obtain ⟨l, hlk, hsv⟩ := HR.out k u hu
      obtain ⟨D, n, d, rfl, hn⟩ : ∃ D n d, u = .slice D n d ∧ n = l.length := by obtain ⟨D, d, e, _⟩ := hsv; exact ⟨D, _, d, e, by simp⟩
      have HS := Lib.hid (HN.out k l hlk)
      have h1 := HF.out k
      have h2 := HF.out (k + 1)
      rw [HS.out, List.length_append, ← hn] at h2
      clear hsv hu hlk
      generalize hy : (ls.take k).flatten.length = y at *
      have HY := Lib.hid hy
      have HNn := Lib.hid hn
      clear hy hn
      have q1 : decide ((y : Int) + n < 0) = false := by simp; omega
      go_wp2
      go_round
      case rel => exact ⟨k + 1, by omega, by go_num, by rw [HS.out, List.length_append, HY.out, ← HNn.out]; go_num⟩
      case measure => simp [intOf]; omega
    · obtain rfl : k = m := by omega
      rw [HA.out]
      have HB := Lib.hid hb
      have GA := grow_any ls.flatten.length w hb
      generalize ls.flatten.length = N at hb GA ⊢
      replace GA := Lib.hid GA
      go_wp2_with fail
      refine GA.out.mono ?_
      rintro e w1 ⟨v1, rfl, o1, b1⟩
      have O1 := Lib.hid o1
      have B1 := Lib.hid b1
      clear o1 b1 hb
      go_wp2
      go_loopw [6, 27] (fun v i wr => ∃ j : Nat, j ≤ k ∧ i = .int .i64 j ∧ fOwn w.heap.size 5 (bys (ls.take j).flatten) v wr ∧ Below w.heap.size w wr) (fun _ i _ => k - (intOf i).toNat)
      case atStart => exact ⟨0, by omega, rfl, O1.out, B1.out⟩
      case round =>
        obtain ⟨j, hj, rfl, hown, hbr⟩ := hrel
        by_cases hlt2 : j < k
        · obtain ⟨b, off, u, rfl, hu, hcell0⟩ := AT.out j hlt2
          obtain ⟨l, hlk, hsv⟩ := HR.out j u hu
          have hcell := Keeps.below hbr _ _ hcell0
          have hsv' := hsv.keep (Keeps.below hbr)
          have HS := Lib.hid (HN.out j l hlk)
          have h1 := HF.out (j + 1)
          rw [HS.out, List.length_append] at h1
          have h2 := HB.out
          have hsz := hbr.size
          clear hsv hu hlk hcell0
          go_wp2_with (at_builtin; refine wpList_app _ rfl _ _ 32 rfl w.heap.size 5 i0 (.int .u8 0) 1 Try.underlying32 hi hz0 hz1 hz2 rfl _ (bys (ls.take j).flatten) rfl (.inl hown) _ (bys l) rfl hsv' (bys_one _) (by rw [bys_len, bys_len]; unfold maxLen; omega) (by rw [bys_len, bys_len]; omega) hsz ?_; intro v' w2 happ)
          go_roundw
          case rel => exact ⟨j + 1, by omega, by go_num, by have := happ.own (.inr hown); rw [HS.out, bys_app]; exact this, hbr.trans (happ.below hsz)⟩
          case measure => simp [intOf]; omega
        · obtain rfl : j = k := by omega
          rw [HA.out] at hown
          go_wp2
          go_ret
          exact ⟨_, rfl, hown, hbr⟩

end Go.Proofs.Ytafmggipmaofnaa
