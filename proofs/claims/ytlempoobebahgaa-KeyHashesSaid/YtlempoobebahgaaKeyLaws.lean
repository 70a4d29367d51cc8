/- Layer 4: what the laws KeyChecks and KeyHashes come to, for all arguments. -/
import Derived.Test.YtlempoobebahgaaKey
import Derived.Test.YtlempoobebahgaaWords
namespace Go.Proofs.Ytlempoobebahgaa
open Go.RowKit

theorem live4_any (w : World) : Calls Try.prog 6 #[] w fun e w' => e = .returned (.bool true) ∧ Below w.heap.size w w' := by
  have h1 := fun w => hash_any ⟨#[97]⟩ w (by decide)
  have h2 := fun w => check_any ⟨#[]⟩ w (by decide)
  rw [show hashN (ByteArray.mk #[97]).data.toList = 3826002220 from hashN_a] at h1
  rw [show ckI (ByteArray.mk #[]).data.toList = 1 from rfl] at h2
  have H1 := Lib.hid h1
  have H2 := Lib.hid h2
  clear h1 h2
  go_enter Try.func6, Try.ntmps6
  go_wp2_with (first
    | (go_at_call 10; refine (H1.out _).mono ?_; rintro e w1 ⟨rfl, rfl⟩)
    | (go_at_call 8; refine (H2.out _).mono ?_; rintro e w2 ⟨rfl, b2⟩)
    | (go_at_call 7; refine (code_any _ _).mono ?_; rintro e w3 ⟨rfl, rfl⟩))
  go_ret
  exact ⟨rfl, b2⟩

theorem checks4_law (s : ByteArray) (n : Int) (w : World) (hs : s.size ≤ 9223372036854775807) (hn : -9223372036854775808 ≤ n ∧ n ≤ 9223372036854775807) :
    Calls Try.prog 3 #[.string s, .int .i64 n] w fun e w' => e = .returned (.bool true) ∧ Below w.heap.size w w' := by
  by_cases h1 : (300 : Int) < s.size
  · go_enter Try.func3, Try.ntmps3
    go_wp2_with (go_at_call 6; refine (live4_any _).mono ?_; rintro e w1 ⟨rfl, b1⟩)
    go_ret
    exact ⟨rfl, b1⟩
  · have CH := fun w => check_any s w hs
    have CR := fun w => right_any s w hs
    have C1 := Lib.hid (fun w => hash_any s w hs)
    have C2 := Lib.hid (fun w => refHash_any s w hs)
    have C3 := Lib.hid (fun w => bucket_any s n w hs hn)
    have C4 := Lib.hid (fun w => refBucket_any s n w hs hn)
    have q1 : decide ((300 : Int) < s.size) = false := by simpa using h1
    by_cases hk : isKey s.data.toList = true
    · simp only [ckI_yes hk, hk] at CH CR
      have HC := Lib.hid CH
      have HR := Lib.hid CR
      clear CH CR hk
      go_enter Try.func3, Try.ntmps3
      go_wp2_with (first
        | (go_at_call 8; refine (HC.out _).mono ?_; rintro e w1 ⟨rfl, b1⟩)
        | (go_at_call 7; refine (code_any _ _).mono ?_; rintro e w2 ⟨rfl, rfl⟩)
        | (go_at_call 9; refine (HR.out _).mono ?_; rintro e w2 ⟨rfl, rfl⟩)
        | (go_at_call 10; refine (C1.out _).mono ?_; rintro e w2 ⟨rfl, rfl⟩)
        | (go_at_call 11; refine (C2.out _).mono ?_; rintro e w2 ⟨rfl, rfl⟩)
        | (go_at_call 12; refine (C3.out _).mono ?_; rintro e w2 ⟨rfl, rfl⟩)
        | (go_at_call 13; refine (C4.out _).mono ?_; rintro e w2 ⟨rfl, rfl⟩)
        | (go_at_call 6; refine (live4_any _).mono ?_; rintro e w3 ⟨rfl, b3⟩))
      go_ret
      exact ⟨rfl, bthen b1 b3⟩
    · have hk' : isKey s.data.toList = false := by simpa using hk
      simp only [ckI_no hk', hk'] at CH CR
      have HC := Lib.hid CH
      have HR := Lib.hid CR
      clear CH CR hk hk'
      go_enter Try.func3, Try.ntmps3
      go_wp2_with (first
        | (go_at_call 8; have tok := b1; refine (HC.out _).mono ?_; rintro e w2 ⟨rfl, b2⟩)
        | (go_at_call 8; refine (HC.out _).mono ?_; rintro e w1 ⟨rfl, b1⟩)
        | (go_at_call 7; refine (code_any _ _).mono ?_; rintro e w2 ⟨rfl, rfl⟩)
        | (go_at_call 9; refine (HR.out _).mono ?_; rintro e w2 ⟨rfl, rfl⟩)
        | (go_at_call 10; refine (C1.out _).mono ?_; rintro e w2 ⟨rfl, rfl⟩)
        | (go_at_call 11; refine (C2.out _).mono ?_; rintro e w2 ⟨rfl, rfl⟩)
        | (go_at_call 12; refine (C3.out _).mono ?_; rintro e w2 ⟨rfl, rfl⟩)
        | (go_at_call 13; refine (C4.out _).mono ?_; rintro e w2 ⟨rfl, rfl⟩)
        | (go_at_call 6; refine (live4_any _).mono ?_; rintro e w3 ⟨rfl, b3⟩))
      go_ret
      exact ⟨rfl, bthen b1 (bthen b2 b3)⟩

theorem join_bytes (a b : ByteArray) : (a ++ b).data.toList = a.data.toList ++ b.data.toList := by simp
theorem bkI_one (l : List UInt8) : bkI l 1 = 0 := by simp [bkI]
theorem bkI_bd {l : List UInt8} {n : Int} (h : ¬ n < 1) : 0 ≤ bkI l n ∧ bkI l n < n := by
  rw [bkI_yes h]
  exact ⟨Int.emod_nonneg _ (by omega), Int.emod_lt_of_pos _ (by omega)⟩
theorem hash_join (a b : ByteArray) : hashN (a ++ b).data.toList = b.data.toList.foldl hstep (hashN a.data.toList) := by
  rw [join_bytes, hashN_app]

set_option maxHeartbeats 400000 in
theorem hashes4_law (a b : ByteArray) (n : Int) (w : World) (ha : a.size ≤ 9223372036854775807) (hb : b.size ≤ 9223372036854775807) (hn : -9223372036854775808 ≤ n ∧ n ≤ 9223372036854775807) :
    Calls Try.prog 5 #[.string a, .string b, .int .i64 n] w fun e w' => e = .returned (.bool true) ∧ Below w.heap.size w w' := by
  by_cases h1 : (300 : Int) < a.size
  · go_enter Try.func5, Try.ntmps5
    go_wp2_with (go_at_call 6; refine (live4_any _).mono ?_; rintro e w1 ⟨rfl, b1⟩)
    go_ret
    exact ⟨rfl, b1⟩
  · have q1 : decide ((300 : Int) < a.size) = false := by simpa using h1
    by_cases h2 : (300 : Int) < b.size
    · go_enter Try.func5, Try.ntmps5
      go_wp2_with (go_at_call 6; refine (live4_any _).mono ?_; rintro e w1 ⟨rfl, b1⟩)
      go_ret
      exact ⟨rfl, b1⟩
    · have q2 : decide ((300 : Int) < b.size) = false := by simpa using h2
      have C1 := Lib.hid (fun w => hash_any a w ha)
      have CJ := fun w => hash_any (a ++ b) w (by rw [ByteArray.size_append]; omega)
      rw [hash_join] at CJ
      have CJ := Lib.hid CJ
      have C2 := Lib.hid (fun w => bucket_any a n w ha hn)
      have C3 := fun w => bucket_any a 1 w ha (by omega)
      rw [bkI_one] at C3
      have C3 := Lib.hid C3
      have hh := hashN_lt a.data.toList
      have HF := Lib.hid (fun (l : List UInt8) => fold_lt l (hashN a.data.toList) hh)
      have HN := Lib.hid (fun k hk => fold_next (hashN a.data.toList) b k hk)
      have HB1 := Lib.hid (fun (h : n < 1) => bkI_no (l := a.data.toList) h)
      have HB2 := Lib.hid (fun (h : ¬ n < 1) => bkI_bd (l := a.data.toList) h)
      generalize hashN a.data.toList = ya at *
      have a0 : (0 : Int) ≤ ya := by omega
      have a1 : (ya : Int) < 18446744073709551616 := by omega
      go_enter Try.func5, Try.ntmps5
      go_wp2_with (go_at_call 10; refine (C1.out _).mono ?_; rintro e w1 ⟨rfl, rfl⟩)
      go_loop [7, 8] (fun h i => ∃ k : Nat, k ≤ b.size ∧ i = .int .i64 k ∧ h = .int .u64 ((b.data.toList.take k).foldl hstep ya : Nat)) (fun _ i => b.size - (intOf i).toNat)
      case atStart => exact ⟨0, by omega, rfl, rfl⟩
      case round =>
        obtain ⟨k, hk, rfl, rfl⟩ := hrel
        have hy := HF.out (b.data.toList.take k)
        by_cases hlt : k < b.size
        · have HS := Lib.hid (HN.out k hlt)
          generalize (b.data.toList.take k).foldl hstep ya = y at *
          have H := Lib.hid (step64 y b[k] hy)
          go_wp2
          go_round
          case rel => exact ⟨k + 1, by omega, by go_num, by rw [HS.out, H.out]⟩
          case measure => simp [intOf]; omega
        · obtain rfl : k = b.size := by omega
          rw [take_all] at *
          generalize b.data.toList.foldl hstep ya = y at *
          have y0 : (0 : Int) ≤ y := by omega
          have y1 : (y : Int) < 18446744073709551616 := by omega
          by_cases hn1 : n < 1
          · have E := HB1.out hn1
            rw [E] at C2
            clear E
            go_wp2_with (first
              | (go_at_call 12; have tok := t1; refine (C3.out _).mono ?_; rintro e w1 ⟨rfl, rfl⟩)
              | (go_at_call 12; refine (C2.out _).mono ?_; rintro e w1 ⟨rfl, rfl⟩; have t1 : True := trivial)
              | (go_at_call 10; refine (CJ.out _).mono ?_; rintro e w1 ⟨rfl, rfl⟩)
              | (go_at_call 6; refine (live4_any _).mono ?_; rintro e w3 ⟨rfl, b3⟩))
            go_ret
            exact ⟨rfl, b3⟩
          · obtain ⟨e1, e2⟩ := HB2.out (by omega)
            generalize bkI a.data.toList n = z at *
            have q3 : decide (n < 1) = false := decide_eq_false hn1
            have q4 : decide ((0 : Int) ≤ z) = true := decide_eq_true e1
            have q5 : decide (z < n) = true := decide_eq_true e2
            go_wp2_with (first
              | (go_at_call 12; have tok := t1; refine (C3.out _).mono ?_; rintro e w1 ⟨rfl, rfl⟩)
              | (go_at_call 12; refine (C2.out _).mono ?_; rintro e w1 ⟨rfl, rfl⟩; have t1 : True := trivial)
              | (go_at_call 10; refine (CJ.out _).mono ?_; rintro e w1 ⟨rfl, rfl⟩)
              | (go_at_call 6; refine (live4_any _).mono ?_; rintro e w3 ⟨rfl, b3⟩))
            go_ret
            exact ⟨rfl, b3⟩
end Go.Proofs.Ytlempoobebahgaa
