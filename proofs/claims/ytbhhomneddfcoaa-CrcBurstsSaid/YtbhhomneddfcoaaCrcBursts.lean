/- The law of layer 2 on bursts: bits turned within 32 of sealed bytes are found. -/
import Derived.Test.YtbhhomneddfcoaaCrcLaws
namespace Go.Proofs.Ytbhhomneddfcoaa
open Go.RowKit

theorem turn_u8 (x : UInt8) (j : Nat) : bits .xor .u8 (x.toNat : Int) ((2 : Int) ^ j % 256) = (((x ^^^ UInt8.ofNat (2 ^ j)).toNat : Nat) : Int) := by
  have e : (2 : Int) ^ j % 256 = ((2 ^ j % 256 : Nat) : Int) := by simp
  rw [e, u8_xor_nat _ _ (u8_nat_lt x) (by omega), UInt8.toNat_xor, UInt8.toNat_ofNat']
set_option maxHeartbeats 1000000 in
set_option maxRecDepth 100000 in
theorem bursts_main (v : Value) (l : List UInt8) (a t : Nat) (w : World) (h4 : 4 ≤ l.length) (hl : l.length ≤ 600) (hv : SV w v (bys l)) (ha : (a : Int) ≤ 8 * (l.length : Int) - 32) (ht : t < 4294967296) (h0 : t ≠ 0) :
    Calls Try.prog 7 #[v, .int .i64 a, .int .u32 t] w fun e w' => e = .returned (.bool true) ∧ Below w.heap.size w w' := by
  have hv' := hv
  obtain ⟨A, c, rfl, h1, h2, h3, h4'⟩ := hv
  rw [bys_len] at hv' h1 ⊢
  unfold maxLen at h2
  clear h4' h3
  have q0 : ((t : Int) == 0) = false := by simp; omega
  have q1 : decide ((l.length : Int) < 4) = false := by simp; omega
  have q2 : decide ((600 : Int) < l.length) = false := by simp; omega
  have q3 : decide ((a : Int) < 0) = false := by simp
  have q4 : decide (8 * (l.length : Int) - 32 < a) = false := by simp; omega
  have q5 : (4 + (l.length : Int) != (l.length : Int) + 4) = false := by simp [Int.add_comm]
  go_enter Try.func7, Try.ntmps7
  go_wp2_with (first
    | (go_at_call 20; refine (seal_any _ l _ (by omega) hv').mono ?_; rintro e w1 ⟨v1, rfl, own1, b1⟩; obtain ⟨g, cap, rfl⟩ := own_pos own1 (by simp; omega); rw [sealb_len] at own1 ⊢))
  clear q0 q1 q2 q3 q4 q5
  go_loopw [8, 9] (fun i _ wr => ∃ (k : Nat) (m : List UInt8), k ≤ 32 ∧ i = .int .i64 k ∧ m.length = l.length ∧ leN m = leN l ^^^ 2 ^ a * (t % 2 ^ k) ∧ wr.ownsRow w.heap.size 5 1 (.slice (some ⟨g, 0, none⟩) (4 + l.length) cap) (4 + l.length) (bys (beb 4 (more 0 l) ++ m)) ∧ Below w.heap.size w wr)
    (fun i _ _ => 32 - (intOf i).toNat)
  case atStart => exact ⟨0, l, by omega, rfl, rfl, by simp [Nat.mod_one], own1, b1⟩
  case round =>
    obtain ⟨k, m, hk, rfl, hml, hle, hown, hb⟩ := hrel
    clear own1 b1
    by_cases hlt : k < 32
    · have hj : (a + k) / 8 < m.length := by omega
      have hj4 : 4 + (a + k) / 8 < (4 + l.length) * 1 := by omega
      obtain ⟨x, hx⟩ : ∃ x : UInt8, m[(a + k) / 8]? = some x := ⟨_, List.getElem?_eq_getElem hj⟩
      have HE := Lib.hid hle
      have HM := Lib.hid hml
      have HT := Lib.hid (leN_turn m (a + k) x hx)
      clear hle hml
      have hgb : w.heap.size ≤ g := by
        rcases hown.2 with ⟨h, _⟩ | ⟨g', cap', cur, h, hgb, _⟩
        · cases h
        · injection h with h; injection h with h; injection h with h; omega
      by_cases hbit : t / 2 ^ k % 2 = 1
      · have qb : (((t : Int) / 2 ^ k).tmod 2 == 1) = true := by
          have : ((t : Int) / 2 ^ k).tmod 2 = ((t / 2 ^ k % 2 : Nat) : Int) := by rw [Int.tmod_eq_emod_of_nonneg (Int.ediv_nonneg (by omega) (Int.le_of_lt (Int.pow_pos (by decide))))]; simp
          rw [this, hbit]; rfl
        have HB := Lib.hid hbit
        clear hbit
        have hcell : wr.cell? ⟨g, 4 + (a + k) / 8, none⟩ = some (.int .u8 x.toNat) := by
          rw [hown.cellAt _ hj4, bys_app]
          rw [List.getElem?_append_right (by simp)]
          simp [bys, hx]
        have hfr := hown.frozenAt (4 + (a + k) / 8)
        clear hx
        go_wp2
        go_roundw
        case rel => exact ⟨k + 1, m.set ((a + k) / 8) (x ^^^ UInt8.ofNat (2 ^ ((a + k) % 8))), by omega, by go_num, by rw [List.length_set]; exact HM.out, by rw [HT.out, HE.out, burst_step _ _ _ _ HB.out], by rw [turn_u8, ← bys_set _ _ 4 _ (beb_len 4 _)]; exact (hown.stored _ _).1, hb.setCell (p := ⟨g, 4 + (a + k) / 8, none⟩) hgb _⟩
        case measure => simp [intOf]; omega
      · have qb : (((t : Int) / 2 ^ k).tmod 2 == 1) = false := by
          have : ((t : Int) / 2 ^ k).tmod 2 = ((t / 2 ^ k % 2 : Nat) : Int) := by rw [Int.tmod_eq_emod_of_nonneg (Int.ediv_nonneg (by omega) (Int.le_of_lt (Int.pow_pos (by decide))))]; simp
          rw [this, show t / 2 ^ k % 2 = 0 by omega]; rfl
        have HB := Lib.hid (burst_skip t k (by omega))
        clear hbit hx
        go_wp2
        go_roundw
        case rel => exact ⟨k + 1, m, by omega, by go_num, HM.out, by rw [HE.out, HB.out], hown, hb⟩
        case measure => simp [intOf]; omega
    · obtain rfl : k = 32 := by omega
      rw [show (2 : Nat) ^ 32 = 4294967296 from rfl, Nat.mod_eq_of_lt ht] at hle
      have hng : goodB (beb 4 (more 0 l) ++ m) = false := by
        obtain ⟨e1, e2⟩ := numOf_beb4 m (more 0 l) (more_lt 0 l)
        have hne := more_burst 0 l m a t hml ht h0 (by omega) hle
        unfold goodB
        rw [e1, e2]
        have : (((more 0 l : Nat) : Int) == ((more 0 m : Nat) : Int)) = false := by simp; omega
        rw [this, Bool.and_false]
      have HM := Lib.hid hml
      clear hml hle
      go_wp2_with (first
        | (go_at_call 22; refine (good_any _ (beb 4 (more 0 l) ++ m) _ (by have := HM.out; simp; omega) (by have := SV.own hown; simpa [HM.out] using this)).mono ?_; rw [hng]; rintro e w2 ⟨rfl, b2⟩)
        | (go_at_call 16; refine (live2_any _).mono ?_; rintro e w3 ⟨rfl, b3⟩))
      go_ret
      exact ⟨rfl, hb.trans ((b2.mono hb.size).trans (b3.mono (Nat.le_trans hb.size b2.size)))⟩

theorem bursts_out (v : Value) (l : List UInt8) (a t : Int) (w : World) (hl : l.length ≤ 9223372036854775807) (hv : SV w v (bys l)) (_wa : -9223372036854775808 ≤ a ∧ a ≤ 9223372036854775807) (wt : 0 ≤ t ∧ t ≤ 4294967295)
    (h : (l.length : Int) < 4 ∨ (4 ≤ (l.length : Int) ∧ (600 < (l.length : Int) ∨ ((l.length : Int) ≤ 600 ∧ (a < 0 ∨ (0 ≤ a ∧ (8 * (l.length : Int) - 32 < a ∨ (a ≤ 8 * (l.length : Int) - 32 ∧ t = 0)))))))) :
    Calls Try.prog 7 #[v, .int .i64 a, .int .u32 t] w fun e w' => e = .returned (.bool true) ∧ Below w.heap.size w w' := by
  obtain ⟨A, c, rfl, h1, h2, h3, h4'⟩ := hv
  rw [bys_len] at h1 ⊢
  unfold maxLen at h2
  clear h4' h3
  rcases h with h | ⟨p1, h | ⟨p2, h | ⟨p3, h | ⟨p4, h⟩⟩⟩⟩
  · go_enter Try.func7, Try.ntmps7
    go_wp2_with (go_at_call 16; refine (live2_any _).mono ?_; rintro e w1 ⟨rfl, hb⟩)
    go_ret
    exact ⟨rfl, hb⟩
  · have q1 : decide ((l.length : Int) < 4) = false := by simp; omega
    go_enter Try.func7, Try.ntmps7
    go_wp2_with (go_at_call 16; refine (live2_any _).mono ?_; rintro e w1 ⟨rfl, hb⟩)
    go_ret
    exact ⟨rfl, hb⟩
  · have q1 : decide ((l.length : Int) < 4) = false := by simp; omega
    have q2 : decide ((600 : Int) < l.length) = false := by simp; omega
    go_enter Try.func7, Try.ntmps7
    go_wp2_with (go_at_call 16; refine (live2_any _).mono ?_; rintro e w1 ⟨rfl, hb⟩)
    go_ret
    exact ⟨rfl, hb⟩
  · have q1 : decide ((l.length : Int) < 4) = false := by simp; omega
    have q2 : decide ((600 : Int) < l.length) = false := by simp; omega
    have q3 : decide (a < 0) = false := by simp; omega
    go_enter Try.func7, Try.ntmps7
    go_wp2_with (go_at_call 16; refine (live2_any _).mono ?_; rintro e w1 ⟨rfl, hb⟩)
    go_ret
    exact ⟨rfl, hb⟩
  · subst h
    have q1 : decide ((l.length : Int) < 4) = false := by simp; omega
    have q2 : decide ((600 : Int) < l.length) = false := by simp; omega
    have q3 : decide (a < 0) = false := by simp; omega
    have q4 : decide (8 * (l.length : Int) - 32 < a) = false := by simp; omega
    go_enter Try.func7, Try.ntmps7
    go_wp2_with (go_at_call 16; refine (live2_any _).mono ?_; rintro e w1 ⟨rfl, hb⟩)
    go_ret
    exact ⟨rfl, hb⟩

theorem bursts_law (v : Value) (l : List UInt8) (a t : Int) (w : World) (hl : l.length ≤ 9223372036854775807) (hv : SV w v (bys l)) (wa : -9223372036854775808 ≤ a ∧ a ≤ 9223372036854775807) (wt : 0 ≤ t ∧ t ≤ 4294967295) :
    Calls Try.prog 7 #[v, .int .i64 a, .int .u32 t] w fun e w' => e = .returned (.bool true) ∧ Below w.heap.size w w' := by
  by_cases h : (l.length : Int) < 4 ∨ (4 ≤ (l.length : Int) ∧ (600 < (l.length : Int) ∨ ((l.length : Int) ≤ 600 ∧ (a < 0 ∨ (0 ≤ a ∧ (8 * (l.length : Int) - 32 < a ∨ (a ≤ 8 * (l.length : Int) - 32 ∧ t = 0)))))))
  · exact bursts_out v l a t w hl hv wa wt h
  · obtain ⟨n, rfl⟩ := Int.eq_ofNat_of_zero_le (show 0 ≤ a by omega)
    obtain ⟨k, rfl⟩ := Int.eq_ofNat_of_zero_le (show 0 ≤ t by omega)
    exact bursts_main v l n k w (by omega) (by omega) hv (by omega) (by omega) (by omega)
theorem wf_u32 {a : Int} (h : (Lit.int .u32 a).wf = true) : 0 ≤ a ∧ a ≤ 4294967295 := by
  have h2 : IntKind.u32.min ≤ a ∧ a ≤ IntKind.u32.max := by simpa [Lit.wf] using h
  simp [IntKind.min, IntKind.max, IntKind.bits, IntKind.signed] at h2
  omega
end Go.Proofs.Ytbhhomneddfcoaa
