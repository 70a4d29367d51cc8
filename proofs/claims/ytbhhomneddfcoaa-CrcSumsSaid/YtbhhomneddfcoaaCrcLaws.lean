/- The laws of layer 2: CrcSums, CrcGoods, CrcBursts, of any bytes. -/
import Derived.Lib.SlBytesConst
import Derived.Test.YtbhhomneddfcoaaCrcSeal
namespace Go.Proofs.Ytbhhomneddfcoaa
open Go.RowKit

theorem live_sum : more 0 [49, 50, 51, 52, 53, 54, 55, 56, 57] = 3808858755 := by decide +kernel
theorem live_good : goodB [1, 0, 0, 0] = false := by decide +kernel

theorem numOf_beb4 (l : List UInt8) (N : Nat) (h : N < 4294967296) : numOf ((beb 4 N ++ l).take 4) = N ∧ (beb 4 N ++ l).drop 4 = l := by
  have e1 : (beb 4 N ++ l).take 4 = beb 4 N := List.take_left' (by simp)
  have e2 : (beb 4 N ++ l).drop 4 = l := List.drop_left' (by simp)
  refine ⟨?_, e2⟩
  rw [e1]
  simp only [beb, numOf, List.foldl_cons, List.foldl_nil, UInt8.toNat_ofNat', Nat.reducePow]
  omega
theorem good_seal (l : List UInt8) : goodB (sealb l) = true := by
  obtain ⟨h1, h2⟩ := numOf_beb4 l (more 0 l) (more_lt 0 l)
  unfold goodB
  rw [show (sealb l).take 4 = (beb 4 (more 0 l) ++ l).take 4 from rfl, h1, show (sealb l).drop 4 = (beb 4 (more 0 l) ++ l).drop 4 from rfl, h2]
  simp

theorem live2_any (w : World) : Calls Try.prog 16 #[] w fun e w' => e = .returned (.bool true) ∧ Below w.heap.size w w' := by
  have hs := sv_lit w [49, 50, 51, 52, 53, 54, 55, 56, 57] 9 5 (9, 10) rfl (by omega)
  have HS := Lib.hid hs
  clear hs
  have kc := fun (w : World) (C : Array Value) (n c : Nat) => Lib.run_convert_bytes_const (P := Try.prog) w 22 5 C n c Try.underlying22 Try.underlying5
  go_enter Try.func16, Try.ntmps16
  go_wp2_with (first
    | (go_at_call 18; refine (sum_any _ [49, 50, 51, 52, 53, 54, 55, 56, 57] _ (by simp) HS.out).mono ?_; rw [live_sum]; rintro e w1 ⟨rfl, hb1⟩)
    | (go_at_call 22; refine (good_any _ [1, 0, 0, 0] _ (by simp) (sv_lit w1 [1, 0, 0, 0] 4 5 (0, 0) rfl (by omega))).mono ?_; rw [live_good]; rintro e w2 ⟨rfl, hb2⟩))
  go_ret
  have b1 : Below w.heap.size w w1 := ((Below.refl _ w).alloc (Nat.le_refl _) _).trans (hb1.mono (by simp))
  exact ⟨rfl, (b1.alloc b1.size _).trans (hb2.mono (by have := b1.size; simp; omega))⟩

theorem goods_law (v : Value) (l : List UInt8) (w : World) (hl : l.length ≤ 9223372036854775807) (hv : SV w v (bys l)) :
    Calls Try.prog 6 #[v] w fun e w' => e = .returned (.bool true) ∧ Below w.heap.size w w' := by
  have hv' := hv
  obtain ⟨A, c, rfl, h1, h2, h3, h4⟩ := hv
  rw [bys_len] at hv' h1 ⊢
  unfold maxLen at h2
  clear h4 h3
  by_cases hlen : (600 : Int) < l.length
  · go_enter Try.func6, Try.ntmps6
    go_wp2_with (go_at_call 16; refine (live2_any _).mono ?_; rintro e w1 ⟨rfl, hb⟩)
    go_ret
    exact ⟨rfl, hb⟩
  · have hgs : goodB (sealb l) = true := good_seal l
    go_enter Try.func6, Try.ntmps6
    go_wp2_with (first
      | (go_at_call 22; refine (good_any v2 (sealb l) _ (by simp; omega) (SV.own own2)).mono ?_; rw [hgs]; rintro e w3 ⟨rfl, b3⟩)
      | (go_at_call 20; refine (seal_any _ l _ (by omega) (hv'.keep (Keeps.below b1))).mono ?_; rintro e w2 ⟨v2, rfl, own2, b2⟩)
      | (go_at_call 22; refine (good_any _ l _ (by omega) hv').mono ?_; rintro e w1 ⟨rfl, b1⟩)
      | (go_at_call 23; refine (refGood_any _ l _ (by omega) (hv'.keep (Keeps.below b1))).mono ?_; rintro e w' ⟨rfl, rfl⟩)
      | (go_at_call 16; refine (live2_any _).mono ?_; rintro e w4 ⟨rfl, b4⟩))
    go_ret
    exact ⟨rfl, b1.trans ((b2.mono b1.size).trans ((b3.mono (Nat.le_trans b1.size b2.size)).trans (b4.mono (Nat.le_trans b1.size (Nat.le_trans b2.size b3.size)))))⟩

set_option maxHeartbeats 1000000 in
theorem sums_main (v u : Value) (l m : List UInt8) (w : World) (hl : l.length ≤ 600) (hm : m.length ≤ 600) (hv : SV w v (bys l)) (hu : SV w u (bys m)) :
    Calls Try.prog 5 #[v, u] w fun e w' => e = .returned (.bool true) ∧ Below w.heap.size w w' := by
  obtain ⟨i0, hi, hz0, hz1, hz2⟩ := info_parts Try.info5
  have hv' := hv
  have hu' := hu
  obtain ⟨A, c, rfl, h1, h2, h3, h4⟩ := hv
  obtain ⟨B, d, rfl, k1, k2, k3, k4⟩ := hu
  rw [bys_len] at hv' h1 hu' k1 ⊢
  rw [bys_len]
  unfold maxLen at h2 k2
  clear h4 h3 k4 k3
  have q1 : decide ((600 : Int) < l.length) = false := by simp; omega
  have q2 : decide ((600 : Int) < m.length) = false := by simp; omega
  have hs := more_lt 0 l
  have HA := Lib.hid (more_app 0 l m (by omega))
  go_enter Try.func5, Try.ntmps5
  go_wp2_with (first
    | (at_builtin; have sl : SV (w.alloc (.cells #[] 5)) (.slice A l.length c) (bys l) := hv'.keep (Keeps.alloc _ _); refine wpList_app _ rfl (.tmp 16) (.tmp 17) 22 rfl w.heap.size 5 i0 (.int .u8 0) 1 Try.underlying22 hi hz0 hz1 hz2 rfl _ [] rfl (.inl (World.ownsRow_lit w #[] 0 (Nat.le_refl _) (by decide) rfl)) _ (bys l) rfl sl (bys_one _) (by simp [maxLen]; omega) (by simp; omega) (by simp) ?_; intro v1 w1 happ1; have b1 : Below w.heap.size w w1 := ((Below.refl _ w).alloc (Nat.le_refl _) _).trans (happ1.below (by simp)); have own1 := happ1.own (.inr (World.ownsRow_lit w #[] 0 (Nat.le_refl _) (by decide) rfl)))
    | (at_builtin; have sm : SV w1 (.slice B m.length d) (bys m) := hu'.keep (Keeps.below b1); refine wpList_app _ rfl (.tmp 18) (.tmp 19) 22 rfl w.heap.size 5 i0 (.int .u8 0) 1 Try.underlying22 hi hz0 hz1 hz2 rfl v1 ([] ++ bys l) rfl (.inl own1) _ (bys m) rfl sm (bys_one _) (by simp [maxLen]; omega) (by simp; omega) b1.size ?_; intro v2 w2 happ2; have b2 : Below w.heap.size w w2 := b1.trans (happ2.below b1.size); have own2 := happ2.own (.inr own1))
    | (go_at_call 16; refine (live2_any _).mono ?_; rintro e w7 ⟨rfl, b7⟩)
    | (go_at_call 11; refine (same_any v5 v6 (sealb l) (sealb l) _ ((SV.own own5).keep (Keeps.below b6)) (SV.own own6)).mono ?_; rintro e w' ⟨rfl, rfl⟩)
    | (go_at_call 21; refine (refSeal_any _ l _ (by omega) (((((hv'.keep (Keeps.below b2)).keep (Keeps.below b3)).keep (Keeps.below b4)).keep (Keeps.below b4')).keep (Keeps.below b5))).mono ?_; rintro e w6 ⟨v6, rfl, own6, b6⟩)
    | (go_at_call 20; refine (seal_any _ l _ (by omega) ((((hv'.keep (Keeps.below b2)).keep (Keeps.below b3)).keep (Keeps.below b4)).keep (Keeps.below b4'))).mono ?_; rintro e w5 ⟨v5, rfl, own5, b5⟩)
    | (go_at_call 19; refine (more_any _ _ m _ hs (by omega) (((hu'.keep (Keeps.below b2)).keep (Keeps.below b3)).keep (Keeps.below b4))).mono ?_; rintro e w4' ⟨rfl, b4'⟩)
    | (go_at_call 18; have tok := b3; refine (sum_any v2 (l ++ m) _ (by simp; omega) ((by simpa [bys] using SV.own own2 : SV w2 v2 (bys (l ++ m))).keep (Keeps.below b3))).mono ?_; rw [HA.out]; rintro e w4 ⟨rfl, b4⟩)
    | (go_at_call 18; refine (sum_any _ l _ (by omega) (hv'.keep (Keeps.below b2))).mono ?_; rintro e w3 ⟨rfl, b3⟩)
    | (go_at_call 17; refine (refMore _ _ m _ hs (by omega) ((((hu'.keep (Keeps.below b2)).keep (Keeps.below b3)).keep (Keeps.below b4)).keep (Keeps.below b4'))).mono ?_; rintro e w' ⟨rfl, rfl⟩)
    | (go_at_call 17; refine (refMore _ _ m _ hs (by omega) (((hu'.keep (Keeps.below b2)).keep (Keeps.below b3)).keep (Keeps.below b4))).mono ?_; rintro e w' ⟨rfl, rfl⟩)
    | (go_at_call 17; refine (refMore 0 _ l _ (by omega) (by omega) (hv'.keep (Keeps.below b2))).mono ?_; rintro e w' ⟨rfl, rfl⟩))
  go_ret
  have s2 := b2.size
  have s3 := b3.size
  have s4 := b4.size
  have s4' := b4'.size
  have s5 := b5.size
  have s6 := b6.size
  exact ⟨rfl, b2.trans ((b3.mono (by omega)).trans ((b4.mono (by omega)).trans ((b4'.mono (by omega)).trans ((b5.mono (by omega)).trans ((b6.mono (by omega)).trans (b7.mono (by omega)))))))⟩

theorem sums_law (v u : Value) (l m : List UInt8) (w : World) (hl : l.length ≤ 9223372036854775807) (hm : m.length ≤ 9223372036854775807) (hv : SV w v (bys l)) (hu : SV w u (bys m)) :
    Calls Try.prog 5 #[v, u] w fun e w' => e = .returned (.bool true) ∧ Below w.heap.size w w' := by
  by_cases hlen : (600 : Int) < l.length
  · obtain ⟨A, c, rfl, h1, h2, h3, h4⟩ := hv
    obtain ⟨B, d, rfl, k1, k2, k3, k4⟩ := hu
    rw [bys_len, bys_len]
    clear h4 h3 k4 k3
    go_enter Try.func5, Try.ntmps5
    go_wp2_with (go_at_call 16; refine (live2_any _).mono ?_; rintro e w1 ⟨rfl, hb⟩)
    go_ret
    exact ⟨rfl, hb⟩
  · by_cases hlen2 : (600 : Int) < m.length
    · obtain ⟨A, c, rfl, h1, h2, h3, h4⟩ := hv
      obtain ⟨B, d, rfl, k1, k2, k3, k4⟩ := hu
      rw [bys_len, bys_len]
      clear h4 h3 k4 k3
      go_enter Try.func5, Try.ntmps5
      go_wp2_with (go_at_call 16; refine (live2_any _).mono ?_; rintro e w1 ⟨rfl, hb⟩)
      go_ret
      exact ⟨rfl, hb⟩
    · exact sums_main v u l m w (by omega) (by omega) hv hu
end Go.Proofs.Ytbhhomneddfcoaa
