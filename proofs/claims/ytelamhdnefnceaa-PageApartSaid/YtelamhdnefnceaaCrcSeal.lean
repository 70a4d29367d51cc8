/- Contracts of layer 2's Sum, Seal and Good, and of the reference's Seal and Good. -/
import Derived.Test.YtelamhdnefnceaaBePut
import Derived.Test.YtelamhdnefnceaaCrcTab
namespace Go.Proofs.Ytelamhdnefnceaa
set_option maxRecDepth 20000
open Go.RowKit

theorem sum_any (v : Value) (l : List UInt8) (w : World) (hl : l.length ≤ 1073741824) (hv : SV w v (bys l)) :
    Calls Try.prog 59 #[v] w fun e w' => e = .returned (.int .u32 (more 0 l : Nat)) ∧ Below w.heap.size w w' := by
  go_enter Try.func59, Try.ntmps59
  go_wp2_with (go_at_call 76; refine (more_any 0 v l _ (by omega) hl hv).mono ?_; rintro e w' ⟨rfl, hb⟩)
  go_ret
  exact ⟨rfl, hb⟩

/-- Bytes with their sum ahead. -/
def sealb (l : List UInt8) : List UInt8 := beb 4 (more 0 l) ++ l
@[simp] theorem sealb_len (l : List UInt8) : (sealb l).length = 4 + l.length := by simp [sealb]

theorem seal_any (v : Value) (l : List UInt8) (w : World) (hl : l.length ≤ 1073741824) (hv : SV w v (bys l)) :
    Calls Try.prog 45 #[v] w fun e w' => ∃ v, e = .returned v ∧ w'.ownsRow w.heap.size 5 1 v (sealb l).length (bys (sealb l)) ∧ Below w.heap.size w w' := by
  obtain ⟨i0, hi, hz0, hz1, hz2⟩ := info_parts Try.info5
  have hml := more_lt 0 l
  have HU := Lib.hid (show bys (sealb l) = bys ([] ++ beb 4 (ub (more 0 l : Nat))) ++ bys l by rw [ub_nat _ (by omega)]; simp [sealb, bys])
  go_enter Try.func45, Try.ntmps45
  go_wp2_with (first
    | (go_at_call 59; refine (sum_any v l _ hl hv).mono ?_; rintro e w1 ⟨rfl, hb1⟩)
    | (go_at_call 52; refine (put_yes _ [] 4 _ _ (by simp) (SV.nil _) (by omega) (by omega)).mono ?_; rintro e w2 ⟨v2, rfl, own2, hb2⟩)
    | (at_builtin; have hvk : SV w2 v (bys l) := (hv.keep (Keeps.below hb1)).keep (Keeps.below hb2); refine wpList_app _ rfl (.tmp 6) (.tmp 7) 26 rfl w1.heap.size 5 i0 (.int .u8 0) 1 Try.underlying26 hi hz0 hz1 hz2 rfl v2 (bys ([] ++ beb 4 (ub (more 0 l : Nat)))) rfl (.inl (by simpa using own2)) v (bys l) rfl hvk (bys_one _) (by simp [maxLen]; omega) (by simp; omega) hb2.size ?_; intro v3 w3 happ))
  go_ret
  refine ⟨_, rfl, ?_, hb1.trans ((hb2.mono hb1.size).trans ((happ.below hb2.size).mono hb1.size))⟩
  have := happ.own (.inr (by simpa using own2))
  rw [← HU.out, bys_len] at this
  exact own_lower this hb1.size

theorem refSeal_any (v : Value) (l : List UInt8) (w : World) (hl : l.length ≤ 1073741824) (hv : SV w v (bys l)) :
    Calls Try.prog 48 #[v] w fun e w' => ∃ v, e = .returned v ∧ w'.ownsRow w.heap.size 5 1 v (sealb l).length (bys (sealb l)) ∧ Below w.heap.size w w' := by
  obtain ⟨i0, hi, hz0, hz1, hz2⟩ := info_parts Try.info5
  have hml := more_lt 0 l
  have HU := Lib.hid (show bys (sealb l) = bys (beb 4 (ub (more 0 l : Nat))) ++ bys l by rw [ub_nat _ (by omega)]; simp [sealb, bys])
  go_enter Try.func48, Try.ntmps48
  go_wp2_with (first
    | (go_at_call 60; refine (refMore 0 v l _ (by omega) hl hv).mono ?_; rintro e w1 ⟨rfl, rfl⟩)
    | (go_at_call 21; refine (refBytes 4 _ _ (by omega)).mono ?_; rintro e w2 ⟨v2, rfl, own2, hb2⟩)
    | (at_builtin; have hvk : SV w2 v (bys l) := hv.keep (Keeps.below hb2); refine wpList_app _ rfl (.tmp 6) (.tmp 7) 26 rfl w.heap.size 5 i0 (.int .u8 0) 1 Try.underlying26 hi hz0 hz1 hz2 rfl v2 (bys (beb 4 (ub (more 0 l : Nat)))) rfl (.inl (by simpa using own2)) v (bys l) rfl hvk (bys_one _) (by simp [maxLen]; omega) (by simp; omega) hb2.size ?_; intro v3 w3 happ))
  go_ret
  refine ⟨_, rfl, ?_, hb2.trans (happ.below hb2.size)⟩
  have := happ.own (.inr (by simpa using own2))
  rwa [← HU.out, bys_len] at this

/-- Do bytes agree with the sum ahead of them? -/
def goodB (l : List UInt8) : Bool := decide (4 ≤ l.length) && (((numOf (l.take 4) : Nat) : Int) == ((more 0 (l.drop 4) : Nat) : Int))
theorem numOf_lt (l : List UInt8) : numOf l < 256 ^ l.length := by
  have h : ∀ k (l : List UInt8), l.length = k → numOf l < 256 ^ k := by
    intro k
    induction k with
    | zero => intro l hl; rw [List.eq_nil_of_length_eq_zero hl]; simp [numOf]
    | succ k ih =>
      intro l hl
      obtain ⟨l', b, rfl⟩ : ∃ l' b, l = l' ++ [b] := ⟨l.dropLast, l.getLast (by rintro rfl; simp at hl), (List.dropLast_concat_getLast _).symm⟩
      have h1 := ih l' (by simpa using hl)
      have h2 := u8_nat_lt b
      rw [numOf_snoc, Nat.pow_succ]
      omega
  exact h _ l rfl
theorem num4 (l : List UInt8) (h : 4 ≤ l.length) : ∃ N : Nat, wrap64 (numOf ((l.drop 0).take 4)) = (N : Int) ∧ N = numOf (l.take 4) ∧ N < 4294967296 := by
  have h1 := numOf_lt (l.take 4)
  rw [List.length_take, Nat.min_eq_left h] at h1
  simp only [Nat.reducePow] at h1
  exact ⟨_, by rw [List.drop_zero]; unfold wrap64; omega, rfl, h1⟩

theorem SV.cut4 {w : World} {A : Option Addr} {c : Nat} {l : List UInt8} (h : SV w (.slice A l.length c) (bys l)) (h4 : 4 ≤ l.length) :
    ∃ b off, A = some ⟨b, off, none⟩ ∧ (c = 4 ∧ SV w (.slice (some ⟨b, off, none⟩) 0 0) (bys (l.drop 4)) ∨ c ≠ 4 ∧ SV w (.slice (some ⟨b, off + 4, none⟩) (l.length - 4) (c - 4)) (bys (l.drop 4))) := by
  have hc := h.cut 4 h4
  obtain ⟨A', c', e, h1, h2, h3, h4'⟩ := h
  injection e with e1 _ e3
  subst e1 e3
  obtain ⟨b, off, rfl, _⟩ := h4' (bys_ne (by omega))
  refine ⟨b, off, rfl, ?_⟩
  by_cases hck : c = 4
  · rw [if_pos hck] at hc
    subst hck
    rw [bys_len] at h1
    rw [show l.length - 4 = 0 by omega] at hc
    exact .inl ⟨rfl, hc⟩
  · rw [if_neg hck] at hc
    exact .inr ⟨hck, by simpa [Addr.add_lit] using hc⟩

theorem good_any (v : Value) (l : List UInt8) (w : World) (hl : l.length ≤ 1073741824) (hv : SV w v (bys l)) :
    Calls Try.prog 47 #[v] w fun e w' => e = .returned (.bool (goodB l)) ∧ Below w.heap.size w w' := by
  have hv' := hv
  obtain ⟨A, c, rfl, h1, h2, h3, h4⟩ := hv
  rw [bys_len] at hv' h1 ⊢
  unfold maxLen at h2
  clear h4 h3
  by_cases h : 4 ≤ l.length
  · obtain ⟨b, off, rfl, hcut⟩ := hv'.cut4 h
    obtain ⟨N, hN, hN2, hN3⟩ := num4 l h
    have HG := Lib.hid (show goodB l = (((N : Nat) : Int) == ((more 0 (l.drop 4) : Nat) : Int)) by unfold goodB; rw [decide_eq_true h, Bool.true_and, hN2])
    have HN := Lib.hid hN
    clear hN hN2
    have hml := more_lt 0 (l.drop 4)
    rcases hcut with ⟨hc, hcut⟩ | ⟨hc, hcut⟩
    · subst hc
      have HC := Lib.hid hcut
      clear hcut
      go_enter Try.func47, Try.ntmps47
      go_wp2_with (first
        | (go_at_call 50; refine (num_yes _ l 0 4 _ hl hv' (by omega) (by omega) (by omega)).mono ?_; rw [HN.out]; rintro e w1 ⟨rfl, rfl⟩)
        | (go_at_call 59; refine (sum_any _ (l.drop 4) _ (by rw [List.length_drop]; omega) HC.out).mono ?_; rintro e w1 ⟨rfl, hb1⟩))
      go_ret
      exact ⟨ret_bool HG.out.symm, hb1⟩
    · have HC := Lib.hid hcut
      clear hcut
      go_enter Try.func47, Try.ntmps47
      go_wp2_with (first
        | (go_at_call 50; refine (num_yes _ l 0 4 _ hl hv' (by omega) (by omega) (by omega)).mono ?_; rw [HN.out]; rintro e w1 ⟨rfl, rfl⟩)
        | (go_at_call 59; refine (sum_any _ (l.drop 4) _ (by rw [List.length_drop]; omega) HC.out).mono ?_; rintro e w1 ⟨rfl, hb1⟩))
      go_ret
      exact ⟨ret_bool HG.out.symm, hb1⟩
  · have hng : goodB l = false := by unfold goodB; rw [decide_eq_false h]; rfl
    have hni : ¬ isAt l.length 0 4 := by unfold isAt; omega
    rw [hng]
    clear hng
    go_enter Try.func47, Try.ntmps47
    go_wp2_with (go_at_call 50; refine (num_no _ l 0 4 _ hl hv' hni).mono ?_; rintro e w1 ⟨rfl, rfl⟩)
    go_ret
    exact ⟨rfl, Below.refl _ _⟩

theorem refGood_any (v : Value) (l : List UInt8) (w : World) (hl : l.length ≤ 1073741824) (hv : SV w v (bys l)) :
    Calls Try.prog 49 #[v] w fun e w' => e = .returned (.bool (goodB l)) ∧ w = w' := by
  have hv' := hv
  obtain ⟨A, c, rfl, h1, h2, h3, h4⟩ := hv
  rw [bys_len] at hv' h1 ⊢
  unfold maxLen at h2
  clear h4 h3
  by_cases h : 4 ≤ l.length
  · obtain ⟨b, off, rfl, hcut⟩ := hv'.cut4 h
    obtain ⟨N, hN, hN2, hN3⟩ := num4 l h
    have HG := Lib.hid (show goodB l = (((N : Nat) : Int) == ((more 0 (l.drop 4) : Nat) : Int)) by unfold goodB; rw [decide_eq_true h, Bool.true_and, hN2])
    have HN := Lib.hid hN
    clear hN hN2
    have hml := more_lt 0 (l.drop 4)
    rcases hcut with ⟨hc, hcut⟩ | ⟨hc, hcut⟩
    · subst hc
      have HC := Lib.hid hcut
      clear hcut
      go_enter Try.func49, Try.ntmps49
      go_wp2_with (first
        | (go_at_call 51; refine (at_yes _ l 0 4 _ hl hv' (by omega) (by omega) (by omega)).mono ?_; rw [HN.out]; rintro e w1 ⟨rfl, rfl⟩)
        | (go_at_call 60; refine (refMore 0 _ (l.drop 4) _ (by omega) (by rw [List.length_drop]; omega) HC.out).mono ?_; rintro e w1 ⟨rfl, rfl⟩))
      go_ret
      exact ⟨ret_bool HG.out.symm, rfl⟩
    · have HC := Lib.hid hcut
      clear hcut
      go_enter Try.func49, Try.ntmps49
      go_wp2_with (first
        | (go_at_call 51; refine (at_yes _ l 0 4 _ hl hv' (by omega) (by omega) (by omega)).mono ?_; rw [HN.out]; rintro e w1 ⟨rfl, rfl⟩)
        | (go_at_call 60; refine (refMore 0 _ (l.drop 4) _ (by omega) (by rw [List.length_drop]; omega) HC.out).mono ?_; rintro e w1 ⟨rfl, rfl⟩))
      go_ret
      exact ⟨ret_bool HG.out.symm, rfl⟩
  · have hng : goodB l = false := by unfold goodB; rw [decide_eq_false h]; rfl
    rw [hng]
    clear hng
    go_enter Try.func49, Try.ntmps49
    go_wp2
    go_ret
    exact ⟨rfl, rfl⟩
end Go.Proofs.Ytelamhdnefnceaa
