/- The reference's Good, Exact and Plain. -/
import Derived.Test.YtlpgmmcdcjkkiaaDoorModelRef3
namespace Go.Proofs.YtlpgmmcdcjkkiaaDoor
set_option maxRecDepth 20000
open Go.RowKit Go.Sort

/-- A key that may be: the fields decide. -/
theorem rgood9_key (A : Option Addr) (c : Nat) (x : Ox) (w : World) (hk : x.k.length ≤ 9223372036854775807) (h0 : 0 ≤ x.d) (h5 : x.d ≤ 5) (hy : isKey x.k = true) :
    Calls Tryd.prog 49 #[ov (.slice A x.b.length c) x] w fun e w' => e = .returned (.bool (fitX x)) ∧ Below w.heap.size w w' := by
  obtain ⟨d, k, b, lo, hi, v⟩ := x
  simp only at hk h0 h5 hy ⊢
  have CK := fun w => right_any ⟨k.toArray⟩ w (by show k.toArray.size ≤ _; simpa using hk)
  rw [show (⟨k.toArray⟩ : ByteArray).data.toList = k from rfl, hy] at CK
  replace CK := Lib.hid CK
  clear hk hy
  have hd : d = 0 ∨ d = 1 ∨ d = 2 ∨ d = 3 ∨ d = 4 ∨ d = 5 := by omega
  clear h0 h5
  rcases hd with rfl | rfl | rfl | rfl | rfl | rfl
  · skip
    unfold ov kst
    dsimp only
    go_enter Tryd.func49, Tryd.ntmps49
    go_wp2_with (go_at_call 25; refine (CK.out _).mono ?_; rintro e w1 ⟨rfl, rfl⟩)
    go_ret
    exact ⟨by simp [fitX], (Below.refl _ _).alloc (Nat.le_refl _) _⟩
  · have hf := Lib.hid (show fitX ⟨1, k, b, lo, hi, v⟩ = decide ((b.length : Int) ≤ 32) by
      have : ((b.length : Int) ≤ 32) ↔ b.length ≤ 32 := by omega
      simp [fitX, this])
    rw [hf.out]
    clear hf
    unfold ov kst
    dsimp only
    go_enter Tryd.func49, Tryd.ntmps49
    go_wp2_with (go_at_call 25; refine (CK.out _).mono ?_; rintro e w1 ⟨rfl, rfl⟩)
    go_ret
    exact ⟨rfl, (Below.refl _ _).alloc (Nat.le_refl _) _⟩
  · have hf := Lib.hid (show fitX ⟨2, k, b, lo, hi, v⟩ = (decide (lo ≤ v) && decide (v ≤ hi)) by simp [fitX, inB])
    rw [hf.out]
    clear hf
    by_cases hl : lo ≤ v
    · skip
      unfold ov kst
      dsimp only
      go_enter Tryd.func49, Tryd.ntmps49
      go_wp2_with (go_at_call 25; refine (CK.out _).mono ?_; rintro e w1 ⟨rfl, rfl⟩)
      go_ret
      exact ⟨by simp [hl], (Below.refl _ _).alloc (Nat.le_refl _) _⟩
    · skip
      unfold ov kst
      dsimp only
      go_enter Tryd.func49, Tryd.ntmps49
      go_wp2_with (go_at_call 25; refine (CK.out _).mono ?_; rintro e w1 ⟨rfl, rfl⟩)
      go_ret
      exact ⟨by simp [show ¬ lo ≤ v by omega], (Below.refl _ _).alloc (Nat.le_refl _) _⟩
  · skip
    unfold ov kst
    dsimp only
    go_enter Tryd.func49, Tryd.ntmps49
    go_wp2_with (go_at_call 25; refine (CK.out _).mono ?_; rintro e w1 ⟨rfl, rfl⟩)
    go_ret
    exact ⟨by simp [fitX], (Below.refl _ _).alloc (Nat.le_refl _) _⟩
  · skip
    unfold ov kst
    dsimp only
    go_enter Tryd.func49, Tryd.ntmps49
    go_wp2_with (go_at_call 25; refine (CK.out _).mono ?_; rintro e w1 ⟨rfl, rfl⟩)
    go_ret
    exact ⟨by simp [fitX], (Below.refl _ _).alloc (Nat.le_refl _) _⟩
  · skip
    unfold ov kst
    dsimp only
    go_enter Tryd.func49, Tryd.ntmps49
    go_wp2_with (go_at_call 25; refine (CK.out _).mono ?_; rintro e w1 ⟨rfl, rfl⟩)
    go_ret
    exact ⟨by simp [fitX], (Below.refl _ _).alloc (Nat.le_refl _) _⟩
theorem rgood9_any (A : Option Addr) (c : Nat) (x : Ox) (w : World) (hk : x.k.length ≤ 9223372036854775807) :
    Calls Tryd.prog 49 #[ov (.slice A x.b.length c) x] w fun e w' => e = .returned (.bool (goodX x)) ∧ Below w.heap.size w w' := by
  by_cases h0 : x.d < 0
  · have hf := Lib.hid (show goodX x = false by simp [goodX]; intro h; omega)
    rw [hf.out]
    clear hf
    have CK : Hid True := Lib.hid trivial
    obtain ⟨d, k, b, lo, hi, v⟩ := x
    simp only at h0 hk ⊢
    unfold ov kst
    dsimp only
    go_enter Tryd.func49, Tryd.ntmps49
    go_wp2
    go_ret
    exact ⟨rfl, (Below.refl _ _).alloc (Nat.le_refl _) _⟩
  · by_cases h5 : 5 < x.d
    · have hf := Lib.hid (show goodX x = false by simp [goodX]; intro _ h; omega)
      rw [hf.out]
      clear hf
      obtain ⟨d, k, b, lo, hi, v⟩ := x
      simp only at h0 h5 hk ⊢
      unfold ov kst
      dsimp only
      go_enter Tryd.func49, Tryd.ntmps49
      go_wp2
      go_ret
      exact ⟨rfl, (Below.refl _ _).alloc (Nat.le_refl _) _⟩
    · cases hy : isKey x.k with
      | true =>
        have hg : goodX x = fitX x := by
          have a : 0 ≤ x.d := by omega
          have b : x.d ≤ 5 := by omega
          simp [goodX, hy, a, b]
        rw [hg]
        exact rgood9_key A c x w hk (by omega) (by omega) hy
      | false =>
        have hf := Lib.hid (show goodX x = false by simp [goodX, hy])
        rw [hf.out]
        clear hf
        obtain ⟨d, k, b, lo, hi, v⟩ := x
        simp only at h0 h5 hk hy ⊢
        have CK := fun w => right_any ⟨k.toArray⟩ w (by show k.toArray.size ≤ _; simpa using hk)
        rw [show (⟨k.toArray⟩ : ByteArray).data.toList = k from rfl, hy] at CK
        replace CK := Lib.hid CK
        clear hk hy
        unfold ov kst
        dsimp only
        go_enter Tryd.func49, Tryd.ntmps49
        go_wp2_with (go_at_call 25; refine (CK.out _).mono ?_; rintro e w1 ⟨rfl, rfl⟩)
        go_ret
        exact ⟨rfl, (Below.refl _ _).alloc (Nat.le_refl _) _⟩
end Go.Proofs.YtlpgmmcdcjkkiaaDoor
