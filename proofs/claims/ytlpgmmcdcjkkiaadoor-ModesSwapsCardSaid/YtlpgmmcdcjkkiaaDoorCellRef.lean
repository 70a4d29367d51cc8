/- Layer 5: contracts of the reference's functions on cells: Right, Same, Set. -/
import Derived.Test.YtlpgmmcdcjkkiaaDoorCellMath
import Derived.Test.YtlpgmmcdcjkkiaaDoorCell
import Derived.Test.YtlpgmmcdcjkkiaaDoorBeRef
import Derived.Test.YtlpgmmcdcjkkiaaDoorChecked
namespace Go.Proofs.YtlpgmmcdcjkkiaaDoor
set_option maxRecDepth 20000
open Go.RowKit

theorem right5_any (A : Option Addr) (n m : Nat) (c : Cl) (w : World) (hn : n = c.d.length) (hm : n ≤ 9223372036854775807) :
    Calls Tryd.prog 26 #[cv (.slice A n m) c] w fun e w' => e = .returned (.bool (good c)) ∧ Below w.heap.size w w' := by
  have hw := way_of c
  subst hn
  generalize good c = g at *
  obtain ⟨k, d, lo, hi, v⟩ := c
  simp only at *
  cases hw with
  | none h1 h2 =>
    simp only at *
    unfold cv
    go_enter Tryd.func26, Tryd.ntmps26
    go_wp2
    go_ret
    exact ⟨rfl, (Below.refl _ _).alloc (Nat.le_refl _) _⟩
  | long h1 h2 =>
    simp only at *
    subst h1
    have h5 : ¬ ((d.length : Int) ≤ 32) := by simp at h2; omega
    clear h2
    unfold cv
    go_enter Tryd.func26, Tryd.ntmps26
    go_wp2
    go_ret
    exact ⟨rfl, (Below.refl _ _).alloc (Nat.le_refl _) _⟩
  | lo h1 h2 h3 =>
    simp only at *
    subst h1
    unfold cv
    go_enter Tryd.func26, Tryd.ntmps26
    go_wp2
    go_ret
    exact ⟨rfl, (Below.refl _ _).alloc (Nat.le_refl _) _⟩
  | hi h1 h2 h3 h4 =>
    simp only at *
    subst h1 h3
    unfold cv
    go_enter Tryd.func26, Tryd.ntmps26
    go_wp2
    go_ret
    exact ⟨rfl, (Below.refl _ _).alloc (Nat.le_refl _) _⟩
  | val h1 h2 h3 h4 h5 =>
    simp only at *
    subst h1 h3 h4
    unfold cv
    go_enter Tryd.func26, Tryd.ntmps26
    go_wp2
    go_ret
    exact ⟨rfl, (Below.refl _ _).alloc (Nat.le_refl _) _⟩
  | record h1 h2 h3 h4 h5 =>
    simp only at *
    subst h1 h3 h4 h5
    unfold cv
    go_enter Tryd.func26, Tryd.ntmps26
    go_wp2
    go_ret
    exact ⟨rfl, (Below.refl _ _).alloc (Nat.le_refl _) _⟩
  | data h1 h2 =>
    simp only at *
    subst h1
    have h6 : ¬ d.length = 0 := by simpa using h2
    have h7 : d ≠ [] := by rintro rfl; exact h6 rfl
    clear h2
    unfold cv
    go_enter Tryd.func26, Tryd.ntmps26
    go_wp2
    go_ret
    exact ⟨rfl, (Below.refl _ _).alloc (Nat.le_refl _) _⟩
  | out h1 h2 h3 =>
    simp only at *
    subst h1
    obtain rfl := List.eq_nil_of_length_eq_zero h2
    simp only [List.length_nil] at *
    rcases inB_no h3 with h4 | ⟨h4, h5⟩
    · clear h3 h2 hm
      unfold cv
      go_enter Tryd.func26, Tryd.ntmps26
      go_wp2
      go_ret
      exact ⟨rfl, (Below.refl _ _).alloc (Nat.le_refl _) _⟩
    · clear h3 h2 hm
      unfold cv
      go_enter Tryd.func26, Tryd.ntmps26
      go_wp2
      go_ret
      exact ⟨rfl, (Below.refl _ _).alloc (Nat.le_refl _) _⟩
  | counter h1 h2 h3 =>
    simp only at *
    subst h1
    obtain rfl := List.eq_nil_of_length_eq_zero h2
    simp only [List.length_nil] at *
    obtain ⟨h4, h5⟩ := inB_yes h3
    clear h3 h2 hm
    unfold cv
    go_enter Tryd.func26, Tryd.ntmps26
    go_wp2
    go_ret
    exact ⟨rfl, (Below.refl _ _).alloc (Nat.le_refl _) _⟩

theorem rsame5_any (D E : Value) (a b : Cl) (w : World) (hD : SV w D (bys a.d)) (hE : SV w E (bys b.d)) :
    Calls Tryd.prog 39 #[cv D a, cv E b] w fun e w' => e = .returned (.bool (sameC a b)) ∧ Below w.heap.size w w' := by
  have hs := sameWay_of a b
  generalize sameC a b = s at *
  obtain ⟨k, d, lo, hi, v⟩ := a
  obtain ⟨k', d', lo', hi', v'⟩ := b
  have CE := Lib.hid (fun w' (hb : Below w.heap.size w w') => same_any D E d d' w' (hD.keep (Keeps.below hb)) (hE.keep (Keeps.below hb)))
  clear hD hE
  cases hs with
  | k h1 =>
    simp only at *
    clear CE
    unfold cv
    go_enter Tryd.func39, Tryd.ntmps39
    go_wp2_with (go_at_call 53; refine (CE.out _ (two_more (Below.refl _ _) _ _)).mono ?_; rintro e w1 ⟨rfl, rfl⟩)
    go_ret
    exact ⟨rfl, two_more (Below.refl _ _) _ _⟩
  | d h1 h2 =>
    simp only at *
    have CE := CE.out
    rw [h2] at CE
    replace CE := Lib.hid CE
    clear h2
    unfold cv
    go_enter Tryd.func39, Tryd.ntmps39
    go_wp2_with (go_at_call 53; refine (CE.out _ (two_more (Below.refl _ _) _ _)).mono ?_; rintro e w1 ⟨rfl, rfl⟩)
    go_ret
    exact ⟨rfl, two_more (Below.refl _ _) _ _⟩
  | lo h1 h2 h3 =>
    simp only at *
    have CE := CE.out
    rw [h2] at CE
    replace CE := Lib.hid CE
    clear h2
    unfold cv
    go_enter Tryd.func39, Tryd.ntmps39
    go_wp2_with (go_at_call 53; refine (CE.out _ (two_more (Below.refl _ _) _ _)).mono ?_; rintro e w1 ⟨rfl, rfl⟩)
    go_ret
    exact ⟨rfl, two_more (Below.refl _ _) _ _⟩
  | hi h1 h2 h3 h4 =>
    simp only at *
    have CE := CE.out
    rw [h2] at CE
    replace CE := Lib.hid CE
    clear h2
    unfold cv
    go_enter Tryd.func39, Tryd.ntmps39
    go_wp2_with (go_at_call 53; refine (CE.out _ (two_more (Below.refl _ _) _ _)).mono ?_; rintro e w1 ⟨rfl, rfl⟩)
    go_ret
    exact ⟨rfl, two_more (Below.refl _ _) _ _⟩
  | all h1 h2 h3 h4 x h5 =>
    simp only at *
    have CE := CE.out
    rw [h2] at CE
    replace CE := Lib.hid CE
    clear h2
    unfold cv
    go_enter Tryd.func39, Tryd.ntmps39
    go_wp2_with (go_at_call 53; refine (CE.out _ (two_more (Below.refl _ _) _ _)).mono ?_; rintro e w1 ⟨rfl, rfl⟩)
    go_ret
    exact ⟨rfl, two_more (Below.refl _ _) _ _⟩

/-- What the reference's Set hands back: its data's slice is the argument's, or nil. -/
def SetR (c : Cl) (x : Int) (w : World) (e : Ending) (w' : World) : Prop := ∃ D, e = .returned (.tuple #[cv D (stC c x), .int .i64 (stE c x)]) ∧ SV w' D (bys (stC c x).d) ∧ Below w.heap.size w w'

end Go.Proofs.YtlpgmmcdcjkkiaaDoor
