/- Layer 6: contracts of the program's Same and Check. -/
import Derived.Test.YtelamhdnefnceaaSlotMath
import Derived.Test.YtelamhdnefnceaaArr
import Derived.Test.YtelamhdnefnceaaCell
import Derived.Test.YtelamhdnefnceaaCellRef
import Derived.Test.YtelamhdnefnceaaKey
import Derived.Test.YtelamhdnefnceaaChecked
namespace Go.Proofs.Ytelamhdnefnceaa
set_option maxRecDepth 20000
open Go.RowKit Go.Sort

/-- An item as a value; D: its data's slice. -/
def iv (D : Value) (x : It) : Value := .agg #[.int .i64 x.s, .string ⟨x.k.toArray⟩, .int .i64 x.c.k, D, .int .i64 x.c.lo, .int .i64 x.c.hi, .int .i64 x.c.v]

theorem kcheck (k : List UInt8) (w : World) (h : k.length ≤ 9223372036854775807) : Calls Try.prog 72 #[.string ⟨k.toArray⟩] w fun e w' => e = .returned (.int .i64 (ckI k)) ∧ Below w.heap.size w w' := by
  have := check_any ⟨k.toArray⟩ w (by simpa [ByteArray.size] using h)
  simpa using this
theorem kright (k : List UInt8) (w : World) (h : k.length ≤ 9223372036854775807) : Calls Try.prog 69 #[.string ⟨k.toArray⟩] w fun e w' => e = .returned (.bool (isKey k)) ∧ w = w' := by
  have := right_any ⟨k.toArray⟩ w (by simpa [ByteArray.size] using h)
  simpa using this

theorem isame_any (D E : Value) (a b : It) (w : World) (hD : SV w D (bys a.c.d)) (hE : SV w E (bys b.c.d)) :
    Calls Try.prog 71 #[iv D a, iv E b] w fun e w' => e = .returned (.bool (sameI a b)) ∧ Below w.heap.size w w' := by
  have hs := isame_of a b
  generalize sameI a b = s at *
  have CS := fun w' (hb : Below w.heap.size w w') => csame_any D E a.c b.c w' (hD.keep (Keeps.below hb)) (hE.keep (Keeps.below hb))
  clear hD hE
  obtain ⟨st, k, c⟩ := a
  obtain ⟨st', k', c'⟩ := b
  cases hs with
  | s h1 =>
    simp only at *
    clear CS
    obtain ⟨kd, d, lo, hi, v⟩ := c
    obtain ⟨kd', d', lo', hi', v'⟩ := c'
    unfold iv
    go_enter Try.func71, Try.ntmps71
    go_wp2
    go_ret
    exact ⟨rfl, two_more (Below.refl _ _) _ _⟩
  | k h1 h2 =>
    simp only at *
    clear CS
    obtain ⟨kd, d, lo, hi, v⟩ := c
    obtain ⟨kd', d', lo', hi', v'⟩ := c'
    unfold iv
    go_enter Try.func71, Try.ntmps71
    go_wp2
    go_ret
    exact ⟨rfl, two_more (Below.refl _ _) _ _⟩
  | c h1 h2 x h3 =>
    simp only at *
    rw [h3] at CS
    replace CS := Lib.hid CS
    clear h3
    obtain ⟨kd, d, lo, hi, v⟩ := c
    obtain ⟨kd', d', lo', hi', v'⟩ := c'
    unfold iv
    unfold cv at CS
    go_enter Try.func71, Try.ntmps71
    go_wp2_with (first
      | (go_at_call 82; refine (CS.out _ (two_more (Below.refl _ _) _ _)).mono ?_; rintro e w1 ⟨rfl, b1⟩)
      | (refine wpList_load_midg rfl 35 (.tmp 18) rfl (w.heap.size) 2 rfl [.int .i64 kd, D, .int .i64 lo, .int .i64 hi, .int .i64 v] _ (((Whole.made w _ _).later _).mid 2 5 rfl) Try.underlying35 rfl (by kernel_rfl) ?_)
      | (refine wpList_load_midg rfl 35 (.tmp 20) rfl (w.heap.size + 1) 2 rfl [.int .i64 kd', E, .int .i64 lo', .int .i64 hi', .int .i64 v'] _ ((Whole.second w _ _ _).mid 2 5 rfl) Try.underlying35 rfl (by kernel_rfl) ?_))
    go_ret
    exact ⟨rfl, bthen (two_more (Below.refl _ _) _ _) b1⟩

theorem icheck_any (A : Option Addr) (n m : Nat) (x : It) (w : World) (hD : SV w (.slice A n m) (bys x.c.d)) (hn : n ≤ 1000000) (hk : x.k.length ≤ 1000000) :
    Calls Try.prog 56 #[iv (.slice A n m) x] w fun e w' => e = .returned (.int .i64 (ckI6 x)) ∧ Below w.heap.size w w' := by
  have hw := iway_of x
  have hn' : n = x.c.d.length := by have := hD.bd.1; simpa using this
  unfold ckI6
  generalize goodI x = g at *
  cases hw with
  | zero h b hb =>
    have CS := fun w' (hb : Below w.heap.size w w') => isame_any (.slice A n m) (.slice none 0 0) x zeroI w' (hD.keep (Keeps.below hb)) (SV.nil _)
    rw [hb] at CS
    replace CS := Lib.hid CS
    clear hb hn' hD
    obtain ⟨st, k, kd, d, lo, hi, v⟩ := x
    simp only at h
    subst h
    unfold iv zeroI zeroC at CS
    unfold iv
    simp only at *
    cases g
    all_goals
      simp only [if_true, Bool.false_eq_true, if_false]
      go_enter Try.func56, Try.ntmps56
      go_wp2_with (first
        | (refine wpList_load_row rfl _ _ rfl (w.heap.size) rfl _ _ _ _ (Whole.made w _ _) Try.underlying37 rfl (by kernel_rfl) ?_)
        | (go_at_call 71; refine (CS.out _ ((Below.refl _ _).alloc (Nat.le_refl _) _)).mono ?_; rintro e w1 ⟨rfl, b1⟩))
      go_ret
      exact ⟨rfl, ((Below.refl w.heap.size w).alloc (Nat.le_refl _) _).trans (b1.mono (by simp))⟩
  | none h0 h1 h2 =>
    clear hD hn'
    obtain ⟨st, k, kd, d, lo, hi, v⟩ := x
    simp only at *
    unfold iv
    go_enter Try.func56, Try.ntmps56
    go_wp2
    go_ret
    exact ⟨rfl, (Below.refl _ _).alloc (Nat.le_refl _) _⟩
  | key h hk' =>
    have CK := fun w => kcheck x.k w (by omega)
    rw [ckI_no hk'] at CK
    replace CK := Lib.hid CK
    clear hD hn' hk'
    obtain ⟨st, k, kd, d, lo, hi, v⟩ := x
    simp only at *
    unfold iv
    rcases h with rfl | rfl
    all_goals
      go_enter Try.func56, Try.ntmps56
      go_wp2_with (go_at_call 72; refine (CK.out _).mono ?_; rintro e w1 ⟨rfl, b1⟩)
      go_ret
      exact ⟨rfl, ((Below.refl w.heap.size w).alloc (Nat.le_refl _) _).trans (b1.mono (by simp))⟩
  | cell h hk' b hc =>
    have CK := fun w => kcheck x.k w (by omega)
    rw [ckI_yes hk'] at CK
    replace CK := Lib.hid CK
    have CC := fun w => check5_any A n m x.c w hn' (by omega)
    unfold ckC at CC
    rw [hc] at CC
    replace CC := Lib.hid CC
    clear hD hn' hk' hc
    obtain ⟨st, k, kd, d, lo, hi, v⟩ := x
    simp only at *
    unfold iv
    unfold cv at CC
    simp only at CC ⊢
    cases g
    all_goals
      simp only [if_true, Bool.false_eq_true, if_false] at CC ⊢
      rcases h with rfl | rfl
      all_goals
        go_enter Try.func56, Try.ntmps56
        go_wp2_with (first
          | (go_at_call 73; refine (CC.out _).mono ?_; rintro e w2 ⟨rfl, b2⟩)
          | (go_at_call 72; refine (CK.out _).mono ?_; rintro e w1 ⟨rfl, b1⟩; have p1 := (Whole.made w _ _).on b1)
          | (refine wpList_load_midg rfl 35 (.tmp 18) rfl (w.heap.size) 2 rfl [.int .i64 kd, .slice A n m, .int .i64 lo, .int .i64 hi, .int .i64 v] _ (p1.mid 2 5 rfl) Try.underlying35 rfl (by kernel_rfl) ?_)
          | (refine wpList_load_midg rfl 35 (.tmp 19) rfl (w.heap.size) 2 rfl [.int .i64 kd, .slice A n m, .int .i64 lo, .int .i64 hi, .int .i64 v] _ (p1.mid 2 5 rfl) Try.underlying35 rfl (by kernel_rfl) ?_))
        go_ret
        exact ⟨rfl, (((Below.refl w.heap.size w).alloc (Nat.le_refl _) _).trans (b1.mono (by simp))).trans (b2.mono (by have := b1.size; simp at this; omega))⟩
end Go.Proofs.Ytelamhdnefnceaa
