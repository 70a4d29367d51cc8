/- Layer 5: contracts of the program's functions on cells that make no bytes: within, Check, Same, Set. -/
import Derived.Test.YtlpgmmcdcjkkiaaDoorCellMath
import Derived.Test.YtlpgmmcdcjkkiaaDoorFacts
import Derived.Test.YtlpgmmcdcjkkiaaDoorChecked
namespace Go.Proofs.YtlpgmmcdcjkkiaaDoor
set_option maxRecDepth 20000
open Go.RowKit

theorem within_any (D : Value) (c : Cl) (x : Int) (w : World) :
    Calls Tryd.prog 92 #[cv D c, .int .i64 x] w fun e w' => e = .returned (.bool (inB c.lo c.hi x)) ∧ Below w.heap.size w w' := by
  have hx : inB c.lo c.hi x = true ∨ inB c.lo c.hi x = false := by cases inB c.lo c.hi x <;> simp
  rcases hx with hx | hx
  · obtain ⟨h1, h2⟩ := inB_yes hx
    rw [hx]
    clear hx
    unfold cv
    go_enter Tryd.func92, Tryd.ntmps92
    go_wp2
    go_ret
    exact ⟨rfl, (Below.refl _ _).alloc (Nat.le_refl _) _⟩
  · rcases inB_no hx with h1 | ⟨h1, h2⟩
    all_goals
      rw [hx]
      clear hx
      unfold cv
      go_enter Tryd.func92, Tryd.ntmps92
      go_wp2
      go_ret
      exact ⟨rfl, (Below.refl _ _).alloc (Nat.le_refl _) _⟩

theorem check5_any (A : Option Addr) (n m : Nat) (c : Cl) (w : World) (hn : n = c.d.length) (hm : n ≤ 9223372036854775807) :
    Calls Tryd.prog 83 #[cv (.slice A n m) c] w fun e w' => e = .returned (.int .i64 (ckC c)) ∧ Below w.heap.size w w' := by
  have hw := way_of c
  have E : ckC c = if good c then 0 else 1 := rfl
  rw [E]
  clear E
  have CW := Lib.hid (fun w => within_any (.slice A n m) c c.v w)
  subst hn
  generalize good c = g at *
  obtain ⟨k, d, lo, hi, v⟩ := c
  simp only at *
  cases hw with
  | none h1 h2 =>
    simp only at *
    unfold cv
    go_enter Tryd.func83, Tryd.ntmps83
    go_wp2
    go_ret
    exact ⟨rfl, (Below.refl _ _).alloc (Nat.le_refl _) _⟩
  | long h1 h2 =>
    simp only at *
    subst h1
    by_cases h3 : lo = 0
    · have h3' : (lo != 0) = false := by simp [h3]
      by_cases h4 : hi = 0
      · have h4' : (hi != 0) = false := by simp [h4]
        have h5 : ¬ ((d.length : Int) ≤ 32) := by simp at h2; omega
        clear h2 h3 h4 CW
        unfold cv
        go_enter Tryd.func83, Tryd.ntmps83
        go_wp2
        go_ret
        exact ⟨rfl, (Below.refl _ _).alloc (Nat.le_refl _) _⟩
      · have h4' : (hi != 0) = true := by simp [h4]
        clear h2 h3 h4 CW
        unfold cv
        go_enter Tryd.func83, Tryd.ntmps83
        go_wp2
        go_ret
        exact ⟨rfl, (Below.refl _ _).alloc (Nat.le_refl _) _⟩
    · have h3' : (lo != 0) = true := by simp [h3]
      clear h2 h3 CW
      unfold cv
      go_enter Tryd.func83, Tryd.ntmps83
      go_wp2
      go_ret
      exact ⟨rfl, (Below.refl _ _).alloc (Nat.le_refl _) _⟩
  | lo h1 h2 h3 =>
    simp only at *
    subst h1
    have h3' : (lo != 0) = true := by simpa using h3
    clear h2 h3 CW
    unfold cv
    go_enter Tryd.func83, Tryd.ntmps83
    go_wp2
    go_ret
    exact ⟨rfl, (Below.refl _ _).alloc (Nat.le_refl _) _⟩
  | hi h1 h2 h3 h4 =>
    simp only at *
    subst h1 h3
    have h4' : (hi != 0) = true := by simpa using h4
    clear h2 h4 CW
    unfold cv
    go_enter Tryd.func83, Tryd.ntmps83
    go_wp2
    go_ret
    exact ⟨rfl, (Below.refl _ _).alloc (Nat.le_refl _) _⟩
  | val h1 h2 h3 h4 h5 =>
    simp only at *
    subst h1 h3 h4
    have h6 : inB 0 0 v = false := by simp [inB]; simp at h5; omega
    rw [h6] at CW
    clear h5 h6
    unfold cv at CW ⊢
    go_enter Tryd.func83, Tryd.ntmps83
    go_wp2_with (first
      | (go_at_call 92; refine (CW.out _).mono ?_; rintro e w1 ⟨rfl, b1⟩)
      | (refine wpList_load_row rfl _ _ rfl (w.heap.size) rfl _ _ _ _ (Whole.made w _ _) Tryd.underlying36 rfl (by kernel_rfl) ?_))
    go_ret
    exact ⟨rfl, ((Below.refl w.heap.size w).alloc (Nat.le_refl _) _).trans (b1.mono (by simp))⟩
  | record h1 h2 h3 h4 h5 =>
    simp only at *
    subst h1 h3 h4 h5
    have h6 : inB 0 0 0 = true := rfl
    rw [h6] at CW
    clear h6
    unfold cv at CW ⊢
    go_enter Tryd.func83, Tryd.ntmps83
    go_wp2_with (first
      | (go_at_call 92; refine (CW.out _).mono ?_; rintro e w1 ⟨rfl, b1⟩)
      | (refine wpList_load_row rfl _ _ rfl (w.heap.size) rfl _ _ _ _ (Whole.made w _ _) Tryd.underlying36 rfl (by kernel_rfl) ?_))
    go_ret
    exact ⟨rfl, ((Below.refl w.heap.size w).alloc (Nat.le_refl _) _).trans (b1.mono (by simp))⟩
  | data h1 h2 =>
    simp only at *
    subst h1
    have h5 : ¬ ((d.length : Int) ≤ 0) := by simp at h2; have := List.length_pos_iff.2 h2; omega
    have h6 : ¬ d.length = 0 := by omega
    have h7 : d ≠ [] := by rintro rfl; exact h6 rfl
    clear h2 CW
    unfold cv
    go_enter Tryd.func83, Tryd.ntmps83
    go_wp2
    go_ret
    exact ⟨rfl, (Below.refl _ _).alloc (Nat.le_refl _) _⟩
  | out h1 h2 h3 =>
    simp only at *
    subst h1
    obtain rfl := List.eq_nil_of_length_eq_zero h2
    rw [h3] at CW
    simp only [List.length_nil] at CW ⊢
    clear h2 h3 hm
    unfold cv at CW ⊢
    go_enter Tryd.func83, Tryd.ntmps83
    go_wp2_with (first
      | (go_at_call 92; refine (CW.out _).mono ?_; rintro e w1 ⟨rfl, b1⟩)
      | (refine wpList_load_row rfl _ _ rfl (w.heap.size) rfl _ _ _ _ (Whole.made w _ _) Tryd.underlying36 rfl (by kernel_rfl) ?_))
    go_ret
    exact ⟨rfl, ((Below.refl w.heap.size w).alloc (Nat.le_refl _) _).trans (b1.mono (by simp))⟩
  | counter h1 h2 h3 =>
    simp only at *
    subst h1
    obtain rfl := List.eq_nil_of_length_eq_zero h2
    rw [h3] at CW
    simp only [List.length_nil] at CW ⊢
    clear h2 h3 hm
    unfold cv at CW ⊢
    go_enter Tryd.func83, Tryd.ntmps83
    go_wp2_with (first
      | (go_at_call 92; refine (CW.out _).mono ?_; rintro e w1 ⟨rfl, b1⟩)
      | (refine wpList_load_row rfl _ _ rfl (w.heap.size) rfl _ _ _ _ (Whole.made w _ _) Tryd.underlying36 rfl (by kernel_rfl) ?_))
    go_ret
    exact ⟨rfl, ((Below.refl w.heap.size w).alloc (Nat.le_refl _) _).trans (b1.mono (by simp))⟩

theorem bequal_any (v u : Value) (l m : List UInt8) (w : World) (hv : SV w v (bys l)) (hu : SV w u (bys m)) :
    Calls Tryd.prog 48 #[v, u] w fun e w' => e = .returned (.bool (l == m)) ∧ w = w' := by
  have c1 := run_bytes_string (P := Tryd.prog) hv 22 5 Tryd.underlying22 Tryd.underlying5 9 Tryd.underlying9
  have c2 := run_bytes_string (P := Tryd.prog) hu 22 5 Tryd.underlying22 Tryd.underlying5 9 Tryd.underlying9
  clear hv hu
  go_enter Tryd.func48, Tryd.ntmps48
  go_wp2
  go_ret
  exact ⟨rfl, rfl⟩

theorem csame_any (D E : Value) (a b : Cl) (w : World) (hD : SV w D (bys a.d)) (hE : SV w E (bys b.d)) :
    Calls Tryd.prog 37 #[cv D a, cv E b] w fun e w' => e = .returned (.bool (sameC a b)) ∧ Below w.heap.size w w' := by
  have hs := sameWay_of a b
  generalize sameC a b = s at *
  obtain ⟨k, d, lo, hi, v⟩ := a
  obtain ⟨k', d', lo', hi', v'⟩ := b
  have CE := Lib.hid (fun w' (hb : Below w.heap.size w w') => bequal_any D E d d' w' (hD.keep (Keeps.below hb)) (hE.keep (Keeps.below hb)))
  clear hD hE
  cases hs with
  | k h1 =>
    simp only at *
    clear CE
    unfold cv
    go_enter Tryd.func37, Tryd.ntmps37
    go_wp2_with (go_at_call 48; refine (CE.out _ (two_more (Below.refl _ _) _ _)).mono ?_; rintro e w1 ⟨rfl, rfl⟩)
    go_ret
    exact ⟨rfl, two_more (Below.refl _ _) _ _⟩
  | d h1 h2 =>
    simp only at *
    have CE := CE.out
    rw [h2] at CE
    replace CE := Lib.hid CE
    clear h2
    unfold cv
    go_enter Tryd.func37, Tryd.ntmps37
    go_wp2_with (go_at_call 48; refine (CE.out _ (two_more (Below.refl _ _) _ _)).mono ?_; rintro e w1 ⟨rfl, rfl⟩)
    go_ret
    exact ⟨rfl, two_more (Below.refl _ _) _ _⟩
  | lo h1 h2 h3 =>
    simp only at *
    have CE := CE.out
    rw [h2] at CE
    replace CE := Lib.hid CE
    clear h2
    unfold cv
    go_enter Tryd.func37, Tryd.ntmps37
    go_wp2_with (go_at_call 48; refine (CE.out _ (two_more (Below.refl _ _) _ _)).mono ?_; rintro e w1 ⟨rfl, rfl⟩)
    go_ret
    exact ⟨rfl, two_more (Below.refl _ _) _ _⟩
  | hi h1 h2 h3 h4 =>
    simp only at *
    have CE := CE.out
    rw [h2] at CE
    replace CE := Lib.hid CE
    clear h2
    unfold cv
    go_enter Tryd.func37, Tryd.ntmps37
    go_wp2_with (go_at_call 48; refine (CE.out _ (two_more (Below.refl _ _) _ _)).mono ?_; rintro e w1 ⟨rfl, rfl⟩)
    go_ret
    exact ⟨rfl, two_more (Below.refl _ _) _ _⟩
  | all h1 h2 h3 h4 x h5 =>
    simp only at *
    have CE := CE.out
    rw [h2] at CE
    replace CE := Lib.hid CE
    clear h2
    unfold cv
    go_enter Tryd.func37, Tryd.ntmps37
    go_wp2_with (go_at_call 48; refine (CE.out _ (two_more (Below.refl _ _) _ _)).mono ?_; rintro e w1 ⟨rfl, rfl⟩)
    go_ret
    exact ⟨rfl, two_more (Below.refl _ _) _ _⟩

theorem cset_any (A : Option Addr) (n m : Nat) (c : Cl) (x : Int) (w : World) (hn : n = c.d.length) (hm : n ≤ 9223372036854775807) :
    Calls Tryd.prog 93 #[cv (.slice A n m) c, .int .i64 x] w fun e w' => e = .returned (.tuple #[cv (.slice none 0 0) (stC c x), .int .i64 (stE c x)]) ∧ Below w.heap.size w w' := by
  have hw := setWay_of c x
  have CC := fun w => check5_any A n m c w hn hm
  have CW := Lib.hid (fun w => within_any (.slice A n m) c x w)
  obtain ⟨k, d, lo, hi, v⟩ := c
  cases hw with
  | kind h1 e1 e2 =>
    simp only at *
    rw [e1, e2]
    have h1' : (k != 2) = true := by simpa using h1
    clear CC CW h1 e1 e2 hm
    subst hn
    unfold cv
    go_enter Tryd.func93, Tryd.ntmps93
    go_wp2
    exact bodyPost_ret (v := .tuple #[.agg #[.int .i64 0, .slice none 0 0, .int .i64 0, .int .i64 0, .int .i64 0], .int .i64 6]) (by simp [results, Tryd.results93, go_sem]) rfl ⟨rfl, two_more (Below.refl _ _) _ _⟩
  | bad h1 h2 e1 e2 =>
    simp only at *
    subst h1
    rw [e1, e2]
    rw [ckC_no h2] at CC
    replace CC := Lib.hid CC
    clear CW h2 e1 e2 hm
    subst hn
    unfold cv at CC ⊢
    go_enter Tryd.func93, Tryd.ntmps93
    go_wp2_with (first
      | (go_at_call 83; refine (CC.out _).mono ?_; rintro e w1 ⟨rfl, b1⟩; have p4 := (Whole.second w _ _ _).on b1)
      | (refine wpList_load_row rfl _ _ rfl (w.heap.size) rfl _ _ _ _ ((Whole.made w _ _).later _) Tryd.underlying36 rfl (by kernel_rfl) ?_)
      | (refine wpList_store_row rfl _ _ _ rfl (w.heap.size + 1) _ rfl rfl _ _ p4 (by kernel_rfl) rfl (by simp [Value.oneCell']) ?_))
    refine bodyPost_ret (v := .tuple #[.agg #[.int .i64 0, .slice none 0 0, .int .i64 0, .int .i64 0, .int .i64 0], .int .i64 6]) ?_ rfl ⟨rfl, below_setRow (bthen (two_more (Below.refl _ _) _ _) b1) (Nat.le_succ _) _⟩
    exact results_cell_tmp rfl _ _ (w.heap.size + 1) _ _ (0, 0) _ rfl (setRow_heap _ _ _ _ _ _ p4) Tryd.underlying36 rfl (by kernel_rfl) _ rfl
  | out h1 h2 h3 e1 e2 =>
    simp only at *
    subst h1
    rw [e1, e2]
    rw [ckC_yes h2] at CC
    replace CC := Lib.hid CC
    have CW := CW.out
    rw [h3] at CW
    replace CW := Lib.hid CW
    clear h2 h3 e1 e2 hm
    subst hn
    unfold cv at CC CW ⊢
    go_enter Tryd.func93, Tryd.ntmps93
    go_wp2_with (first
      | (go_at_call 92; refine (CW.out _).mono ?_; rintro e w2 ⟨rfl, b2⟩; have p4 := p4.on b2)
      | (go_at_call 83; refine (CC.out _).mono ?_; rintro e w1 ⟨rfl, b1⟩; have p2 := ((Whole.made w _ _).later _).on b1; have p4 := (Whole.second w _ _ _).on b1)
      | (refine wpList_load_row rfl _ _ rfl (w.heap.size) rfl _ _ _ _ (p2) Tryd.underlying36 rfl (by kernel_rfl) ?_)
      | (refine wpList_load_row rfl _ _ rfl (w.heap.size) rfl _ _ _ _ ((Whole.made w _ _).later _) Tryd.underlying36 rfl (by kernel_rfl) ?_)
      | (refine wpList_store_row rfl _ _ _ rfl (w.heap.size + 1) _ rfl rfl _ _ p4 (by kernel_rfl) rfl (by simp [Value.oneCell']) ?_))
    refine bodyPost_ret (v := .tuple #[.agg #[.int .i64 0, .slice none 0 0, .int .i64 0, .int .i64 0, .int .i64 0], .int .i64 8]) ?_ rfl ⟨rfl, below_setRow (bthen (two_more (Below.refl _ _) _ _) (bthen b1 b2)) (Nat.le_succ _) _⟩
    exact results_cell_tmp rfl _ _ (w.heap.size + 1) _ _ (0, 0) _ rfl (setRow_heap _ _ _ _ _ _ p4) Tryd.underlying36 rfl (by kernel_rfl) _ rfl
  | fine h1 h2 hd h3 e1 e2 =>
    simp only at *
    subst h1 hd
    rw [e1, e2]
    rw [ckC_yes h2] at CC
    replace CC := Lib.hid CC
    have CW := CW.out
    rw [h3] at CW
    replace CW := Lib.hid CW
    clear h2 h3 e1 e2 hm
    subst hn
    unfold cv at CC CW ⊢
    go_enter Tryd.func93, Tryd.ntmps93
    go_wp2_with (first
      | (go_at_call 92; refine (CW.out _).mono ?_; rintro e w2 ⟨rfl, b2⟩; have p4 := p4.on b2; have p2 := p2.on b2; have q0 := p2.cell 0; have q2 := p2.cell 2; have q3 := p2.cell 3; simp at q0 q2 q3)
      | (go_at_call 83; refine (CC.out _).mono ?_; rintro e w1 ⟨rfl, b1⟩; have p2 := ((Whole.made w _ _).later _).on b1; have p4 := (Whole.second w _ _ _).on b1)
      | (refine wpList_load_row rfl _ _ rfl (w.heap.size) rfl _ _ _ _ (p2) Tryd.underlying36 rfl (by kernel_rfl) ?_)
      | (refine wpList_load_row rfl _ _ rfl (w.heap.size) rfl _ _ _ _ ((Whole.made w _ _).later _) Tryd.underlying36 rfl (by kernel_rfl) ?_)
      | (refine wpList_store_row rfl _ _ _ rfl (w.heap.size + 1) _ rfl rfl _ _ p4 (by kernel_rfl) rfl (by simp [Value.oneCell']) ?_))
    refine bodyPost_ret (v := .tuple #[.agg #[.int .i64 2, .slice none 0 0, .int .i64 lo, .int .i64 hi, .int .i64 x], .int .i64 0]) ?_ rfl ⟨rfl, below_setRow (bthen (two_more (Below.refl _ _) _ _) (bthen b1 b2)) (Nat.le_succ _) _⟩
    exact results_cell_tmp rfl _ _ (w.heap.size + 1) _ _ (0, 0) _ rfl (setRow_heap _ _ _ _ _ _ p4) Tryd.underlying36 rfl (by kernel_rfl) _ rfl
end Go.Proofs.YtlpgmmcdcjkkiaaDoor
