/- Layer 5: contracts of the reference's functions on cells: Right, Same, Set. -/
import Derived.Test.YtbljppcfekgogaaCellMath
import Derived.Test.YtbljppcfekgogaaCell
import Derived.Test.YtbljppcfekgogaaBeRef
import Derived.Test.YtbljppcfekgogaaChecked
namespace Go.Proofs.Ytbljppcfekgogaa
open Go.RowKit

theorem right5_any (A : Option Addr) (n m : Nat) (c : Cl) (w : World) (hn : n = c.d.length) (hm : n ≤ 9223372036854775807) :
    Calls Try.prog 12 #[cv (.slice A n m) c] w fun e w' => e = .returned (.bool (good c)) ∧ Below w.heap.size w w' := by
  have hw := way_of c
  subst hn
  generalize good c = g at *
  obtain ⟨k, d, lo, hi, v⟩ := c
  simp only at *
  cases hw with
  | none h1 h2 =>
    simp only at *
    unfold cv
    go_enter Try.func12, Try.ntmps12
    go_wp2
    go_ret
    exact ⟨rfl, (Below.refl _ _).alloc (Nat.le_refl _) _⟩
  | long h1 h2 =>
    simp only at *
    subst h1
    have h5 : ¬ ((d.length : Int) ≤ 32) := by simp at h2; omega
    clear h2
    unfold cv
    go_enter Try.func12, Try.ntmps12
    go_wp2
    go_ret
    exact ⟨rfl, (Below.refl _ _).alloc (Nat.le_refl _) _⟩
  | lo h1 h2 h3 =>
    simp only at *
    subst h1
    unfold cv
    go_enter Try.func12, Try.ntmps12
    go_wp2
    go_ret
    exact ⟨rfl, (Below.refl _ _).alloc (Nat.le_refl _) _⟩
  | hi h1 h2 h3 h4 =>
    simp only at *
    subst h1 h3
    unfold cv
    go_enter Try.func12, Try.ntmps12
    go_wp2
    go_ret
    exact ⟨rfl, (Below.refl _ _).alloc (Nat.le_refl _) _⟩
  | val h1 h2 h3 h4 h5 =>
    simp only at *
    subst h1 h3 h4
    unfold cv
    go_enter Try.func12, Try.ntmps12
    go_wp2
    go_ret
    exact ⟨rfl, (Below.refl _ _).alloc (Nat.le_refl _) _⟩
  | record h1 h2 h3 h4 h5 =>
    simp only at *
    subst h1 h3 h4 h5
    unfold cv
    go_enter Try.func12, Try.ntmps12
    go_wp2
    go_ret
    exact ⟨rfl, (Below.refl _ _).alloc (Nat.le_refl _) _⟩
  | data h1 h2 =>
    simp only at *
    subst h1
    have h6 : ¬ d.length = 0 := by simpa using h2
    have h7 : d ≠ [] := by rintro rfl; exact h6 rfl
    clear h2
    unfold cv
    go_enter Try.func12, Try.ntmps12
    go_wp2
    go_ret
    exact ⟨rfl, (Below.refl _ _).alloc (Nat.le_refl _) _⟩
  | out h1 h2 h3 =>
    simp only at *
    subst h1
    obtain rfl := List.eq_nil_of_length_eq_zero h2
    simp only [List.length_nil] at *
    rcases inB_no h3 with h4 | ⟨h4, h5⟩
    · clear h3 h2 hm
      unfold cv
      go_enter Try.func12, Try.ntmps12
      go_wp2
      go_ret
      exact ⟨rfl, (Below.refl _ _).alloc (Nat.le_refl _) _⟩
    · clear h3 h2 hm
      unfold cv
      go_enter Try.func12, Try.ntmps12
      go_wp2
      go_ret
      exact ⟨rfl, (Below.refl _ _).alloc (Nat.le_refl _) _⟩
  | counter h1 h2 h3 =>
    simp only at *
    subst h1
    obtain rfl := List.eq_nil_of_length_eq_zero h2
    simp only [List.length_nil] at *
    obtain ⟨h4, h5⟩ := inB_yes h3
    clear h3 h2 hm
    unfold cv
    go_enter Try.func12, Try.ntmps12
    go_wp2
    go_ret
    exact ⟨rfl, (Below.refl _ _).alloc (Nat.le_refl _) _⟩

theorem rsame5_any (D E : Value) (a b : Cl) (w : World) (hD : SV w D (bys a.d)) (hE : SV w E (bys b.d)) :
    Calls Try.prog 14 #[cv D a, cv E b] w fun e w' => e = .returned (.bool (sameC a b)) ∧ Below w.heap.size w w' := by
  have hs := sameWay_of a b
  generalize sameC a b = s at *
  obtain ⟨k, d, lo, hi, v⟩ := a
  obtain ⟨k', d', lo', hi', v'⟩ := b
  have CE := Lib.hid (fun w' (hb : Below w.heap.size w w') => same_any D E d d' w' (hD.keep (Keeps.below hb)) (hE.keep (Keeps.below hb)))
  clear hD hE
  cases hs with
  | k h1 =>
    simp only at *
    clear CE
    unfold cv
    go_enter Try.func14, Try.ntmps14
    go_wp2_with (go_at_call 10; refine (CE.out _ (two_more (Below.refl _ _) _ _)).mono ?_; rintro e w1 ⟨rfl, rfl⟩)
    go_ret
    exact ⟨rfl, two_more (Below.refl _ _) _ _⟩
  | d h1 h2 =>
    simp only at *
    have CE := CE.out
    rw [h2] at CE
    replace CE := Lib.hid CE
    clear h2
    unfold cv
    go_enter Try.func14, Try.ntmps14
    go_wp2_with (go_at_call 10; refine (CE.out _ (two_more (Below.refl _ _) _ _)).mono ?_; rintro e w1 ⟨rfl, rfl⟩)
    go_ret
    exact ⟨rfl, two_more (Below.refl _ _) _ _⟩
  | lo h1 h2 h3 =>
    simp only at *
    have CE := CE.out
    rw [h2] at CE
    replace CE := Lib.hid CE
    clear h2
    unfold cv
    go_enter Try.func14, Try.ntmps14
    go_wp2_with (go_at_call 10; refine (CE.out _ (two_more (Below.refl _ _) _ _)).mono ?_; rintro e w1 ⟨rfl, rfl⟩)
    go_ret
    exact ⟨rfl, two_more (Below.refl _ _) _ _⟩
  | hi h1 h2 h3 h4 =>
    simp only at *
    have CE := CE.out
    rw [h2] at CE
    replace CE := Lib.hid CE
    clear h2
    unfold cv
    go_enter Try.func14, Try.ntmps14
    go_wp2_with (go_at_call 10; refine (CE.out _ (two_more (Below.refl _ _) _ _)).mono ?_; rintro e w1 ⟨rfl, rfl⟩)
    go_ret
    exact ⟨rfl, two_more (Below.refl _ _) _ _⟩
  | all h1 h2 h3 h4 x h5 =>
    simp only at *
    have CE := CE.out
    rw [h2] at CE
    replace CE := Lib.hid CE
    clear h2
    unfold cv
    go_enter Try.func14, Try.ntmps14
    go_wp2_with (go_at_call 10; refine (CE.out _ (two_more (Below.refl _ _) _ _)).mono ?_; rintro e w1 ⟨rfl, rfl⟩)
    go_ret
    exact ⟨rfl, two_more (Below.refl _ _) _ _⟩

/-- What the reference's Set hands back: its data's slice is the argument's, or nil. -/
def SetR (c : Cl) (x : Int) (w : World) (e : Ending) (w' : World) : Prop := ∃ D, e = .returned (.tuple #[cv D (stC c x), .int .i64 (stE c x)]) ∧ SV w' D (bys (stC c x).d) ∧ Below w.heap.size w w'

theorem rset5_any (A : Option Addr) (n m : Nat) (c : Cl) (x : Int) (w : World) (hv : SV w (.slice A n m) (bys c.d)) (hm : n ≤ 9223372036854775807) :
    Calls Try.prog 16 #[cv (.slice A n m) c, .int .i64 x] w (SetR c x w) := by
  have hw := setWay_of c x
  have hn : n = c.d.length := by have := hv.bd.1; simpa using this
  have CC := fun w => right5_any A n m c w hn hm
  obtain ⟨k, d, lo, hi, v⟩ := c
  cases hw with
  | kind h1 e1 e2 =>
    simp only at *
    unfold SetR
    rw [e1, e2]
    have h1' : (k != 2) = true := by simpa using h1
    clear CC h1 e1 e2 hm hv
    subst hn
    unfold cv
    go_enter Try.func16, Try.ntmps16
    go_wp2
    exact bodyPost_ret (v := .tuple #[.agg #[.int .i64 0, .slice none 0 0, .int .i64 0, .int .i64 0, .int .i64 0], .int .i64 6]) (by simp [results, Try.results16, go_sem]) rfl ⟨_, rfl, SV.nil _, two_more (Below.refl _ _) _ _⟩
  | bad h1 h2 e1 e2 =>
    simp only at *
    subst h1
    unfold SetR
    rw [e1, e2]
    rw [h2] at CC
    replace CC := Lib.hid CC
    clear h2 e1 e2 hm hv
    subst hn
    unfold cv at CC ⊢
    go_enter Try.func16, Try.ntmps16
    go_wp2_with (first
      | (go_at_call 12; refine (CC.out _).mono ?_; rintro e w1 ⟨rfl, b1⟩; have p4 := (Whole.second w _ _ _).on b1)
      | (refine wpList_load_row rfl _ _ rfl (w.heap.size) rfl _ _ _ _ ((Whole.made w _ _).later _) Try.underlying24 rfl (by kernel_rfl) ?_)
      | (refine wpList_store_row rfl _ _ _ rfl (w.heap.size + 1) _ rfl rfl _ _ p4 (by kernel_rfl) rfl (by simp [Value.oneCell']) ?_))
    refine bodyPost_ret (v := .tuple #[.agg #[.int .i64 0, .slice none 0 0, .int .i64 0, .int .i64 0, .int .i64 0], .int .i64 6]) ?_ rfl ⟨_, rfl, SV.nil _, below_setRow (bthen (two_more (Below.refl _ _) _ _) b1) (Nat.le_succ _) _⟩
    exact results_cell_tmp rfl _ _ (w.heap.size + 1) _ _ (0, 0) _ rfl (setRow_heap _ _ _ _ _ _ p4) Try.underlying24 rfl (by kernel_rfl) _ rfl
  | out h1 h2 h3 e1 e2 =>
    simp only at *
    subst h1
    unfold SetR
    rw [e1, e2]
    rw [h2] at CC
    replace CC := Lib.hid CC
    have hcase : (x < lo) ∨ (decide (x < lo) = false ∧ hi < x) := by
      rcases inB_no h3 with h4 | ⟨h4, h5⟩
      · left; simp at h4; omega
      · right; simp at h4 h5; exact ⟨by simp; omega, by omega⟩
    clear h2 h3 e1 e2 hm hv
    subst hn
    unfold cv at CC ⊢
    rcases hcase with h4 | ⟨h4, h5⟩
    all_goals
      go_enter Try.func16, Try.ntmps16
      go_wp2_with (first
        | (go_at_call 12; refine (CC.out _).mono ?_; rintro e w1 ⟨rfl, b1⟩; have p2 := ((Whole.made w _ _).later _).on b1; have q0 := p2.cell 0; have q2 := p2.cell 2; have q3 := p2.cell 3; simp at q0 q2 q3; have p4 := (Whole.second w _ _ _).on b1)
        | (refine wpList_load_row rfl _ _ rfl (w.heap.size) rfl _ _ _ _ ((Whole.made w _ _).later _) Try.underlying24 rfl (by kernel_rfl) ?_)
        | (refine wpList_store_row rfl _ _ _ rfl (w.heap.size + 1) _ rfl rfl _ _ p4 (by kernel_rfl) rfl (by simp [Value.oneCell']) ?_))
      refine bodyPost_ret (v := .tuple #[.agg #[.int .i64 0, .slice none 0 0, .int .i64 0, .int .i64 0, .int .i64 0], .int .i64 8]) ?_ rfl ⟨_, rfl, SV.nil _, below_setRow (bthen (two_more (Below.refl _ _) _ _) b1) (Nat.le_succ _) _⟩
      exact results_cell_tmp rfl _ _ (w.heap.size + 1) _ _ (0, 0) _ rfl (setRow_heap _ _ _ _ _ _ p4) Try.underlying24 rfl (by kernel_rfl) _ rfl
  | fine h1 h2 hd h3 e1 e2 =>
    simp only at *
    subst h1 hd
    unfold SetR
    rw [e1, e2]
    rw [h2] at CC
    replace CC := Lib.hid CC
    obtain ⟨h4, h5⟩ := inB_yes h3
    have hc1 : decide (x < lo) = false := by simp; omega
    have hc2 : decide (hi < x) = false := by simp; omega
    subst hn
    have HV := Lib.hid hv
    clear h2 h3 e1 e2 hm hv h4 h5
    unfold cv at CC ⊢
    go_enter Try.func16, Try.ntmps16
    go_wp2_with (first
      | (go_at_call 12; refine (CC.out _).mono ?_; rintro e w1 ⟨rfl, b1⟩; have p2 := ((Whole.made w _ _).later _).on b1; have q0 := p2.cell 0; have q2 := p2.cell 2; have q3 := p2.cell 3; have q4 := p2.cell 4; simp at q0 q2 q3 q4; have p4 := (Whole.second w _ _ _).on b1; have f4 := p2.free 4; have p5 := p2.put 4 (.int .i64 x); simp only [List.setIfInBounds_toArray, List.set_cons_succ, List.set_cons_zero] at p5; have p6 := p4.apart (b := w.heap.size) (i := 4) (by omega) (.int .i64 x))
      | (refine wpList_load_row rfl _ _ rfl (w.heap.size) rfl _ _ _ _ (p5) Try.underlying24 rfl (by kernel_rfl) ?_)
      | (refine wpList_load_row rfl _ _ rfl (w.heap.size) rfl _ _ _ _ ((Whole.made w _ _).later _) Try.underlying24 rfl (by kernel_rfl) ?_)
      | (refine wpList_store_row rfl _ _ _ rfl (w.heap.size + 1) _ rfl rfl _ _ p6 (by kernel_rfl) rfl (by simp [Value.oneCell']) ?_))
    have bb : Below w.heap.size w (w1.setCell ⟨w.heap.size, 4, none⟩ (.int .i64 x)) := (bthen (two_more (Below.refl _ _) _ _) b1).setCell (by simp) _
    refine bodyPost_ret (v := .tuple #[.agg #[.int .i64 2, .slice A 0 m, .int .i64 lo, .int .i64 hi, .int .i64 x], .int .i64 0]) ?_ rfl ⟨_, rfl, HV.out.keep (Keeps.below (below_setRow bb (Nat.le_succ _) _)), below_setRow bb (Nat.le_succ _) _⟩
    exact results_cell_tmp rfl _ _ (w.heap.size + 1) _ _ (0, 0) _ rfl (setRow_heap _ _ _ _ _ _ p6) Try.underlying24 rfl (by kernel_rfl) _ rfl
end Go.Proofs.Ytbljppcfekgogaa
