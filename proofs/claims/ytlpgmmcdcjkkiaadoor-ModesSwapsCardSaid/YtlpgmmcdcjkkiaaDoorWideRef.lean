/- Layer 3: contracts of the reference's numbers. -/
import Derived.Test.YtlpgmmcdcjkkiaaDoorBase
import Derived.Test.YtlpgmmcdcjkkiaaDoorRegion
import Derived.Test.YtlpgmmcdcjkkiaaDoorWords
import Derived.Test.YtlpgmmcdcjkkiaaDoorWideMath
import Derived.Test.YtlpgmmcdcjkkiaaDoorChecked
namespace Go.Proofs.YtlpgmmcdcjkkiaaDoor
set_option maxRecDepth 20000
open Go.RowKit

theorem norm_any (h l : Int) (w : World) (hh : -17592186044416 ≤ h ∧ h ≤ 17592186044416) (hl : -4294967296 ≤ l ∧ l ≤ 8589934592) :
    Calls Tryd.prog 91 #[.int .i64 h, .int .i64 l] w fun e w' => e = .returned (num (h * 4294967296 + l)) ∧ Below w.heap.size w w' := by
  go_enter Tryd.func91, Tryd.ntmps91
  go_wp2
  go_loop [0, 1] (fun u v => ∃ x y : Int, u = .int .i64 x ∧ v = .int .i64 y ∧ x * 4294967296 + y = h * 4294967296 + l ∧ -4294967296 ≤ y ∧ y ≤ 8589934592 ∧ -17592186044418 ≤ x ∧ x ≤ 17592186044416 ∧ (x = h ∨ 0 ≤ y)) (fun _ v => (8589934592 - intOf v).toNat)
  case atStart => exact ⟨h, l, rfl, rfl, rfl, hl.1, hl.2, by omega, hh.2, .inl rfl⟩
  case round =>
    obtain ⟨x, y, rfl, rfl, hxy, y1, y2, x1, x2, x3⟩ := hrel
    have HXY := Lib.hid hxy
    have HX3 := Lib.hid x3
    clear hxy x3
    by_cases hlt : y < 0
    · go_wp2
      go_round
      case rel => have := HXY.out; have := HX3.out; exact ⟨x - 1, y + 4294967296, rfl, rfl, by omega, by omega, by omega, by omega, by omega, by omega⟩
      case measure => simp [intOf]; omega
    · have hge : 0 ≤ y := by omega
      go_wp2
      have h1 : (h * 4294967296 + l) / 4294967296 = x + y / 4294967296 := by have := HXY.out; omega
      have h2 : (h * 4294967296 + l) % 4294967296 = y % 4294967296 := by have := HXY.out; omega
      refine bodyPost_ret (v := num (h * 4294967296 + l)) (by unfold num; rw [h1, h2]; simp [results, Tryd.results91, go_sem]) rfl ⟨rfl, (Below.refl _ _).alloc (Nat.le_refl _) _⟩

theorem refOf_any (n : Int) (w : World) (hn : in64 n) :
    Calls Tryd.prog 78 #[.int .i64 n] w fun e w' => e = .returned (num n) ∧ Below w.heap.size w w' := by
  obtain ⟨e, h1, h2⟩ := ref_of n hn
  have hc := fun w => norm_any _ _ w h1 h2
  rw [e] at hc
  have HC := Lib.hid hc
  clear hc e h1 h2
  go_enter Tryd.func78, Tryd.ntmps78
  go_wp2_with (first
    | (go_at_call 91; refine (HC.out _).mono ?_; simp only [num]; rintro e w1 ⟨rfl, b1⟩; have c2 := (Whole.made _ _ _).below b1 (by simp))
    | (refine wpList_store_row rfl _ _ _ rfl (w.heap.size) _ rfl rfl _ _ c2 (by kernel_rfl) rfl (by simp [Value.oneCell']) ?_))
  have bW : Below w.heap.size w w1 := ((Below.refl _ w).alloc (Nat.le_refl _) _).trans (b1.mono (by simp))
  refine bodyPost_ret (v := num n) ?_ rfl ⟨rfl, below_setRow bW (Nat.le_refl _) _⟩
  exact results_cell_row rfl _ _ (w.heap.size) _ _ (0, 0) _ rfl (setRow_heap _ _ _ _ _ _ c2) Tryd.underlying96 rfl (by kernel_rfl)

/-- May it be a number of the reference's, with room? -/
def inNum (x : Int) : Prop := -2361183241434822606848 ≤ x ∧ x ≤ 2361183241434822606848
theorem inNum64 {x : Int} (h : in64 x) : inNum x := by unfold in64 at h; unfold inNum; omega

theorem refJoin_any (x y : Int) (w : World) (hx : inNum x) (hy : inNum y) :
    Calls Tryd.prog 77 #[num x, num y] w fun e w' => e = .returned (num (x + y)) ∧ Below w.heap.size w w' := by
  unfold inNum at hx hy
  have hc := fun w => norm_any (x / 4294967296 + y / 4294967296) (x % 4294967296 + y % 4294967296) w (by omega) (by omega)
  have e : (x / 4294967296 + y / 4294967296) * 4294967296 + (x % 4294967296 + y % 4294967296) = x + y := by omega
  rw [e] at hc
  have HC := Lib.hid hc
  have b1 : -549755813888 ≤ x / 4294967296 ∧ x / 4294967296 ≤ 549755813888 := by omega
  have b2 : -549755813888 ≤ y / 4294967296 ∧ y / 4294967296 ≤ 549755813888 := by omega
  have b3 : 0 ≤ x % 4294967296 ∧ x % 4294967296 ≤ 4294967295 := by omega
  have b4 : 0 ≤ y % 4294967296 ∧ y % 4294967296 ≤ 4294967295 := by omega
  clear hc e hx hy
  unfold num
  generalize x / 4294967296 = xh at *
  generalize y / 4294967296 = yh at *
  generalize x % 4294967296 = xl at *
  generalize y % 4294967296 = yl at *
  go_enter Tryd.func77, Tryd.ntmps77
  go_wp2_with (first
    | (go_at_call 91; refine (HC.out _).mono ?_; simp only [num]; rintro e w1 ⟨rfl, b5⟩; have c2 := (Whole.third _ _ _ _ _).below b5 (by simp))
    | (refine wpList_store_row rfl _ _ _ rfl (w.heap.size + 1 + 1) _ rfl rfl _ _ c2 (by kernel_rfl) rfl (by simp [Value.oneCell']) ?_))
  have bW : Below w.heap.size w w1 := ((((Below.refl _ w).alloc (Nat.le_refl _) _).alloc (by simp) _).alloc (by simp; omega) _).trans (b5.mono (by simp; omega))
  refine bodyPost_ret (v := num (x + y)) ?_ rfl ⟨rfl, below_setRow bW (by omega) _⟩
  exact results_cell_row rfl _ _ (w.heap.size + 1 + 1) _ _ (0, 0) _ rfl (setRow_heap _ _ _ _ _ _ c2) Tryd.underlying96 rfl (by kernel_rfl)
theorem refTake_any (x y : Int) (w : World) (hx : inNum x) (hy : inNum y) :
    Calls Tryd.prog 79 #[num x, num y] w fun e w' => e = .returned (num (x - y)) ∧ Below w.heap.size w w' := by
  unfold inNum at hx hy
  have hc := fun w => norm_any (x / 4294967296 - y / 4294967296) (x % 4294967296 - y % 4294967296) w (by omega) (by omega)
  have e : (x / 4294967296 - y / 4294967296) * 4294967296 + (x % 4294967296 - y % 4294967296) = x - y := by omega
  rw [e] at hc
  have HC := Lib.hid hc
  have b1 : -549755813888 ≤ x / 4294967296 ∧ x / 4294967296 ≤ 549755813888 := by omega
  have b2 : -549755813888 ≤ y / 4294967296 ∧ y / 4294967296 ≤ 549755813888 := by omega
  have b3 : 0 ≤ x % 4294967296 ∧ x % 4294967296 ≤ 4294967295 := by omega
  have b4 : 0 ≤ y % 4294967296 ∧ y % 4294967296 ≤ 4294967295 := by omega
  clear hc e hx hy
  unfold num
  generalize x / 4294967296 = xh at *
  generalize y / 4294967296 = yh at *
  generalize x % 4294967296 = xl at *
  generalize y % 4294967296 = yl at *
  go_enter Tryd.func79, Tryd.ntmps79
  go_wp2_with (first
    | (go_at_call 91; refine (HC.out _).mono ?_; simp only [num]; rintro e w1 ⟨rfl, b5⟩; have c2 := (Whole.third _ _ _ _ _).below b5 (by simp))
    | (refine wpList_store_row rfl _ _ _ rfl (w.heap.size + 1 + 1) _ rfl rfl _ _ c2 (by kernel_rfl) rfl (by simp [Value.oneCell']) ?_))
  have bW : Below w.heap.size w w1 := ((((Below.refl _ w).alloc (Nat.le_refl _) _).alloc (by simp) _).alloc (by simp; omega) _).trans (b5.mono (by simp; omega))
  refine bodyPost_ret (v := num (x - y)) ?_ rfl ⟨rfl, below_setRow bW (by omega) _⟩
  exact results_cell_row rfl _ _ (w.heap.size + 1 + 1) _ _ (0, 0) _ rfl (setRow_heap _ _ _ _ _ _ c2) Tryd.underlying96 rfl (by kernel_rfl)

theorem num_less1 (x y : Int) (h : x / 4294967296 < y / 4294967296) : x < y := by omega
theorem num_less2 (x y : Int) (h : y / 4294967296 < x / 4294967296) : ¬ x < y := by omega
theorem num_less3 (x y : Int) (h : x / 4294967296 = y / 4294967296) : decide (x % 4294967296 < y % 4294967296) = decide (x < y) := by
  by_cases hx : x % 4294967296 < y % 4294967296 <;> simp [hx] <;> omega
theorem refLess_any (x y : Int) (w : World) :
    Calls Tryd.prog 80 #[num x, num y] w fun e w' => e = .returned (.bool (decide (x < y))) ∧ Below w.heap.size w w' := by
  have h1 := num_less1 x y
  have h2 := num_less2 x y
  have h3 := num_less3 x y
  unfold num
  generalize x / 4294967296 = xh at *
  generalize y / 4294967296 = yh at *
  generalize x % 4294967296 = xl at *
  generalize y % 4294967296 = yl at *
  rcases Int.lt_trichotomy xh yh with h | h | h
  · have E : Hid (true = decide (x < y)) := Lib.hid (by simp [h1 h])
    clear h1 h2 h3
    go_enter Tryd.func80, Tryd.ntmps80
    go_wp2
    go_ret
    exact ⟨ret_bool E.out, ((Below.refl _ _).alloc (Nat.le_refl _) _).alloc (by simp) _⟩
  · subst h
    have E := Lib.hid (h3 rfl)
    clear h1 h2 h3
    have q : decide (xh < xh) = false := by simp
    go_enter Tryd.func80, Tryd.ntmps80
    go_wp2
    go_ret
    exact ⟨ret_bool E.out, ((Below.refl _ _).alloc (Nat.le_refl _) _).alloc (by simp) _⟩
  · have E : Hid (false = decide (x < y)) := Lib.hid (by simp [h2 h])
    clear h1 h2 h3
    have q : decide (xh < yh) = false := by simp; omega
    have q2 : (xh == yh) = false := by simp; omega
    go_enter Tryd.func80, Tryd.ntmps80
    go_wp2
    go_ret
    exact ⟨ret_bool E.out, ((Below.refl _ _).alloc (Nat.le_refl _) _).alloc (by simp) _⟩

theorem refInt_any (x : Int) (w : World) (hx : inNum x) :
    Calls Tryd.prog 81 #[num x] w fun e w' => e = .returned (.tuple #[.int .i64 (fitI x), .bool (wfitB x)]) ∧ Below w.heap.size w w' := by
  unfold inNum at hx
  have e : x / 4294967296 * 4294967296 + x % 4294967296 = x := by omega
  have b3 : 0 ≤ x % 4294967296 ∧ x % 4294967296 ≤ 4294967295 := by omega
  have b1 : -549755813888 ≤ x / 4294967296 ∧ x / 4294967296 ≤ 549755813888 := by omega
  have hin : in64 x ↔ -2147483648 ≤ x / 4294967296 ∧ x / 4294967296 ≤ 2147483647 := by unfold in64; omega
  unfold num
  by_cases h1 : x / 4294967296 < -2147483648
  · obtain ⟨e1, e2⟩ := fit_no (x := x) (by rw [hin]; omega)
    rw [e1, e2]
    clear e hin
    generalize x / 4294967296 = xh at *
    generalize x % 4294967296 = xl at *
    clear hx
    go_enter Tryd.func81, Tryd.ntmps81
    go_wp2
    go_ret2
    exact ⟨rfl, (Below.refl _ _).alloc (Nat.le_refl _) _⟩
  · by_cases h2 : 2147483647 < x / 4294967296
    · obtain ⟨e1, e2⟩ := fit_no (x := x) (by rw [hin]; omega)
      rw [e1, e2]
      clear e hin
      generalize x / 4294967296 = xh at *
      generalize x % 4294967296 = xl at *
      clear hx
      go_enter Tryd.func81, Tryd.ntmps81
      go_wp2
      go_ret2
      exact ⟨rfl, (Below.refl _ _).alloc (Nat.le_refl _) _⟩
    · obtain ⟨e1, e2⟩ := fit_yes (x := x) (by rw [hin]; omega)
      rw [e1, e2]
      have E := Lib.hid e
      clear e hin
      generalize x / 4294967296 = xh at *
      generalize x % 4294967296 = xl at *
      have hx1 : -2147483648 ≤ xh := by omega
      have hx2 : xh ≤ 2147483647 := by omega
      clear hx
      go_enter Tryd.func81, Tryd.ntmps81
      go_wp2
      go_ret2
      exact ⟨ret2_int E.out, (Below.refl _ _).alloc (Nat.le_refl _) _⟩

end Go.Proofs.YtlpgmmcdcjkkiaaDoor
