/- What the law ModesOrder comes to. -/
import Derived.Test.YtlpgmmcdcjkkiaaDoorModesAll
namespace Go.Proofs.YtlpgmmcdcjkkiaaDoor
set_option maxRecDepth 20000
open Go.RowKit Go.Sort

theorem mod4 (a : Int) : ∃ x : Nat, a % 4 = x ∧ x < 4 := ⟨(a % 4).toNat, by omega, by omega⟩
/-- All sets of two modes. -/
theorem sets_all : ∀ x < 4, ∀ y < 4, withN 0 x < 16 ∧ withN (withN 0 x) y < 16 ∧ withN (withN 0 y) x = withN (withN 0 x) y ∧ hasN (withN (withN 0 x) y) x = true ∧ hasN (withN (withN 0 x) y) y = true := by decide
theorem fits_all : ∀ x < 4, ∀ y < 4, ∀ z < 4, fitsN (withN (withN 0 x) y) z = (compX (x : Nat) (z : Nat) && compX (y : Nat) (z : Nat)) ∧ ((fitsN (withN (withN 0 x) y) z) = true → fitsN (withN 0 x) z = true) := by decide
set_option maxHeartbeats 4000000 in
theorem order10_law (a b c : Int) (w : World) (ht : Tog w) (ha : 0 ≤ a ∧ a ≤ 255) (hb : 0 ≤ b ∧ b ≤ 255) (hc : 0 ≤ c ∧ c ≤ 255) :
    Calls Tryd.prog 6 #[.int .u8 a, .int .u8 b, .int .u8 c] w fun e w' => e = .returned (.bool true) ∧ Below w.heap.size w w' := by
  have LV := Lib.hid (fun w' (h : Below w.heap.size w w') => live10_any w' (ht.on h))
  obtain ⟨x, hx, hx4⟩ := mod4 a
  obtain ⟨y, hy, hy4⟩ := mod4 b
  obtain ⟨z, hz, hz4⟩ := mod4 c
  obtain ⟨s1, s2, s3, s4, s5⟩ := sets_all x hx4 y hy4
  obtain ⟨f1, f2⟩ := fits_all x hx4 y hy4 z hz4
  have s1y := (sets_all y hy4 x hx4).1
  have W1 := fun w => mwith10_any 0 x (by omega) hx4 w
  have W2 := fun w => mwith10_any (withN 0 x) y s1 hy4 w
  have W3 := fun w => mwith10_any 0 y (by omega) hy4 w
  have W4 := fun w => mwith10_any (withN 0 y) x s1y hx4 w
  have H1 := fun w => mhas10_any (withN (withN 0 x) y) x s2 hx4 w
  have H2 := fun w => mhas10_any (withN (withN 0 x) y) y s2 hy4 w
  have F1 := fun w' (h : Below w.heap.size w w') => mfits10_any (withN (withN 0 x) y) z s2 hz4 w' (ht.on h)
  have F2 := fun w' (h : Below w.heap.size w w') => mfits10_any (withN 0 x) z s1 hz4 w' (ht.on h)
  have C1 := fun w' (h : Below w.heap.size w w') => mcompat10_any x y w' (ht.on h)
  have C2 := fun w' (h : Below w.heap.size w w') => mcompat10_any y x w' (ht.on h)
  have C3 := fun w' (h : Below w.heap.size w w') => mcompat10_any x z w' (ht.on h)
  have C4 := fun w' (h : Below w.heap.size w w') => mcompat10_any y z w' (ht.on h)
  rw [show ((0 : Nat) : Int) = 0 from rfl] at W1 W3
  rw [s3] at W4
  rw [s4] at H1
  rw [s5] at H2
  rw [comp_comm y x] at C2
  generalize withN (withN 0 x) y = S at *
  generalize withN 0 x = X at *
  generalize withN 0 y = Y at *
  generalize compX x y = z1 at *
  generalize compX x z = p1 at *
  generalize compX y z = p2 at *
  generalize fitsN S z = q at *
  generalize fitsN X z = r at *
  replace C3 := Lib.hid C3
  replace C4 := Lib.hid C4
  replace F2 := Lib.hid F2
  replace W1 := Lib.hid W1
  replace W2 := Lib.hid W2
  replace W3 := Lib.hid W3
  replace W4 := Lib.hid W4
  replace H1 := Lib.hid H1
  replace H2 := Lib.hid H2
  replace C1 := Lib.hid C1
  replace C2 := Lib.hid C2
  replace F1 := Lib.hid F1
  replace f1 := Lib.hid f1
  replace f2 := Lib.hid f2
  clear ht s1 s2 s3 s4 s5 s1y hx4 hy4 hz4
  have B0 := Lib.hid (Below.refl w.heap.size w)
  go_enter Tryd.func6, Tryd.ntmps6
  go_wp2_with fail
  refine (W1.out _).mono ?_
  rintro e wx ⟨rfl, b9⟩
  have B1 := Lib.hid (B0.out.trans (b9.mono B0.out.size))
  clear b9 B0
  go_wp2_with fail
  refine (W2.out _).mono ?_
  rintro e wx ⟨rfl, b9⟩
  have B2 := Lib.hid (B1.out.trans (b9.mono B1.out.size))
  clear b9 B1
  go_wp2_with fail
  refine (C1.out _ B2.out).mono ?_
  rintro e wx ⟨rfl, b9⟩
  have B3 := Lib.hid (B2.out.trans (b9.mono B2.out.size))
  clear b9 B2
  go_wp2_with fail
  refine (C2.out _ B3.out).mono ?_
  rintro e wx ⟨rfl, b9⟩
  have B4 := Lib.hid (B3.out.trans (b9.mono B3.out.size))
  clear b9 B3
  go_wp2_with fail
  refine (W3.out _).mono ?_
  rintro e wx ⟨rfl, b9⟩
  have B5 := Lib.hid (B4.out.trans (b9.mono B4.out.size))
  clear b9 B4
  go_wp2_with fail
  refine (W4.out _).mono ?_
  rintro e wx ⟨rfl, b9⟩
  have B6 := Lib.hid (B5.out.trans (b9.mono B5.out.size))
  clear b9 B5
  go_wp2_with fail
  refine (H1.out _).mono ?_
  rintro e wx ⟨rfl, b9⟩
  have B7 := Lib.hid (B6.out.trans (b9.mono B6.out.size))
  clear b9 B6
  go_wp2_with fail
  refine (H2.out _).mono ?_
  rintro e wx ⟨rfl, b9⟩
  have B8 := Lib.hid (B7.out.trans (b9.mono B7.out.size))
  clear b9 B7
  go_wp2_with fail
  cases p1 with
  | false =>
    obtain rfl : q = false := by rw [f1.out]; rfl
    refine (F1.out _ B8.out).mono ?_
    rintro e wx ⟨rfl, b9⟩
    have D1 := Lib.hid (B8.out.trans (b9.mono B8.out.size))
    clear b9 B8
    go_wp2_with fail
    refine (C3.out _ D1.out).mono ?_
    rintro e wx ⟨rfl, b9⟩
    have D2 := Lib.hid (D1.out.trans (b9.mono D1.out.size))
    clear b9 D1
    go_wp2_with fail
    refine (F1.out _ D2.out).mono ?_
    rintro e wx ⟨rfl, b9⟩
    have D3 := Lib.hid (D2.out.trans (b9.mono D2.out.size))
    clear b9 D2
    go_wp2_with fail
    refine (LV.out _ D3.out).mono ?_
    rintro e wx ⟨rfl, b9⟩
    have B99 := Lib.hid (D3.out.trans (b9.mono D3.out.size))
    clear b9
    go_wp2
    go_ret
    exact ⟨rfl, B99.out⟩
  | true =>
    cases p2 with
    | false =>
      obtain rfl : q = false := by rw [f1.out]; rfl
      refine (F1.out _ B8.out).mono ?_
      rintro e wx ⟨rfl, b9⟩
      have D1 := Lib.hid (B8.out.trans (b9.mono B8.out.size))
      clear b9 B8
      go_wp2_with fail
      refine (C3.out _ D1.out).mono ?_
      rintro e wx ⟨rfl, b9⟩
      have D2 := Lib.hid (D1.out.trans (b9.mono D1.out.size))
      clear b9 D1
      go_wp2_with fail
      refine (C4.out _ D2.out).mono ?_
      rintro e wx ⟨rfl, b9⟩
      have D3 := Lib.hid (D2.out.trans (b9.mono D2.out.size))
      clear b9 D2
      go_wp2_with fail
      refine (F1.out _ D3.out).mono ?_
      rintro e wx ⟨rfl, b9⟩
      have D4 := Lib.hid (D3.out.trans (b9.mono D3.out.size))
      clear b9 D3
      go_wp2_with fail
      refine (LV.out _ D4.out).mono ?_
      rintro e wx ⟨rfl, b9⟩
      have B99 := Lib.hid (D4.out.trans (b9.mono D4.out.size))
      clear b9
      go_wp2
      go_ret
      exact ⟨rfl, B99.out⟩
    | true =>
      obtain rfl : q = true := by rw [f1.out]; rfl
      obtain rfl : r = true := f2.out rfl
      refine (F1.out _ B8.out).mono ?_
      rintro e wx ⟨rfl, b9⟩
      have D1 := Lib.hid (B8.out.trans (b9.mono B8.out.size))
      clear b9 B8
      go_wp2_with fail
      refine (C3.out _ D1.out).mono ?_
      rintro e wx ⟨rfl, b9⟩
      have D2 := Lib.hid (D1.out.trans (b9.mono D1.out.size))
      clear b9 D1
      go_wp2_with fail
      refine (C4.out _ D2.out).mono ?_
      rintro e wx ⟨rfl, b9⟩
      have D3 := Lib.hid (D2.out.trans (b9.mono D2.out.size))
      clear b9 D2
      go_wp2_with fail
      refine (F1.out _ D3.out).mono ?_
      rintro e wx ⟨rfl, b9⟩
      have D4 := Lib.hid (D3.out.trans (b9.mono D3.out.size))
      clear b9 D3
      go_wp2_with fail
      refine (W1.out _).mono ?_
      rintro e wx ⟨rfl, b9⟩
      have D5 := Lib.hid (D4.out.trans (b9.mono D4.out.size))
      clear b9 D4
      go_wp2_with fail
      refine (F2.out _ D5.out).mono ?_
      rintro e wx ⟨rfl, b9⟩
      have D6 := Lib.hid (D5.out.trans (b9.mono D5.out.size))
      clear b9 D5
      go_wp2_with fail
      refine (LV.out _ D6.out).mono ?_
      rintro e wx ⟨rfl, b9⟩
      have B99 := Lib.hid (D6.out.trans (b9.mono D6.out.size))
      clear b9
      go_wp2
      go_ret
      exact ⟨rfl, B99.out⟩
end Go.Proofs.YtlpgmmcdcjkkiaaDoor
