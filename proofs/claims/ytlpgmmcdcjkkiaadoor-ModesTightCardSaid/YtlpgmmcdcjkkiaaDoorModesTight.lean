/- What the law ModesTight comes to. -/
import Derived.Test.YtlpgmmcdcjkkiaaDoorModesAll
namespace Go.Proofs.YtlpgmmcdcjkkiaaDoor
set_option maxRecDepth 20000
open Go.RowKit Go.Sort

/-- A value that reads as an operation. -/
def fOp (x : Ox) : Value → World → Prop := fun v w => ∃ A n c, v = ov (.slice A n c) x ∧ SV w (.slice A n c) (bys x.b)
theorem stays_op (x : Ox) : Stays (fOp x) := fun _ _ _ ⟨A, n, c, e, h⟩ hb => ⟨A, n, c, e, h.keep (Keeps.below hb)⟩
def OneP (x : Ox) (w : World) (e : Ending) (w' : World) : Prop := ∃ u, e = .returned u ∧ fOp x u w' ∧ Below w.heap.size w w'
/-- An operation of a mode. -/
def oneX (m n : Int) : Ox := if m = 1 then ⟨1, [97], [UInt8.ofNat n.toNat], 0, 0, 0⟩ else ⟨if m = 0 then 0 else if m = 2 then 4 else 5, [97], [], 0, 0, 1⟩
def cS : List Pr := [⟨[97], ⟨2, [], 0, 9, 3⟩⟩]
def dropX : Ox := ⟨3, [97], [], 0, 0, 0⟩
theorem st_cS : St cS := ⟨List.pairwise_singleton _ _, fun p hp => by simp [cS] at hp; subst hp; rfl⟩
theorem i64_cS : ∀ p ∈ cS, in64c p.c := fun p hp => by simp [cS] at hp; subst hp; refine ⟨?_, ?_, ?_, ?_⟩ <;> exact ⟨by decide, by decide⟩
theorem mswap_op {s : List Pr} {a b : Ox} (hq : Asks s a b) (v u1 u2 : Value) (w : World) (hv : PS w v s) (h1 : fOp a u1 w) (h2 : fOp b u2 w) : Calls Tryd.prog 17 #[v, u1, u2] w fun e w' => e = .returned (.bool (swapB s a b)) ∧ Below w.heap.size w w' := by
  obtain ⟨A, n, c, rfl, hA⟩ := h1
  obtain ⟨B, m, d, rfl, hB⟩ := h2
  exact mswap10_any v s A B n m c d a b w hv hA hB hq
theorem one10_0 (n : Int) (w : World) : Calls Tryd.prog 20 #[.int .i64 0, .int .i64 n] w (OneP ⟨0, [97], [], 0, 0, 1⟩ w) := by
  go_enter Tryd.func20, Tryd.ntmps20
  go_wp2
  refine bodyPost_ret (v := .agg #[.int .i64 0, .string ⟨#[97]⟩, .slice none 0 0, .int .i64 0, .int .i64 0, .int .i64 1]) ?_ rfl ⟨_, rfl, ⟨none, 0, 0, rfl, SV.nil _⟩, two_more (Below.refl _ _) _ _⟩
  exact results_cell_row rfl _ _ w.heap.size _ _ (0, 0) _ rfl ((Whole.made w 24 #[.int .i64 0, .string ⟨#[97]⟩, .slice none 0 0, .int .i64 0, .int .i64 0, .int .i64 1]).later _) Tryd.underlying24 rfl (by kernel_rfl)
theorem one10_2 (n : Int) (w : World) : Calls Tryd.prog 20 #[.int .i64 2, .int .i64 n] w (OneP ⟨4, [97], [], 0, 0, 1⟩ w) := by
  go_enter Tryd.func20, Tryd.ntmps20
  go_wp2
  refine bodyPost_ret (v := .agg #[.int .i64 4, .string ⟨#[97]⟩, .slice none 0 0, .int .i64 0, .int .i64 0, .int .i64 1]) ?_ rfl ⟨_, rfl, ⟨none, 0, 0, rfl, SV.nil _⟩, two_more (Below.refl _ _) _ _⟩
  exact results_cell_row rfl _ _ w.heap.size _ _ (0, 0) _ rfl ((Whole.made w 24 #[.int .i64 4, .string ⟨#[97]⟩, .slice none 0 0, .int .i64 0, .int .i64 0, .int .i64 1]).later _) Tryd.underlying24 rfl (by kernel_rfl)
theorem one10_3 (n : Int) (w : World) : Calls Tryd.prog 20 #[.int .i64 3, .int .i64 n] w (OneP ⟨5, [97], [], 0, 0, 1⟩ w) := by
  go_enter Tryd.func20, Tryd.ntmps20
  go_wp2
  refine bodyPost_ret (v := .agg #[.int .i64 5, .string ⟨#[97]⟩, .slice none 0 0, .int .i64 0, .int .i64 0, .int .i64 1]) ?_ rfl ⟨_, rfl, ⟨none, 0, 0, rfl, SV.nil _⟩, two_more (Below.refl _ _) _ _⟩
  exact results_cell_row rfl _ _ w.heap.size _ _ (0, 0) _ rfl ((Whole.made w 24 #[.int .i64 5, .string ⟨#[97]⟩, .slice none 0 0, .int .i64 0, .int .i64 0, .int .i64 1]).later _) Tryd.underlying24 rfl (by kernel_rfl)
theorem one10_11 (w : World) : Calls Tryd.prog 20 #[.int .i64 1, .int .i64 1] w (OneP ⟨1, [97], [1], 0, 0, 0⟩ w) := by
  have hsv : SV ((w.alloc (.cells #[.int .i64 1, .string ⟨#[97]⟩, .slice (some ⟨w.heap.size + 1, 0, none⟩) 1 1, .int .i64 0, .int .i64 0, .int .i64 0] 24)).alloc (.cells #[.int .u8 1] 5)) (.slice (some ⟨w.heap.size + 1, 0, none⟩) 1 1) (bys [1]) := by
    have := sv_lit (w.alloc (.cells #[.int .i64 1, .string ⟨#[97]⟩, .slice (some ⟨w.heap.size + 1, 0, none⟩) 1 1, .int .i64 0, .int .i64 0, .int .i64 0] 24)) [1] 1 5 (0, 0) rfl (by decide)
    rw [show (w.alloc (.cells #[.int .i64 1, .string ⟨#[97]⟩, .slice (some ⟨w.heap.size + 1, 0, none⟩) 1 1, .int .i64 0, .int .i64 0, .int .i64 0] 24)).heap.size = w.heap.size + 1 by simp] at this
    exact this
  replace hsv := Lib.hid hsv
  go_enter Tryd.func20, Tryd.ntmps20
  go_wp2
  refine bodyPost_ret (v := .agg #[.int .i64 1, .string ⟨#[97]⟩, .slice (some ⟨w.heap.size + 1, 0, none⟩) 1 1, .int .i64 0, .int .i64 0, .int .i64 0]) ?_ rfl ⟨_, rfl, ⟨_, _, _, rfl, hsv.out⟩, two_more (Below.refl _ _) _ _⟩
  exact results_cell_row rfl _ _ w.heap.size _ _ (0, 0) _ rfl ((Whole.made w 24 #[.int .i64 1, .string ⟨#[97]⟩, .slice (some ⟨w.heap.size + 1, 0, none⟩) 1 1, .int .i64 0, .int .i64 0, .int .i64 0]).later _) Tryd.underlying24 rfl (by kernel_rfl)
theorem one10_12 (w : World) : Calls Tryd.prog 20 #[.int .i64 1, .int .i64 2] w (OneP ⟨1, [97], [2], 0, 0, 0⟩ w) := by
  have hsv : SV ((w.alloc (.cells #[.int .i64 1, .string ⟨#[97]⟩, .slice (some ⟨w.heap.size + 1, 0, none⟩) 1 1, .int .i64 0, .int .i64 0, .int .i64 0] 24)).alloc (.cells #[.int .u8 2] 5)) (.slice (some ⟨w.heap.size + 1, 0, none⟩) 1 1) (bys [2]) := by
    have := sv_lit (w.alloc (.cells #[.int .i64 1, .string ⟨#[97]⟩, .slice (some ⟨w.heap.size + 1, 0, none⟩) 1 1, .int .i64 0, .int .i64 0, .int .i64 0] 24)) [2] 1 5 (0, 0) rfl (by decide)
    rw [show (w.alloc (.cells #[.int .i64 1, .string ⟨#[97]⟩, .slice (some ⟨w.heap.size + 1, 0, none⟩) 1 1, .int .i64 0, .int .i64 0, .int .i64 0] 24)).heap.size = w.heap.size + 1 by simp] at this
    exact this
  replace hsv := Lib.hid hsv
  go_enter Tryd.func20, Tryd.ntmps20
  go_wp2
  refine bodyPost_ret (v := .agg #[.int .i64 1, .string ⟨#[97]⟩, .slice (some ⟨w.heap.size + 1, 0, none⟩) 1 1, .int .i64 0, .int .i64 0, .int .i64 0]) ?_ rfl ⟨_, rfl, ⟨_, _, _, rfl, hsv.out⟩, two_more (Below.refl _ _) _ _⟩
  exact results_cell_row rfl _ _ w.heap.size _ _ (0, 0) _ rfl ((Whole.made w 24 #[.int .i64 1, .string ⟨#[97]⟩, .slice (some ⟨w.heap.size + 1, 0, none⟩) 1 1, .int .i64 0, .int .i64 0, .int .i64 0]).later _) Tryd.underlying24 rfl (by kernel_rfl)
set_option maxHeartbeats 4000000 in
theorem tight_none (p q x y : Int) (a b : Ox) (w : World) (ht : Tog w) (hp : 0 ≤ p ∧ p ≤ 255) (hq : 0 ≤ q ∧ q ≤ 255) (hx : p % 4 = x) (hy : q % 4 = y) (x1 : (x == 1) = false) (y1 : (y == 1) = false) (hcp : compX x y = false) (hA : Asks cS a b) (hs : swapB cS a b = false)
    (O1 : ∀ w, Calls Tryd.prog 20 #[.int .i64 x, .int .i64 1] w (OneP a w)) (O2 : ∀ w, Calls Tryd.prog 20 #[.int .i64 y, .int .i64 2] w (OneP b w)) :
    Calls Tryd.prog 5 #[.int .u8 p, .int .u8 q] w fun e w' => e = .returned (.bool true) ∧ Below w.heap.size w w' := by
  have LV := Lib.hid (fun w' (h : Below w.heap.size w w') => live10_any w' (ht.on h))
  have CP := fun w' (h : Below w.heap.size w w') => mcompat10_any x y w' (ht.on h)
  rw [hcp] at CP
  clear ht
  have MW := Lib.hid (fun v u1 u2 w => mswap_op hA v u1 u2 w)
  unfold OneP at O1 O2
  have G1 := Lib.hid O1
  have G2 := Lib.hid O2
  replace CP := Lib.hid CP
  have PL : ∀ w' : World, PS (w'.alloc (.cells #[.string ⟨#[97]⟩, .int .i64 2, .slice none 0 0, .int .i64 0, .int .i64 9, .int .i64 3] 38)) (.slice (some ⟨w'.heap.size, 0, none⟩) 1 1) cS := fun w' => (PO.lit w' ⟨[97], ⟨2, [], 0, 9, 3⟩⟩ (.slice none 0 0) (SV.nil _)).ps
  replace PL := Lib.hid PL
  clear O1 O2 hcp
  go_enter Tryd.func5, Tryd.ntmps5
  go_wp2_with fail
  refine (CP.out _ (Below.refl _ _)).mono ?_
  rintro e w1 ⟨rfl, b1⟩
  have B1 := Lib.hid b1
  clear b1 CP
  go_wp2_with fail
  have hcs := Lib.hid ((PL.out w1).keep (Keeps.alloc _ (.cells #[.int .i64 3, .string ⟨#[97]⟩, .slice none 0 0, .int .i64 0, .int .i64 0, .int .i64 0] 24)))
  have p8 := Lib.hid (Whole.second w1 (.cells #[.string ⟨#[97]⟩, .int .i64 2, .slice none 0 0, .int .i64 0, .int .i64 9, .int .i64 3] 38) 24 #[.int .i64 3, .string ⟨#[97]⟩, .slice none 0 0, .int .i64 0, .int .i64 0, .int .i64 0])
  have B2 := Lib.hid (B1.out.trans ((two_more (Below.refl _ w1) (.cells #[.string ⟨#[97]⟩, .int .i64 2, .slice none 0 0, .int .i64 0, .int .i64 9, .int .i64 3] 38) (.cells #[.int .i64 3, .string ⟨#[97]⟩, .slice none 0 0, .int .i64 0, .int .i64 0, .int .i64 0] 24)).mono B1.out.size))
  generalize (w1.alloc (.cells #[.string ⟨#[97]⟩, .int .i64 2, .slice none 0 0, .int .i64 0, .int .i64 9, .int .i64 3] 38)).alloc (.cells #[.int .i64 3, .string ⟨#[97]⟩, .slice none 0 0, .int .i64 0, .int .i64 0, .int .i64 0] 24) = w2 at *
  refine (G1.out w2).mono ?_
  rintro e w3 ⟨u1, rfl, h1, b3⟩
  replace hcs := Lib.hid (hcs.out.on b3)
  replace p8 := Lib.hid (p8.out.on b3)
  have B3 := Lib.hid (B2.out.trans (b3.mono B2.out.size))
  clear b3 PL B1
  go_wp2_with fail
  refine (G2.out w3).mono ?_
  rintro e w4 ⟨u2, rfl, h2, b4⟩
  replace hcs := Lib.hid (hcs.out.on b4)
  replace p8 := Lib.hid (p8.out.on b4)
  replace h1 := Lib.hid (stays_op _ _ _ _ h1 b4)
  replace h2 := Lib.hid h2
  have B4 := Lib.hid (B3.out.trans (b4.mono B3.out.size))
  clear b4 B2
  go_wp2_with fail
  refine (MW.out _ _ _ w4 hcs.out h1.out h2.out).mono ?_
  rintro e w5 ⟨rfl, b5⟩
  replace hcs := Lib.hid (hcs.out.on b5)
  replace p8 := Lib.hid (p8.out.on b5)
  have B5 := Lib.hid (B4.out.trans (b5.mono B4.out.size))
  clear b5 B3 B4 MW h1 h2
  rw [hs]
  go_wp2_with fail
  refine (LV.out _ B5.out).mono ?_
  rintro e w9 ⟨rfl, b9⟩
  have B9 := Lib.hid (B5.out.trans (b9.mono B5.out.size))
  clear b9
  go_wp2
  go_ret
  exact ⟨rfl, B9.out⟩
set_option maxHeartbeats 4000000 in
theorem tight_both (p q x y : Int) (a b : Ox) (w : World) (ht : Tog w) (hp : 0 ≤ p ∧ p ≤ 255) (hq : 0 ≤ q ∧ q ≤ 255) (hx : p % 4 = x) (hy : q % 4 = y) (x1 : (x == 1) = true) (y1 : (y == 1) = true) (hcp : compX x y = false) (hA : Asks cS a b)
    (O1 : ∀ w, Calls Tryd.prog 20 #[.int .i64 x, .int .i64 1] w (OneP a w)) (O2 : ∀ w, Calls Tryd.prog 20 #[.int .i64 y, .int .i64 2] w (OneP b w)) :
    Calls Tryd.prog 5 #[.int .u8 p, .int .u8 q] w fun e w' => e = .returned (.bool true) ∧ Below w.heap.size w w' := by
  have O3 := fun w => one10_11 w
  have O4 := fun w => one10_12 w
  unfold OneP at O3 O4
  have G3 := Lib.hid O3
  have G4 := Lib.hid O4
  have hA2 : Asks [] ⟨1, [97], [1], 0, 0, 0⟩ ⟨1, [97], [2], 0, 0, 0⟩ := ⟨St.nil, (fun p h => by cases h), by simp, ⟨by decide, by decide, by refine ⟨?_, ?_, ?_, ?_⟩ <;> exact ⟨by decide, by decide⟩⟩, ⟨by decide, by decide, by refine ⟨?_, ?_, ?_, ?_⟩ <;> exact ⟨by decide, by decide⟩⟩⟩
  have MN := fun u1 u2 w h1 h2 => mswap_op hA2 (.slice none 0 0) u1 u2 w (PS.nil w) h1 h2
  rw [show swapB [] ⟨1, [97], [1], 0, 0, 0⟩ ⟨1, [97], [2], 0, 0, 0⟩ = false from rfl] at MN
  replace MN := Lib.hid MN
  clear O3 O4 hA2
  have LV := Lib.hid (fun w' (h : Below w.heap.size w w') => live10_any w' (ht.on h))
  have CP := fun w' (h : Below w.heap.size w w') => mcompat10_any x y w' (ht.on h)
  rw [hcp] at CP
  clear ht
  have MW := Lib.hid (fun v u1 u2 w => mswap_op hA v u1 u2 w)
  unfold OneP at O1 O2
  have G1 := Lib.hid O1
  have G2 := Lib.hid O2
  replace CP := Lib.hid CP
  have PL : ∀ w' : World, PS (w'.alloc (.cells #[.string ⟨#[97]⟩, .int .i64 2, .slice none 0 0, .int .i64 0, .int .i64 9, .int .i64 3] 38)) (.slice (some ⟨w'.heap.size, 0, none⟩) 1 1) cS := fun w' => (PO.lit w' ⟨[97], ⟨2, [], 0, 9, 3⟩⟩ (.slice none 0 0) (SV.nil _)).ps
  replace PL := Lib.hid PL
  clear O1 O2 hcp
  go_enter Tryd.func5, Tryd.ntmps5
  go_wp2_with fail
  refine (CP.out _ (Below.refl _ _)).mono ?_
  rintro e w1 ⟨rfl, b1⟩
  have B1 := Lib.hid b1
  clear b1 CP
  go_wp2_with fail
  have hcs := Lib.hid ((PL.out w1).keep (Keeps.alloc _ (.cells #[.int .i64 3, .string ⟨#[97]⟩, .slice none 0 0, .int .i64 0, .int .i64 0, .int .i64 0] 24)))
  have p8 := Lib.hid (Whole.second w1 (.cells #[.string ⟨#[97]⟩, .int .i64 2, .slice none 0 0, .int .i64 0, .int .i64 9, .int .i64 3] 38) 24 #[.int .i64 3, .string ⟨#[97]⟩, .slice none 0 0, .int .i64 0, .int .i64 0, .int .i64 0])
  have B2 := Lib.hid (B1.out.trans ((two_more (Below.refl _ w1) (.cells #[.string ⟨#[97]⟩, .int .i64 2, .slice none 0 0, .int .i64 0, .int .i64 9, .int .i64 3] 38) (.cells #[.int .i64 3, .string ⟨#[97]⟩, .slice none 0 0, .int .i64 0, .int .i64 0, .int .i64 0] 24)).mono B1.out.size))
  generalize (w1.alloc (.cells #[.string ⟨#[97]⟩, .int .i64 2, .slice none 0 0, .int .i64 0, .int .i64 9, .int .i64 3] 38)).alloc (.cells #[.int .i64 3, .string ⟨#[97]⟩, .slice none 0 0, .int .i64 0, .int .i64 0, .int .i64 0] 24) = w2 at *
  refine (G1.out w2).mono ?_
  rintro e w3 ⟨u1, rfl, h1, b3⟩
  replace hcs := Lib.hid (hcs.out.on b3)
  replace p8 := Lib.hid (p8.out.on b3)
  have B3 := Lib.hid (B2.out.trans (b3.mono B2.out.size))
  clear b3 PL B1
  go_wp2_with fail
  refine (G2.out w3).mono ?_
  rintro e w4 ⟨u2, rfl, h2, b4⟩
  replace hcs := Lib.hid (hcs.out.on b4)
  replace p8 := Lib.hid (p8.out.on b4)
  replace h1 := Lib.hid (stays_op _ _ _ _ h1 b4)
  replace h2 := Lib.hid h2
  have B4 := Lib.hid (B3.out.trans (b4.mono B3.out.size))
  clear b4 B2
  go_wp2_with fail
  refine (MW.out _ _ _ w4 hcs.out h1.out h2.out).mono ?_
  rintro e w5 ⟨rfl, b5⟩
  replace hcs := Lib.hid (hcs.out.on b5)
  replace p8 := Lib.hid (p8.out.on b5)
  have B5 := Lib.hid (B4.out.trans (b5.mono B4.out.size))
  clear b5 B3 B4 MW h1 h2
  clear hcs p8
  go_wp2_with fail
  refine (G3.out w5).mono ?_
  rintro e w6 ⟨u3, rfl, h3, b6⟩
  have B6 := Lib.hid (B5.out.trans (b6.mono B5.out.size))
  replace h3 := Lib.hid h3
  clear b6
  go_wp2_with fail
  refine (G4.out w6).mono ?_
  rintro e w7 ⟨u4, rfl, h4, b7⟩
  have B7 := Lib.hid (B6.out.trans (b7.mono B6.out.size))
  replace h3 := Lib.hid (stays_op _ _ _ _ h3.out b7)
  replace h4 := Lib.hid h4
  clear b7
  go_wp2_with fail
  refine (MN.out _ _ w7 h3.out h4.out).mono ?_
  rintro e w8 ⟨rfl, b8⟩
  have B8 := Lib.hid (B7.out.trans (b8.mono B7.out.size))
  clear b8
  go_wp2_with fail
  refine (LV.out _ B8.out).mono ?_
  rintro e w9 ⟨rfl, b9⟩
  have B9 := Lib.hid (B8.out.trans (b9.mono B8.out.size))
  clear b9
  go_wp2
  go_ret
  exact ⟨rfl, B9.out⟩
set_option maxHeartbeats 4000000 in
theorem tight_left (p q x y : Int) (a b : Ox) (w : World) (ht : Tog w) (hp : 0 ≤ p ∧ p ≤ 255) (hq : 0 ≤ q ∧ q ≤ 255) (hx : p % 4 = x) (hy : q % 4 = y) (x1 : (x == 1) = true) (y1 : (y == 1) = false) (hcp : compX x y = false) (hA : Asks cS a b) (hA2 : Asks cS dropX b) (hs : swapB cS dropX b = false)
    (O1 : ∀ w, Calls Tryd.prog 20 #[.int .i64 x, .int .i64 1] w (OneP a w)) (O2 : ∀ w, Calls Tryd.prog 20 #[.int .i64 y, .int .i64 2] w (OneP b w)) :
    Calls Tryd.prog 5 #[.int .u8 p, .int .u8 q] w fun e w' => e = .returned (.bool true) ∧ Below w.heap.size w w' := by
  have MD := fun v u2 w (h0 : PS w v cS) (h2 : fOp b u2 w) => mswap_op hA2 v (ov (.slice none 0 0) dropX) u2 w h0 ⟨none, 0, 0, rfl, SV.nil _⟩ h2
  rw [hs] at MD
  unfold ov kst dropX at MD
  replace MD := Lib.hid MD
  clear hA2 hs
  have LV := Lib.hid (fun w' (h : Below w.heap.size w w') => live10_any w' (ht.on h))
  have CP := fun w' (h : Below w.heap.size w w') => mcompat10_any x y w' (ht.on h)
  rw [hcp] at CP
  clear ht
  have MW := Lib.hid (fun v u1 u2 w => mswap_op hA v u1 u2 w)
  unfold OneP at O1 O2
  have G1 := Lib.hid O1
  have G2 := Lib.hid O2
  replace CP := Lib.hid CP
  have PL : ∀ w' : World, PS (w'.alloc (.cells #[.string ⟨#[97]⟩, .int .i64 2, .slice none 0 0, .int .i64 0, .int .i64 9, .int .i64 3] 38)) (.slice (some ⟨w'.heap.size, 0, none⟩) 1 1) cS := fun w' => (PO.lit w' ⟨[97], ⟨2, [], 0, 9, 3⟩⟩ (.slice none 0 0) (SV.nil _)).ps
  replace PL := Lib.hid PL
  clear O1 O2 hcp
  go_enter Tryd.func5, Tryd.ntmps5
  go_wp2_with fail
  refine (CP.out _ (Below.refl _ _)).mono ?_
  rintro e w1 ⟨rfl, b1⟩
  have B1 := Lib.hid b1
  clear b1 CP
  go_wp2_with fail
  have hcs := Lib.hid ((PL.out w1).keep (Keeps.alloc _ (.cells #[.int .i64 3, .string ⟨#[97]⟩, .slice none 0 0, .int .i64 0, .int .i64 0, .int .i64 0] 24)))
  have p8 := Lib.hid (Whole.second w1 (.cells #[.string ⟨#[97]⟩, .int .i64 2, .slice none 0 0, .int .i64 0, .int .i64 9, .int .i64 3] 38) 24 #[.int .i64 3, .string ⟨#[97]⟩, .slice none 0 0, .int .i64 0, .int .i64 0, .int .i64 0])
  have B2 := Lib.hid (B1.out.trans ((two_more (Below.refl _ w1) (.cells #[.string ⟨#[97]⟩, .int .i64 2, .slice none 0 0, .int .i64 0, .int .i64 9, .int .i64 3] 38) (.cells #[.int .i64 3, .string ⟨#[97]⟩, .slice none 0 0, .int .i64 0, .int .i64 0, .int .i64 0] 24)).mono B1.out.size))
  generalize (w1.alloc (.cells #[.string ⟨#[97]⟩, .int .i64 2, .slice none 0 0, .int .i64 0, .int .i64 9, .int .i64 3] 38)).alloc (.cells #[.int .i64 3, .string ⟨#[97]⟩, .slice none 0 0, .int .i64 0, .int .i64 0, .int .i64 0] 24) = w2 at *
  refine (G1.out w2).mono ?_
  rintro e w3 ⟨u1, rfl, h1, b3⟩
  replace hcs := Lib.hid (hcs.out.on b3)
  replace p8 := Lib.hid (p8.out.on b3)
  have B3 := Lib.hid (B2.out.trans (b3.mono B2.out.size))
  clear b3 PL B1
  go_wp2_with fail
  refine (G2.out w3).mono ?_
  rintro e w4 ⟨u2, rfl, h2, b4⟩
  replace hcs := Lib.hid (hcs.out.on b4)
  replace p8 := Lib.hid (p8.out.on b4)
  replace h1 := Lib.hid (stays_op _ _ _ _ h1 b4)
  replace h2 := Lib.hid h2
  have B4 := Lib.hid (B3.out.trans (b4.mono B3.out.size))
  clear b4 B2
  go_wp2_with fail
  refine (MW.out _ _ _ w4 hcs.out h1.out h2.out).mono ?_
  rintro e w5 ⟨rfl, b5⟩
  replace hcs := Lib.hid (hcs.out.on b5)
  replace p8 := Lib.hid (p8.out.on b5)
  have B5 := Lib.hid (B4.out.trans (b5.mono B4.out.size))
  clear b5 B3 B4 MW h1 h2
  go_wp2_with fail
  refine wp_region_facts 5 [] [44] (by kernel_rfl) (by kernel_rfl) (by kernel_rfl) (free_draw w5) ?_
  simp only [List.take_succ_cons, List.take_zero, List.drop_succ_cons, List.drop_zero, List.zipIdx_cons, List.zipIdx_nil, Nat.zero_add, Nat.reduceAdd]
  repeat (show wpF _ _ _ _ _ _ (_ :: _) _ _; first
    | (refine f_skip (fun V => by rfl) ?_; simp only [Act.put, List.setIfInBounds_toArray, List.set_cons_succ, List.set_cons_zero])
      
    | (refine f_load_row (by first | exact cls_free _ | exact cls_row _ _ _ _ | exact cls_fill _ _ _ _ _ | exact cls_butC _ _ | exact cls_butD _ _ _ _ _ _ _) (fun V => by rfl) _ _ rfl _ (fun V => by rfl) _ _ _ (fun w hb => p8.out.on hb) Tryd.underlying24 rfl (by kernel_rfl) ?_; simp only [Act.put, List.setIfInBounds_toArray, List.set_cons_succ, List.set_cons_zero])
    | (refine f_callF (by first | exact cls_free _ | exact cls_row _ _ _ _ | exact cls_fill _ _ _ _ _ | exact cls_butC _ _ | exact cls_butD _ _ _ _ _ _ _) (fOp b) (stays_op _) (fun V => by rfl) (by decide) 20 _ _ rfl (enters_of Tryd.func20 rfl rfl) _ (fun V w hb hk => G2.out w) (fun V => by rfl) ?_; simp only [Act.put, List.setIfInBounds_toArray, List.set_cons_succ, List.set_cons_zero, keyOf, Option.getD_some])
    | (refine f_call (by first | exact cls_free _ | exact cls_row _ _ _ _ | exact cls_fill _ _ _ _ _ | exact cls_butC _ _ | exact cls_butD _ _ _ _ _ _ _) (fun V => by rfl) 17 _ _ rfl (enters_of Tryd.func17 rfl rfl) _ _ (fun V w hb hk => MD.out _ _ w (hcs.out.on hb) (hk.slot 44 rfl rfl)) (fun V => by rfl) ?_; simp only [Act.put, List.setIfInBounds_toArray, List.set_cons_succ, List.set_cons_zero])
    | (refine f_quiet (by first | exact cls_free _ | exact cls_row _ _ _ _ | exact cls_fill _ _ _ _ _ | exact cls_butC _ _ | exact cls_butD _ _ _ _ _ _ _) (fun V => by rfl) (fun V => ⟨_, rfl, by simp⟩) ?_; apply Exists.intro; refine And.intro (fun V w hw K hK => ?_) ?_; ((try simp only [Act.put, List.setIfInBounds_toArray, List.set_cons_succ, List.set_cons_zero] at hK); go_big_quiet_op; exact hK); simp only [Act.put, List.setIfInBounds_toArray, List.set_cons_succ, List.set_cons_zero]))
  refine f_nil ?_
  intro V w6 hq2 hkn
  clear hkn
  have B6 := Lib.hid (B5.out.trans (hq2.mono B5.out.size))
  clear hq2
  go_wp2_with fail
  refine (LV.out _ B6.out).mono ?_
  rintro e w9 ⟨rfl, b9⟩
  have B9 := Lib.hid (B6.out.trans (b9.mono B6.out.size))
  clear b9
  go_wp2
  go_ret
  exact ⟨rfl, B9.out⟩
set_option maxHeartbeats 4000000 in
theorem tight_right (p q x y : Int) (a b : Ox) (w : World) (ht : Tog w) (hp : 0 ≤ p ∧ p ≤ 255) (hq : 0 ≤ q ∧ q ≤ 255) (hx : p % 4 = x) (hy : q % 4 = y) (x1 : (x == 1) = false) (y1 : (y == 1) = true) (hcp : compX x y = false) (hA : Asks cS a b) (hA2 : Asks cS a dropX) (hs : swapB cS a dropX = false)
    (O1 : ∀ w, Calls Tryd.prog 20 #[.int .i64 x, .int .i64 1] w (OneP a w)) (O2 : ∀ w, Calls Tryd.prog 20 #[.int .i64 y, .int .i64 2] w (OneP b w)) :
    Calls Tryd.prog 5 #[.int .u8 p, .int .u8 q] w fun e w' => e = .returned (.bool true) ∧ Below w.heap.size w w' := by
  have MD := fun v u1 w (h0 : PS w v cS) (h1 : fOp a u1 w) => mswap_op hA2 v u1 (ov (.slice none 0 0) dropX) w h0 h1 ⟨none, 0, 0, rfl, SV.nil _⟩
  rw [hs] at MD
  unfold ov kst dropX at MD
  replace MD := Lib.hid MD
  clear hA2 hs
  have LV := Lib.hid (fun w' (h : Below w.heap.size w w') => live10_any w' (ht.on h))
  have CP := fun w' (h : Below w.heap.size w w') => mcompat10_any x y w' (ht.on h)
  rw [hcp] at CP
  clear ht
  have MW := Lib.hid (fun v u1 u2 w => mswap_op hA v u1 u2 w)
  unfold OneP at O1 O2
  have G1 := Lib.hid O1
  have G2 := Lib.hid O2
  replace CP := Lib.hid CP
  have PL : ∀ w' : World, PS (w'.alloc (.cells #[.string ⟨#[97]⟩, .int .i64 2, .slice none 0 0, .int .i64 0, .int .i64 9, .int .i64 3] 38)) (.slice (some ⟨w'.heap.size, 0, none⟩) 1 1) cS := fun w' => (PO.lit w' ⟨[97], ⟨2, [], 0, 9, 3⟩⟩ (.slice none 0 0) (SV.nil _)).ps
  replace PL := Lib.hid PL
  clear O1 O2 hcp
  go_enter Tryd.func5, Tryd.ntmps5
  go_wp2_with fail
  refine (CP.out _ (Below.refl _ _)).mono ?_
  rintro e w1 ⟨rfl, b1⟩
  have B1 := Lib.hid b1
  clear b1 CP
  go_wp2_with fail
  have hcs := Lib.hid ((PL.out w1).keep (Keeps.alloc _ (.cells #[.int .i64 3, .string ⟨#[97]⟩, .slice none 0 0, .int .i64 0, .int .i64 0, .int .i64 0] 24)))
  have p8 := Lib.hid (Whole.second w1 (.cells #[.string ⟨#[97]⟩, .int .i64 2, .slice none 0 0, .int .i64 0, .int .i64 9, .int .i64 3] 38) 24 #[.int .i64 3, .string ⟨#[97]⟩, .slice none 0 0, .int .i64 0, .int .i64 0, .int .i64 0])
  have B2 := Lib.hid (B1.out.trans ((two_more (Below.refl _ w1) (.cells #[.string ⟨#[97]⟩, .int .i64 2, .slice none 0 0, .int .i64 0, .int .i64 9, .int .i64 3] 38) (.cells #[.int .i64 3, .string ⟨#[97]⟩, .slice none 0 0, .int .i64 0, .int .i64 0, .int .i64 0] 24)).mono B1.out.size))
  generalize (w1.alloc (.cells #[.string ⟨#[97]⟩, .int .i64 2, .slice none 0 0, .int .i64 0, .int .i64 9, .int .i64 3] 38)).alloc (.cells #[.int .i64 3, .string ⟨#[97]⟩, .slice none 0 0, .int .i64 0, .int .i64 0, .int .i64 0] 24) = w2 at *
  refine (G1.out w2).mono ?_
  rintro e w3 ⟨u1, rfl, h1, b3⟩
  replace hcs := Lib.hid (hcs.out.on b3)
  replace p8 := Lib.hid (p8.out.on b3)
  have B3 := Lib.hid (B2.out.trans (b3.mono B2.out.size))
  clear b3 PL B1
  go_wp2_with fail
  refine (G2.out w3).mono ?_
  rintro e w4 ⟨u2, rfl, h2, b4⟩
  replace hcs := Lib.hid (hcs.out.on b4)
  replace p8 := Lib.hid (p8.out.on b4)
  replace h1 := Lib.hid (stays_op _ _ _ _ h1 b4)
  replace h2 := Lib.hid h2
  have B4 := Lib.hid (B3.out.trans (b4.mono B3.out.size))
  clear b4 B2
  go_wp2_with fail
  refine (MW.out _ _ _ w4 hcs.out h1.out h2.out).mono ?_
  rintro e w5 ⟨rfl, b5⟩
  replace hcs := Lib.hid (hcs.out.on b5)
  replace p8 := Lib.hid (p8.out.on b5)
  have B5 := Lib.hid (B4.out.trans (b5.mono B4.out.size))
  clear b5 B3 B4 MW h1 h2
  go_wp2_with fail
  refine wp_region_facts 5 [] [50] (by kernel_rfl) (by kernel_rfl) (by kernel_rfl) (free_draw w5) ?_
  simp only [List.take_succ_cons, List.take_zero, List.drop_succ_cons, List.drop_zero, List.zipIdx_cons, List.zipIdx_nil, Nat.zero_add, Nat.reduceAdd]
  repeat (show wpF _ _ _ _ _ _ (_ :: _) _ _; first
    | (refine f_skip (fun V => by rfl) ?_; simp only [Act.put, List.setIfInBounds_toArray, List.set_cons_succ, List.set_cons_zero])
      
    | (refine f_load_row (by first | exact cls_free _ | exact cls_row _ _ _ _ | exact cls_fill _ _ _ _ _ | exact cls_butC _ _ | exact cls_butD _ _ _ _ _ _ _) (fun V => by rfl) _ _ rfl _ (fun V => by rfl) _ _ _ (fun w hb => p8.out.on hb) Tryd.underlying24 rfl (by kernel_rfl) ?_; simp only [Act.put, List.setIfInBounds_toArray, List.set_cons_succ, List.set_cons_zero])
    | (refine f_callF (by first | exact cls_free _ | exact cls_row _ _ _ _ | exact cls_fill _ _ _ _ _ | exact cls_butC _ _ | exact cls_butD _ _ _ _ _ _ _) (fOp a) (stays_op _) (fun V => by rfl) (by decide) 20 _ _ rfl (enters_of Tryd.func20 rfl rfl) _ (fun V w hb hk => G1.out w) (fun V => by rfl) ?_; simp only [Act.put, List.setIfInBounds_toArray, List.set_cons_succ, List.set_cons_zero, keyOf, Option.getD_some])
    | (refine f_call (by first | exact cls_free _ | exact cls_row _ _ _ _ | exact cls_fill _ _ _ _ _ | exact cls_butC _ _ | exact cls_butD _ _ _ _ _ _ _) (fun V => by rfl) 17 _ _ rfl (enters_of Tryd.func17 rfl rfl) _ _ (fun V w hb hk => MD.out _ _ w (hcs.out.on hb) (hk.slot 50 rfl rfl)) (fun V => by rfl) ?_; simp only [Act.put, List.setIfInBounds_toArray, List.set_cons_succ, List.set_cons_zero])
    | (refine f_quiet (by first | exact cls_free _ | exact cls_row _ _ _ _ | exact cls_fill _ _ _ _ _ | exact cls_butC _ _ | exact cls_butD _ _ _ _ _ _ _) (fun V => by rfl) (fun V => ⟨_, rfl, by simp⟩) ?_; apply Exists.intro; refine And.intro (fun V w hw K hK => ?_) ?_; ((try simp only [Act.put, List.setIfInBounds_toArray, List.set_cons_succ, List.set_cons_zero] at hK); go_big_quiet_op; exact hK); simp only [Act.put, List.setIfInBounds_toArray, List.set_cons_succ, List.set_cons_zero]))
  refine f_nil ?_
  intro V w6 hq2 hkn
  clear hkn
  have B6 := Lib.hid (B5.out.trans (hq2.mono B5.out.size))
  clear hq2
  go_wp2_with fail
  refine (LV.out _ B6.out).mono ?_
  rintro e w9 ⟨rfl, b9⟩
  have B9 := Lib.hid (B6.out.trans (b9.mono B6.out.size))
  clear b9
  go_wp2
  go_ret
  exact ⟨rfl, B9.out⟩
set_option maxHeartbeats 1000000 in
theorem tight_yes (p q x y : Int) (w : World) (ht : Tog w) (hp : 0 ≤ p ∧ p ≤ 255) (hq : 0 ≤ q ∧ q ≤ 255) (hx : p % 4 = x) (hy : q % 4 = y) (hcp : compX x y = true) :
    Calls Tryd.prog 5 #[.int .u8 p, .int .u8 q] w fun e w' => e = .returned (.bool true) ∧ Below w.heap.size w w' := by
  have LV := Lib.hid (fun w' (h : Below w.heap.size w w') => live10_any w' (ht.on h))
  have CP := fun w' (h : Below w.heap.size w w') => mcompat10_any x y w' (ht.on h)
  rw [hcp] at CP
  clear ht
  replace CP := Lib.hid CP
  go_enter Tryd.func5, Tryd.ntmps5
  go_wp2_with fail
  refine (CP.out _ (Below.refl _ _)).mono ?_
  rintro e w1 ⟨rfl, b1⟩
  have B1 := Lib.hid b1
  clear b1 CP
  go_wp2_with fail
  refine (LV.out _ B1.out).mono ?_
  rintro e w9 ⟨rfl, b9⟩
  have B9 := Lib.hid (B1.out.trans (b9.mono B1.out.size))
  clear b9
  go_wp2
  go_ret
  exact ⟨rfl, B9.out⟩
theorem tight10_law (p q : Int) (w : World) (ht : Tog w) (hp : 0 ≤ p ∧ p ≤ 255) (hq : 0 ≤ q ∧ q ≤ 255) :
    Calls Tryd.prog 5 #[.int .u8 p, .int .u8 q] w fun e w' => e = .returned (.bool true) ∧ Below w.heap.size w w' := by
  have hx : p % 4 = 0 ∨ p % 4 = 1 ∨ p % 4 = 2 ∨ p % 4 = 3 := by omega
  have hy : q % 4 = 0 ∨ q % 4 = 1 ∨ q % 4 = 2 ∨ q % 4 = 3 := by omega
  rcases hx with hx | hx | hx | hx
  · rcases hy with hy | hy | hy | hy
    · exact tight_yes p q 0 0 w ht hp hq hx hy rfl
    · exact tight_right p q 0 1 ⟨0, [97], [], 0, 0, 1⟩ ⟨1, [97], [2], 0, 0, 0⟩ w ht hp hq hx hy rfl rfl rfl ⟨st_cS, i64_cS, by decide, ⟨by decide, by decide, ⟨⟨by decide, by decide⟩, ⟨by decide, by decide⟩, ⟨by decide, by decide⟩, ⟨by decide, by decide⟩⟩⟩, ⟨by decide, by decide, ⟨⟨by decide, by decide⟩, ⟨by decide, by decide⟩, ⟨by decide, by decide⟩, ⟨by decide, by decide⟩⟩⟩⟩ ⟨st_cS, i64_cS, by decide, ⟨by decide, by decide, ⟨⟨by decide, by decide⟩, ⟨by decide, by decide⟩, ⟨by decide, by decide⟩, ⟨by decide, by decide⟩⟩⟩, ⟨by decide, by decide, ⟨⟨by decide, by decide⟩, ⟨by decide, by decide⟩, ⟨by decide, by decide⟩, ⟨by decide, by decide⟩⟩⟩⟩ rfl (fun w => one10_0 1 w) (fun w => one10_12 w)
    · exact tight_none p q 0 2 ⟨0, [97], [], 0, 0, 1⟩ ⟨4, [97], [], 0, 0, 1⟩ w ht hp hq hx hy rfl rfl rfl ⟨st_cS, i64_cS, by decide, ⟨by decide, by decide, ⟨⟨by decide, by decide⟩, ⟨by decide, by decide⟩, ⟨by decide, by decide⟩, ⟨by decide, by decide⟩⟩⟩, ⟨by decide, by decide, ⟨⟨by decide, by decide⟩, ⟨by decide, by decide⟩, ⟨by decide, by decide⟩, ⟨by decide, by decide⟩⟩⟩⟩ rfl (fun w => one10_0 1 w) (fun w => one10_2 2 w)
    · exact tight_none p q 0 3 ⟨0, [97], [], 0, 0, 1⟩ ⟨5, [97], [], 0, 0, 1⟩ w ht hp hq hx hy rfl rfl rfl ⟨st_cS, i64_cS, by decide, ⟨by decide, by decide, ⟨⟨by decide, by decide⟩, ⟨by decide, by decide⟩, ⟨by decide, by decide⟩, ⟨by decide, by decide⟩⟩⟩, ⟨by decide, by decide, ⟨⟨by decide, by decide⟩, ⟨by decide, by decide⟩, ⟨by decide, by decide⟩, ⟨by decide, by decide⟩⟩⟩⟩ rfl (fun w => one10_0 1 w) (fun w => one10_3 2 w)
  · rcases hy with hy | hy | hy | hy
    · exact tight_left p q 1 0 ⟨1, [97], [1], 0, 0, 0⟩ ⟨0, [97], [], 0, 0, 1⟩ w ht hp hq hx hy rfl rfl rfl ⟨st_cS, i64_cS, by decide, ⟨by decide, by decide, ⟨⟨by decide, by decide⟩, ⟨by decide, by decide⟩, ⟨by decide, by decide⟩, ⟨by decide, by decide⟩⟩⟩, ⟨by decide, by decide, ⟨⟨by decide, by decide⟩, ⟨by decide, by decide⟩, ⟨by decide, by decide⟩, ⟨by decide, by decide⟩⟩⟩⟩ ⟨st_cS, i64_cS, by decide, ⟨by decide, by decide, ⟨⟨by decide, by decide⟩, ⟨by decide, by decide⟩, ⟨by decide, by decide⟩, ⟨by decide, by decide⟩⟩⟩, ⟨by decide, by decide, ⟨⟨by decide, by decide⟩, ⟨by decide, by decide⟩, ⟨by decide, by decide⟩, ⟨by decide, by decide⟩⟩⟩⟩ rfl (fun w => one10_11 w) (fun w => one10_0 2 w)
    · exact tight_both p q 1 1 ⟨1, [97], [1], 0, 0, 0⟩ ⟨1, [97], [2], 0, 0, 0⟩ w ht hp hq hx hy rfl rfl rfl ⟨st_cS, i64_cS, by decide, ⟨by decide, by decide, ⟨⟨by decide, by decide⟩, ⟨by decide, by decide⟩, ⟨by decide, by decide⟩, ⟨by decide, by decide⟩⟩⟩, ⟨by decide, by decide, ⟨⟨by decide, by decide⟩, ⟨by decide, by decide⟩, ⟨by decide, by decide⟩, ⟨by decide, by decide⟩⟩⟩⟩ (fun w => one10_11 w) (fun w => one10_12 w)
    · exact tight_left p q 1 2 ⟨1, [97], [1], 0, 0, 0⟩ ⟨4, [97], [], 0, 0, 1⟩ w ht hp hq hx hy rfl rfl rfl ⟨st_cS, i64_cS, by decide, ⟨by decide, by decide, ⟨⟨by decide, by decide⟩, ⟨by decide, by decide⟩, ⟨by decide, by decide⟩, ⟨by decide, by decide⟩⟩⟩, ⟨by decide, by decide, ⟨⟨by decide, by decide⟩, ⟨by decide, by decide⟩, ⟨by decide, by decide⟩, ⟨by decide, by decide⟩⟩⟩⟩ ⟨st_cS, i64_cS, by decide, ⟨by decide, by decide, ⟨⟨by decide, by decide⟩, ⟨by decide, by decide⟩, ⟨by decide, by decide⟩, ⟨by decide, by decide⟩⟩⟩, ⟨by decide, by decide, ⟨⟨by decide, by decide⟩, ⟨by decide, by decide⟩, ⟨by decide, by decide⟩, ⟨by decide, by decide⟩⟩⟩⟩ rfl (fun w => one10_11 w) (fun w => one10_2 2 w)
    · exact tight_left p q 1 3 ⟨1, [97], [1], 0, 0, 0⟩ ⟨5, [97], [], 0, 0, 1⟩ w ht hp hq hx hy rfl rfl rfl ⟨st_cS, i64_cS, by decide, ⟨by decide, by decide, ⟨⟨by decide, by decide⟩, ⟨by decide, by decide⟩, ⟨by decide, by decide⟩, ⟨by decide, by decide⟩⟩⟩, ⟨by decide, by decide, ⟨⟨by decide, by decide⟩, ⟨by decide, by decide⟩, ⟨by decide, by decide⟩, ⟨by decide, by decide⟩⟩⟩⟩ ⟨st_cS, i64_cS, by decide, ⟨by decide, by decide, ⟨⟨by decide, by decide⟩, ⟨by decide, by decide⟩, ⟨by decide, by decide⟩, ⟨by decide, by decide⟩⟩⟩, ⟨by decide, by decide, ⟨⟨by decide, by decide⟩, ⟨by decide, by decide⟩, ⟨by decide, by decide⟩, ⟨by decide, by decide⟩⟩⟩⟩ rfl (fun w => one10_11 w) (fun w => one10_3 2 w)
  · rcases hy with hy | hy | hy | hy
    · exact tight_none p q 2 0 ⟨4, [97], [], 0, 0, 1⟩ ⟨0, [97], [], 0, 0, 1⟩ w ht hp hq hx hy rfl rfl rfl ⟨st_cS, i64_cS, by decide, ⟨by decide, by decide, ⟨⟨by decide, by decide⟩, ⟨by decide, by decide⟩, ⟨by decide, by decide⟩, ⟨by decide, by decide⟩⟩⟩, ⟨by decide, by decide, ⟨⟨by decide, by decide⟩, ⟨by decide, by decide⟩, ⟨by decide, by decide⟩, ⟨by decide, by decide⟩⟩⟩⟩ rfl (fun w => one10_2 1 w) (fun w => one10_0 2 w)
    · exact tight_right p q 2 1 ⟨4, [97], [], 0, 0, 1⟩ ⟨1, [97], [2], 0, 0, 0⟩ w ht hp hq hx hy rfl rfl rfl ⟨st_cS, i64_cS, by decide, ⟨by decide, by decide, ⟨⟨by decide, by decide⟩, ⟨by decide, by decide⟩, ⟨by decide, by decide⟩, ⟨by decide, by decide⟩⟩⟩, ⟨by decide, by decide, ⟨⟨by decide, by decide⟩, ⟨by decide, by decide⟩, ⟨by decide, by decide⟩, ⟨by decide, by decide⟩⟩⟩⟩ ⟨st_cS, i64_cS, by decide, ⟨by decide, by decide, ⟨⟨by decide, by decide⟩, ⟨by decide, by decide⟩, ⟨by decide, by decide⟩, ⟨by decide, by decide⟩⟩⟩, ⟨by decide, by decide, ⟨⟨by decide, by decide⟩, ⟨by decide, by decide⟩, ⟨by decide, by decide⟩, ⟨by decide, by decide⟩⟩⟩⟩ rfl (fun w => one10_2 1 w) (fun w => one10_12 w)
    · exact tight_yes p q 2 2 w ht hp hq hx hy rfl
    · exact tight_yes p q 2 3 w ht hp hq hx hy rfl
  · rcases hy with hy | hy | hy | hy
    · exact tight_none p q 3 0 ⟨5, [97], [], 0, 0, 1⟩ ⟨0, [97], [], 0, 0, 1⟩ w ht hp hq hx hy rfl rfl rfl ⟨st_cS, i64_cS, by decide, ⟨by decide, by decide, ⟨⟨by decide, by decide⟩, ⟨by decide, by decide⟩, ⟨by decide, by decide⟩, ⟨by decide, by decide⟩⟩⟩, ⟨by decide, by decide, ⟨⟨by decide, by decide⟩, ⟨by decide, by decide⟩, ⟨by decide, by decide⟩, ⟨by decide, by decide⟩⟩⟩⟩ rfl (fun w => one10_3 1 w) (fun w => one10_0 2 w)
    · exact tight_right p q 3 1 ⟨5, [97], [], 0, 0, 1⟩ ⟨1, [97], [2], 0, 0, 0⟩ w ht hp hq hx hy rfl rfl rfl ⟨st_cS, i64_cS, by decide, ⟨by decide, by decide, ⟨⟨by decide, by decide⟩, ⟨by decide, by decide⟩, ⟨by decide, by decide⟩, ⟨by decide, by decide⟩⟩⟩, ⟨by decide, by decide, ⟨⟨by decide, by decide⟩, ⟨by decide, by decide⟩, ⟨by decide, by decide⟩, ⟨by decide, by decide⟩⟩⟩⟩ ⟨st_cS, i64_cS, by decide, ⟨by decide, by decide, ⟨⟨by decide, by decide⟩, ⟨by decide, by decide⟩, ⟨by decide, by decide⟩, ⟨by decide, by decide⟩⟩⟩, ⟨by decide, by decide, ⟨⟨by decide, by decide⟩, ⟨by decide, by decide⟩, ⟨by decide, by decide⟩, ⟨by decide, by decide⟩⟩⟩⟩ rfl (fun w => one10_3 1 w) (fun w => one10_12 w)
    · exact tight_yes p q 3 2 w ht hp hq hx hy rfl
    · exact tight_yes p q 3 3 w ht hp hq hx hy rfl
end Go.Proofs.YtlpgmmcdcjkkiaaDoor
