/- Layer 7: contracts of the program's zero and Check. -/
import Derived.Test.YtelamhdnefnceaaPageSlot
import Derived.Test.YtelamhdnefnceaaRegionNew
namespace Go.Proofs.Ytelamhdnefnceaa
set_option maxRecDepth 20000
open Go.RowKit Go.Sort

theorem allZ_snoc (l : List UInt8) (k : Nat) (x : UInt8) (hx : l[k]? = some x) : allZ (l.take (k + 1)) = (allZ (l.take k) && x == 0) := by
  rw [List.take_add_one, hx]
  simp [allZ]
theorem allZ_no {l : List UInt8} {k : Nat} {x : UInt8} (hx : l[k]? = some x) (h : x ≠ 0) : allZ l = false := by
  simp only [allZ, List.all_eq_false]
  exact ⟨x, List.mem_of_getElem? hx, by simpa using h⟩

theorem zero_any (v : Value) (l : List UInt8) (w : World) (hl : l.length ≤ 1073741824) (hv : SV w v (bys l)) :
    Calls Try.prog 46 #[v] w fun e w' => e = .returned (.bool (allZ l)) ∧ w = w' := by
  obtain ⟨A, c, rfl, g1, g2, g3, g4⟩ := hv
  simp only [bys_len, maxLen] at *
  have HC : Hid (∀ k x, l[k]? = some x → ∃ b off, A = some ⟨b, off, none⟩ ∧ w.cell? ⟨b, off + k, none⟩ = some (.int .u8 (x : UInt8).toNat)) := by
    intro k x hx
    obtain ⟨b, off, hA, hc⟩ := g4 (bys_ne (by have := (List.getElem?_eq_some_iff.1 hx).1; omega))
    exact ⟨b, off, hA, hc k _ (by simp [bys, hx])⟩
  clear g4 g3
  go_enter Try.func46, Try.ntmps46
  go_wp2
  go_loop [7] (fun i => ∃ k : Nat, k ≤ l.length ∧ i = .int .i64 k ∧ allZ (l.take k) = true) (fun i => l.length - (intOf i).toNat)
  case atStart => exact ⟨0, by omega, rfl, by simp [allZ]⟩
  case round =>
    obtain ⟨k, hk, rfl, hz⟩ := hrel
    have HZ := Lib.hid hz
    clear hz
    by_cases hlt : k < l.length
    · obtain ⟨x, hx⟩ : ∃ x : UInt8, l[k]? = some x := ⟨_, List.getElem?_eq_getElem hlt⟩
      obtain ⟨b, off, hA, hc⟩ := HC.out k x hx
      subst hA
      have HX := Lib.hid hx
      clear hx
      have hx0 := u8_nat_lt x
      by_cases h0 : x = 0
      · subst h0
        go_wp2
        go_round
        case rel => exact ⟨k + 1, by omega, by go_num, by rw [allZ_snoc l k 0 HX.out, HZ.out]; rfl⟩
        case measure => simp [intOf]; omega
      · have h1 : ((x.toNat : Int) == 0) = false := by
          rw [beq_eq_false_iff_ne]
          intro e
          exact h0 (UInt8.toNat_inj.1 (by simp; omega))
        have HN := Lib.hid (allZ_no HX.out h0)
        clear h0
        go_wp2
        go_ret
        exact ⟨ret_bool HN.out.symm, rfl⟩
    · obtain rfl : k = l.length := by omega
      have hZ := HZ.out
      rw [List.take_length] at hZ
      go_wp2
      go_ret
      exact ⟨rfl, rfl⟩

/-- What Check tells. -/
def ck7 (b : Bool) : Int := if b then 0 else 14
theorem zeroA (l : List UInt8) (w : World) (g : Nat) (hl : l.length = 512) (h : Whole w g 23 (ab l)) :
    Calls Try.prog 46 #[.slice (some ⟨g, 24, none⟩) 8 488] w fun e w' => e = .returned (.bool (allZ (midL l 24 8))) ∧ w = w' := by
  have h1 := (sv_ab_cut h 512 hl (by omega) 24 (by omega)).takev 8 (by omega)
  have h2 : (bys (l.drop 24)).take 8 = bys (midL l 24 8) := by simp [midL, bys]
  rw [h2] at h1
  exact zero_any _ (midL l 24 8) w (by rw [mid_len (by omega)]; omega) h1
theorem zeroB (l : List UInt8) (w : World) (g : Nat) (hl : l.length = 512) (h : Whole w g 23 (ab l)) :
    Calls Try.prog 46 #[.slice (some ⟨g, 480, none⟩) 32 32] w fun e w' => e = .returned (.bool (allZ (l.drop 480))) ∧ w = w' :=
  zero_any _ (l.drop 480) w (by simp; omega) (sv_ab_cut h 512 hl (by omega) 480 (by omega))
theorem check7_no (l : List UInt8) (no : Int) (w : World) (hl : l.length = 512) (hN : ¬ numA l 12 2 = no) :
    Calls Try.prog 31 #[.agg (ab l), .int .i64 no] w fun e w' => e = .returned (.int .i64 14) ∧ Below w.heap.size w w' := by
  have NO := Lib.hid (fun w => pno_any l w hl)
  have P1 := Whole.made w 23 (ab l)
  generalize numA l 12 2 = q at *
  have HN := Lib.hid (show (q != no) = true by simpa using hN)
  clear hN
  go_enter Try.func31, Try.ntmps31
  go_wp2_with (refine wpList_load_ab rfl _ (.tmp 2) rfl (w.heap.size) rfl _ _ _ (l) (hl) (P1) Try.underlying23 (by kernel_rfl) ?_)
  refine (NO.out _).mono ?_
  rintro e w1 ⟨rfl, b1⟩
  go_wp2_with (refine wpList_bin rfl .neq 3 _ (.tmp 9) (.tmp 10) rfl _ _ (.bool true) rfl rfl (run_neq_i _ _ _ _ true (HN.out) _) (guard_neq_i _ _ _ _ _ _ _) ?_)
  go_ret
  exact ⟨rfl, bthen ((Below.refl _ _).alloc (Nat.le_refl _) _) b1⟩

theorem check7_z1 (l : List UInt8) (w : World) (hl : l.length = 512) (h1 : allZ (midL l 24 8) = false) :
    Calls Try.prog 31 #[.agg (ab l), .int .i64 (numA l 12 2)] w fun e w' => e = .returned (.int .i64 14) ∧ Below w.heap.size w w' := by
  have NO := Lib.hid (fun w => pno_any l w hl)
  have P1 := Whole.made w 23 (ab l)
  have Z1 := Lib.hid (fun w' (h : Whole w' w.heap.size 23 (ab l)) => zeroA l w' _ hl h)
  have Z2 := Lib.hid (fun w' (h : Whole w' w.heap.size 23 (ab l)) => zeroB l w' _ hl h)
  have GD := Lib.hid (fun w' (h : Whole w' w.heap.size 23 (ab l)) => good_any (.slice (some ⟨w.heap.size, 0, none⟩) 512 512) l w' (by omega) (sv_ab h 512 hl (by omega)))
  have HN := Lib.hid (show (numA l 12 2 != numA l 12 2) = false by simp)
  generalize numA l 12 2 = q at *
  rw [h1] at Z1
  clear h1
  go_enter Try.func31, Try.ntmps31
  go_wp2_with (refine wpList_load_ab rfl _ (.tmp 2) rfl (w.heap.size) rfl _ _ _ (l) (hl) (P1) Try.underlying23 (by kernel_rfl) ?_)
  refine (NO.out _).mono ?_
  rintro e w1 ⟨rfl, b1⟩
  have p1 := P1.on b1
  have B1 := Lib.hid (bthen ((Below.refl w.heap.size w).alloc (Nat.le_refl _) (.cells (ab l) 23)) b1)
  clear b1 P1
  go_wp2_with (refine wpList_bin rfl .neq 3 _ (.tmp 9) (.tmp 10) rfl _ _ (.bool false) rfl rfl (run_neq_i _ _ _ _ false (HN.out) _) (guard_neq_i _ _ _ _ _ _ _) ?_)
  refine (Z1.out _ p1).mono ?_
  rintro e w2 ⟨rfl, rfl⟩
  go_wp2_with fail
  go_ret
  exact ⟨rfl, B1.out⟩
theorem check7_z2 (l : List UInt8) (w : World) (hl : l.length = 512) (h1 : allZ (midL l 24 8) = true) (h2 : allZ (l.drop 480) = false) :
    Calls Try.prog 31 #[.agg (ab l), .int .i64 (numA l 12 2)] w fun e w' => e = .returned (.int .i64 14) ∧ Below w.heap.size w w' := by
  have NO := Lib.hid (fun w => pno_any l w hl)
  have P1 := Whole.made w 23 (ab l)
  have Z1 := Lib.hid (fun w' (h : Whole w' w.heap.size 23 (ab l)) => zeroA l w' _ hl h)
  have Z2 := Lib.hid (fun w' (h : Whole w' w.heap.size 23 (ab l)) => zeroB l w' _ hl h)
  have GD := Lib.hid (fun w' (h : Whole w' w.heap.size 23 (ab l)) => good_any (.slice (some ⟨w.heap.size, 0, none⟩) 512 512) l w' (by omega) (sv_ab h 512 hl (by omega)))
  have HN := Lib.hid (show (numA l 12 2 != numA l 12 2) = false by simp)
  generalize numA l 12 2 = q at *
  rw [h1] at Z1
  rw [h2] at Z2
  clear h1 h2
  go_enter Try.func31, Try.ntmps31
  go_wp2_with (refine wpList_load_ab rfl _ (.tmp 2) rfl (w.heap.size) rfl _ _ _ (l) (hl) (P1) Try.underlying23 (by kernel_rfl) ?_)
  refine (NO.out _).mono ?_
  rintro e w1 ⟨rfl, b1⟩
  have p1 := P1.on b1
  have B1 := Lib.hid (bthen ((Below.refl w.heap.size w).alloc (Nat.le_refl _) (.cells (ab l) 23)) b1)
  clear b1 P1
  go_wp2_with (refine wpList_bin rfl .neq 3 _ (.tmp 9) (.tmp 10) rfl _ _ (.bool false) rfl rfl (run_neq_i _ _ _ _ false (HN.out) _) (guard_neq_i _ _ _ _ _ _ _) ?_)
  refine (Z1.out _ p1).mono ?_
  rintro e w2 ⟨rfl, rfl⟩
  go_wp2_with fail
  refine (Z2.out _ p1).mono ?_
  rintro e w3 ⟨rfl, rfl⟩
  go_wp2_with fail
  go_ret
  exact ⟨rfl, B1.out⟩
theorem check7_g (l : List UInt8) (w : World) (hl : l.length = 512) (h1 : allZ (midL l 24 8) = true) (h2 : allZ (l.drop 480) = true) (h3 : goodB l = false) :
    Calls Try.prog 31 #[.agg (ab l), .int .i64 (numA l 12 2)] w fun e w' => e = .returned (.int .i64 14) ∧ Below w.heap.size w w' := by
  have NO := Lib.hid (fun w => pno_any l w hl)
  have P1 := Whole.made w 23 (ab l)
  have Z1 := Lib.hid (fun w' (h : Whole w' w.heap.size 23 (ab l)) => zeroA l w' _ hl h)
  have Z2 := Lib.hid (fun w' (h : Whole w' w.heap.size 23 (ab l)) => zeroB l w' _ hl h)
  have GD := Lib.hid (fun w' (h : Whole w' w.heap.size 23 (ab l)) => good_any (.slice (some ⟨w.heap.size, 0, none⟩) 512 512) l w' (by omega) (sv_ab h 512 hl (by omega)))
  have HN := Lib.hid (show (numA l 12 2 != numA l 12 2) = false by simp)
  generalize numA l 12 2 = q at *
  rw [h1] at Z1
  rw [h2] at Z2
  rw [h3] at GD
  clear h1 h2 h3
  go_enter Try.func31, Try.ntmps31
  go_wp2_with (refine wpList_load_ab rfl _ (.tmp 2) rfl (w.heap.size) rfl _ _ _ (l) (hl) (P1) Try.underlying23 (by kernel_rfl) ?_)
  refine (NO.out _).mono ?_
  rintro e w1 ⟨rfl, b1⟩
  have p1 := P1.on b1
  have B1 := Lib.hid (bthen ((Below.refl w.heap.size w).alloc (Nat.le_refl _) (.cells (ab l) 23)) b1)
  clear b1 P1
  go_wp2_with (refine wpList_bin rfl .neq 3 _ (.tmp 9) (.tmp 10) rfl _ _ (.bool false) rfl rfl (run_neq_i _ _ _ _ false (HN.out) _) (guard_neq_i _ _ _ _ _ _ _) ?_)
  refine (Z1.out _ p1).mono ?_
  rintro e w2 ⟨rfl, rfl⟩
  go_wp2_with fail
  refine (Z2.out _ p1).mono ?_
  rintro e w3 ⟨rfl, rfl⟩
  go_wp2_with fail
  refine (GD.out _ p1).mono ?_
  rintro e w4 ⟨rfl, b4⟩
  have B4 := Lib.hid (B1.out.trans (b4.mono B1.out.size))
  clear b4
  go_wp2_with fail
  go_ret
  exact ⟨rfl, B4.out⟩
theorem check7_ok (l : List UInt8) (w : World) (hl : l.length = 512) (h1 : allZ (midL l 24 8) = true) (h2 : allZ (l.drop 480) = true) (h3 : goodB l = true) :
    Calls Try.prog 31 #[.agg (ab l), .int .i64 (numA l 12 2)] w fun e w' => e = .returned (.int .i64 (ck7 (okTo l 7))) ∧ Below w.heap.size w w' := by
  have NO := Lib.hid (fun w => pno_any l w hl)
  have P1 := Whole.made w 23 (ab l)
  have Z1 := Lib.hid (fun w' (h : Whole w' w.heap.size 23 (ab l)) => zeroA l w' _ hl h)
  have Z2 := Lib.hid (fun w' (h : Whole w' w.heap.size 23 (ab l)) => zeroB l w' _ hl h)
  have GD := Lib.hid (fun w' (h : Whole w' w.heap.size 23 (ab l)) => good_any (.slice (some ⟨w.heap.size, 0, none⟩) 512 512) l w' (by omega) (sv_ab h 512 hl (by omega)))
  have HN := Lib.hid (show (numA l 12 2 != numA l 12 2) = false by simp)
  generalize numA l 12 2 = q at *
  rw [h1] at Z1
  rw [h2] at Z2
  rw [h3] at GD
  clear h1 h2 h3
  go_enter Try.func31, Try.ntmps31
  go_wp2_with (refine wpList_load_ab rfl _ (.tmp 2) rfl (w.heap.size) rfl _ _ _ (l) (hl) (P1) Try.underlying23 (by kernel_rfl) ?_)
  refine (NO.out _).mono ?_
  rintro e w1 ⟨rfl, b1⟩
  have p1 := P1.on b1
  have B1 := Lib.hid (bthen ((Below.refl w.heap.size w).alloc (Nat.le_refl _) (.cells (ab l) 23)) b1)
  clear b1 P1
  go_wp2_with (refine wpList_bin rfl .neq 3 _ (.tmp 9) (.tmp 10) rfl _ _ (.bool false) rfl rfl (run_neq_i _ _ _ _ false (HN.out) _) (guard_neq_i _ _ _ _ _ _ _) ?_)
  refine (Z1.out _ p1).mono ?_
  rintro e w2 ⟨rfl, rfl⟩
  go_wp2_with fail
  refine (Z2.out _ p1).mono ?_
  rintro e w3 ⟨rfl, rfl⟩
  go_wp2_with fail
  refine (GD.out _ p1).mono ?_
  rintro e w4 ⟨rfl, b4⟩
  have p4 := p1.on b4
  have B4 := Lib.hid (B1.out.trans (b4.mono B1.out.size))
  clear b4 p1 B1
  go_wp2_with fail
  go_loopw [27] (fun i wr => ∃ k : Nat, k ≤ 7 ∧ i = .int .i64 k ∧ okTo l k = true ∧ Whole wr w.heap.size 23 (ab l) ∧ Below w.heap.size w wr) (fun i _ => 7 - (intOf i).toNat)
  case atStart => exact ⟨0, by omega, rfl, rfl, p4, B4.out⟩
  case round =>
    obtain ⟨k, hk, rfl, hok, p5, b5⟩ := hrel
    have HOK := Lib.hid hok
    have B5 := Lib.hid b5
    clear hok b5
    by_cases hlt : k < 7
    · have SL := fun w => pslot_any l k w hl
      unfold PSlotP at SL
      rw [pslot_yes hlt] at SL
      have hs : okS l k = ((getI (slotL l k)).2 == 0) := rfl
      have hf := getI_err (slotL l k)
      generalize getI (slotL l k) = G at *
      obtain ⟨x, f⟩ := G
      obtain ⟨st, kk, kd, d, lo, hi, v⟩ := x
      unfold iv at SL
      simp only at SL hs hf
      replace SL := Lib.hid SL
      rcases hf with rfl | rfl
      all_goals
        have HS := Lib.hid hs
        clear hs
        go_wp2_with (refine wpList_load_ab rfl _ (.tmp 2) rfl (w.heap.size) rfl _ _ _ (l) (hl) (p5) Try.underlying23 (by kernel_rfl) ?_)
        refine (SL.out _).mono ?_
        rintro e w6 ⟨D, rfl, s6, b6⟩
        obtain ⟨D, c, rfl⟩ := sv_open7 s6
        have p6 := p5.on b6
        have B6 := Lib.hid (B5.out.trans (b6.mono B5.out.size))
        clear b6 s6
        go_wp2_with (refine wpList_store_row rfl _ (.tmp 6) (.tmp 34) rfl w6.heap.size _ rfl rfl _ _ (Whole.made w6 _ _) (by kernel_rfl) rfl (by simp [Value.oneCell']) ?_; rw [World.setRow_alloc_new])
      · go_roundw
        case rel => exact ⟨k + 1, by omega, by go_num, by rw [okTo_snoc, HOK.out, HS.out]; rfl, p6.later _, B6.out.alloc B6.out.size _⟩
        case measure => simp [intOf]; omega
      · go_ret
        exact ⟨by rw [okTo_no hlt HS.out]; rfl, B6.out.alloc B6.out.size _⟩
    · obtain rfl : k = 7 := by omega
      go_wp2
      go_ret
      exact ⟨by rw [HOK.out]; rfl, B5.out⟩
theorem check7_any (l : List UInt8) (no : Int) (w : World) (hl : l.length = 512) :
    Calls Try.prog 31 #[.agg (ab l), .int .i64 no] w fun e w' => e = .returned (.int .i64 (ck7 (rightP l no))) ∧ Below w.heap.size w w' := by
  unfold rightP
  by_cases hN : numA l 12 2 = no
  · subst hN
    rw [beq_self_eq_true, Bool.true_and]
    cases h1 : allZ (midL l 24 8)
    · rw [Bool.false_and, Bool.and_false]; exact check7_z1 l w hl h1
    · rw [Bool.true_and]
      cases h2 : allZ (l.drop 480)
      · rw [Bool.false_and, Bool.and_false]; exact check7_z2 l w hl h1 h2
      · rw [Bool.true_and]
        cases h3 : goodB l
        · rw [Bool.false_and]; exact check7_g l w hl h1 h2 h3
        · rw [Bool.true_and]; exact check7_ok l w hl h1 h2 h3
  · rw [beq_eq_false_iff_ne.2 hN, Bool.false_and, Bool.and_false]
    exact check7_no l no w hl hN
end Go.Proofs.Ytelamhdnefnceaa
