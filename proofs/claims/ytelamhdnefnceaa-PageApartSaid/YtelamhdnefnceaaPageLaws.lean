/- Layer 7: the example, and the laws PageNums and PageChecks. -/
import Derived.Test.YtelamhdnefnceaaPageCheck
import Derived.Test.YtelamhdnefnceaaPageRight
namespace Go.Proofs.Ytelamhdnefnceaa
set_option maxRecDepth 20000
open Go.RowKit Go.Sort

theorem Try.zinfo22 : (Try.prog.info? 22).map (fun i => (i.zero, i.size)) = some (some (.agg (ab z512)), 512) := by kernel_rfl
theorem code7_b (n : Int) (w : World) : Calls Try.prog 28 #[.int .i64 n] w fun e w' => e = .returned (.int .i64 n) ∧ Below w.heap.size w w' := by
  go_enter Try.func28, Try.ntmps28
  go_wp2
  go_ret
  exact ⟨rfl, Below.refl _ _⟩
theorem same7 (v u : Value) (l m : List UInt8) (w : World) (hv : SV w v (bys l)) (hu : SV w u (bys m)) :
    Calls Try.prog 19 #[v, u] w fun e w' => e = .returned (.bool (l == m)) ∧ Below w.heap.size w w' :=
  (same_any v u l m w hv hu).mono fun _ _ ⟨h1, h2⟩ => ⟨h1, h2 ▸ Below.refl _ _⟩
theorem nsame (q : Int) : (q != q) = false := by simp

theorem live7_any (w : World) : Calls Try.prog 23 #[] w fun e w' => e = .returned (.bool true) ∧ Below w.heap.size w w' := by
  have hz := (zero_of_info Try.zinfo23).1
  have PN := fun w => pnew_any 258 w
  have hL := page0_len 258
  have hM := sealP_len hL
  have NO := fun w => pno_any (page0 258) w hL
  rw [live_no] at NO
  have C1 := fun w => check7_any (page0 258) 258 w hL
  rw [live_bad] at C1
  have C2 := fun w => check7_any (sealP (page0 258)) 258 w hM
  rw [live_good7] at C2
  have SE := fun w => pseal_any (page0 258) w hL
  obtain ⟨h12, h13⟩ := live_12
  generalize sealP (page0 258) = M at *
  generalize page0 258 = L at *
  have e12 : (ab L)[12]? = some (.int .u8 1) := by
    unfold ab bys
    simp [h12]
  have e13 : (ab L)[13]? = some (.int .u8 2) := by
    unfold ab bys
    simp [h13]
  clear h12 h13
  unfold ck7 at C1 C2
  simp only [Bool.false_eq_true, if_false, if_true] at C1 C2
  replace PN := Lib.hid PN
  replace NO := Lib.hid NO
  replace C1 := Lib.hid C1
  replace C2 := Lib.hid C2
  replace SE := Lib.hid SE
  have E12 := Lib.hid e12
  have E13 := Lib.hid e13
  clear e12 e13
  go_enter Try.func23, Try.ntmps23
  go_wp2_with fail
  refine (PN.out _).mono ?_
  rintro e w1 ⟨rfl, b1⟩
  go_wp2_with (first
    | ((refine wpList_store_ab rfl _ (.tmp 1) (.tmp 2) rfl (w1.heap.size) rfl (L) rfl _ _ (hL) (z512) (z512_len) (Whole.made w1 _ _) (by kernel_rfl) ?_); intro w2 p2 e2; rw [World.setRow_alloc_new] at e2; have B2 := Lib.hid ((b1.alloc b1.size (.cells (ab L) 23))); rw [← e2] at B2; clear e2; replace p2 := p2.out; have q12 : w2.cell? ⟨w1.heap.size, 12, none⟩ = some (.int .u8 1) := (by rw [p2.cell]; exact E12.out); have q13 : w2.cell? ⟨w1.heap.size, 13, none⟩ = some (.int .u8 2) := (by rw [p2.cell]; exact E13.out))
    | (refine wpList_load_ab rfl _ (.tmp 1) rfl (w1.heap.size) rfl _ _ _ (L) (hL) (p2) Try.underlying23 (by kernel_rfl) ?_))
  refine (NO.out _).mono ?_
  rintro e w3 ⟨rfl, b3⟩
  replace p2 := p2.on b3
  have B3 := Lib.hid (B2.out.trans (b3.mono B2.out.size))
  clear b3 q12 q13
  go_wp2_with (refine wpList_load_ab rfl _ (.tmp 1) rfl (w1.heap.size) rfl _ _ _ (L) (hL) (p2) Try.underlying23 (by kernel_rfl) ?_)
  refine (C1.out _).mono ?_
  rintro e w4 ⟨rfl, b4⟩
  replace p2 := p2.on b4
  have B4 := Lib.hid (B3.out.trans (b4.mono B3.out.size))
  clear b4
  go_wp2_with fail
  refine (code7_b _ _).mono ?_
  rintro e w5 ⟨rfl, b5⟩
  replace p2 := p2.on b5
  have B5 := Lib.hid (B4.out.trans (b5.mono B4.out.size))
  clear b5
  go_wp2_with (refine wpList_load_ab rfl _ (.tmp 1) rfl (w1.heap.size) rfl _ _ _ (L) (hL) (p2) Try.underlying23 (by kernel_rfl) ?_)
  refine (SE.out _).mono ?_
  rintro e w6 ⟨rfl, b6⟩
  have B6 := Lib.hid (B5.out.trans (b6.mono B5.out.size))
  clear b6
  go_wp2_with fail
  refine (C2.out _).mono ?_
  rintro e w7 ⟨rfl, b7⟩
  have B7 := Lib.hid (B6.out.trans (b7.mono B6.out.size))
  clear b7
  go_wp2_with fail
  refine (code7_b _ _).mono ?_
  rintro e w8 ⟨rfl, b8⟩
  have B8 := Lib.hid (B7.out.trans (b8.mono B7.out.size))
  clear b8
  go_wp2_with fail
  go_ret
  exact ⟨rfl, B8.out⟩

set_option maxHeartbeats 2000000 in
theorem nums7_law (l : List UInt8) (n : Int) (w : World) (hl : l.length = 512) :
    Calls Try.prog 3 #[.agg (ab l), .int .i64 n] w fun e w' => e = .returned (.bool true) ∧ Below w.heap.size w w' := by
  have hz := (zero_of_info Try.zinfo23).1
  have N1 := fun w => pno_any l w hl
  have N2 := fun w => plsn_any l w hl
  have N3 := fun w => pnext_any l w hl
  have N4 := fun w => pnote_any l w hl
  have R1 := fun w v (h : SV w v (bys l)) => (rno_any v l w hl h).mono fun e w' ⟨h1, h2⟩ => (⟨h1, h2 ▸ Below.refl _ _⟩ : e = _ ∧ Below w.heap.size w w')
  have R2 := fun w v (h : SV w v (bys l)) => (rlsn_any v l w hl h).mono fun e w' ⟨h1, h2⟩ => (⟨h1, h2 ▸ Below.refl _ _⟩ : e = _ ∧ Below w.heap.size w w')
  have R3 := fun w v (h : SV w v (bys l)) => (rnext_any v l w hl h).mono fun e w' ⟨h1, h2⟩ => (⟨h1, h2 ▸ Below.refl _ _⟩ : e = _ ∧ Below w.heap.size w w')
  have R4 := fun w v (h : SV w v (bys l)) => (rnote_any v l w hl h).mono fun e w' ⟨h1, h2⟩ => (⟨h1, h2 ▸ Below.refl _ _⟩ : e = _ ∧ Below w.heap.size w w')
  generalize numA l 12 2 = q1 at *
  generalize numA l 4 8 = q2 at *
  generalize numA l 14 2 = q3 at *
  generalize numA l 16 8 = q4 at *
  replace N1 := Lib.hid N1
  replace N2 := Lib.hid N2
  replace N3 := Lib.hid N3
  replace N4 := Lib.hid N4
  replace R1 := Lib.hid R1
  replace R2 := Lib.hid R2
  replace R3 := Lib.hid R3
  replace R4 := Lib.hid R4
  have A1 := fun w => plsn_with l n w hl
  have A2 := fun w => pnext_with l n w hl
  have A3 := fun w => pnote_with l n w hl
  have A4 := fun w => pnew_any n w
  have BY8 := fun w => ownb_bytes 8 n w (by omega)
  have BY2 := fun w => ownb_bytes 2 n w (by omega)
  have h8 : (beb 8 (ub n)).length = 8 := beb_len _ _
  have h2 : (beb 2 (ub n)).length = 2 := beb_len _ _
  have P1 := fun w v u (hv : SV w v (bys l)) (hu : SV w u (bys (beb 8 (ub n)))) => rput_any v u l (beb 8 (ub n)) 4 w (by omega) hv hu (by omega)
  have P2 := fun w v u (hv : SV w v (bys l)) (hu : SV w u (bys (beb 2 (ub n)))) => rput_any v u l (beb 2 (ub n)) 14 w (by omega) hv hu (by omega)
  have P3 := fun w v u (hv : SV w v (bys l)) (hu : SV w u (bys (beb 8 (ub n)))) => rput_any v u l (beb 8 (ub n)) 16 w (by omega) hv hu (by omega)
  have P4 := fun w => rnew_any n w
  have l1 : (putAt l 4 (beb 8 (ub n))).length = 512 := by rw [putAt_len (by omega), hl]
  have l2 : (putAt l 14 (beb 2 (ub n))).length = 512 := by rw [putAt_len (by omega), hl]
  have l3 : (putAt l 16 (beb 8 (ub n))).length = 512 := by rw [putAt_len (by omega), hl]
  have l4 := page0_len n
  clear h8 h2
  generalize putAt l 4 (beb 8 (ub n)) = x1 at *
  generalize putAt l 14 (beb 2 (ub n)) = x2 at *
  generalize putAt l 16 (beb 8 (ub n)) = x3 at *
  generalize page0 n = x4 at *
  generalize beb 8 (ub n) = c8 at *
  generalize beb 2 (ub n) = c2 at *
  have SS := fun w v u (x : List UInt8) (h : SV w v (bys x)) (h' : SV w u (bys x)) => same7 v u x x w h h'
  simp only [beq_self_eq_true] at SS
  unfold OwnB at BY8 BY2 P1 P2 P3 P4
  replace A1 := Lib.hid A1
  replace A2 := Lib.hid A2
  replace A3 := Lib.hid A3
  replace A4 := Lib.hid A4
  replace BY8 := Lib.hid BY8
  replace BY2 := Lib.hid BY2
  replace P1 := Lib.hid P1
  replace P2 := Lib.hid P2
  replace P3 := Lib.hid P3
  replace P4 := Lib.hid P4
  replace SS := Lib.hid SS
  go_enter Try.func3, Try.ntmps3
  go_wp2_with (first
    | (refine wpList_load_ab rfl _ (.tmp 2) rfl (w.heap.size) rfl _ _ _ (l) (hl) (Whole.made w _ _) Try.underlying22 (by kernel_rfl) ?_)
    | ((refine wpList_store_ab rfl _ (.tmp 5) (.tmp 10) rfl (w.heap.size + 1) rfl (l) rfl _ _ (hl) (z512) (z512_len) (Whole.second w _ _ _) (by kernel_rfl) ?_); intro w2 p5 e2; replace p5 := p5.out; have p2 : Whole w2 w.heap.size 22 (ab l) := (by rw [e2]; exact ((Whole.made w _ _).later _).but (But.row _ _ _) (by omega)); have B2 := Lib.hid (show Below w.heap.size w w2 by rw [e2]; exact below_setRow (two_more (Below.refl _ _) _ _) (Nat.le_succ _) _); clear e2))
  refine wp_region_facts 26 [] [] (by kernel_rfl) (by kernel_rfl) (by kernel_rfl) (free_draw w2) ?_
  simp only [List.take_succ_cons, List.take_zero, List.drop_succ_cons, List.drop_zero, List.zipIdx_cons, List.zipIdx_nil, Nat.zero_add, Nat.reduceAdd]
  repeat (first
    | (refine f_skip (fun V => by rfl) ?_; simp only [Act.put, List.setIfInBounds_toArray, List.set_cons_succ, List.set_cons_zero])
      | (refine f_load_ab (by first | exact cls_free _ | exact cls_row _ _ _ _ | exact cls_fill _ _ _ _ _) (fun V => by rfl) _ _ rfl _ (fun V => by rfl) _ _ _ (l) (hl) (fun w hb => p5.on hb) Try.underlying23 (by kernel_rfl) ?_; simp only [Act.put, List.setIfInBounds_toArray, List.set_cons_succ, List.set_cons_zero])
    | (refine f_call (by first | exact cls_free _ | exact cls_row _ _ _ _ | exact cls_fill _ _ _ _ _) (fun V => by rfl) 7 _ _ rfl (enters_of Try.func7 rfl rfl) _ _ (fun V w hb hk => N1.out w) (fun V => by rfl) ?_; simp only [Act.put, List.setIfInBounds_toArray, List.set_cons_succ, List.set_cons_zero])
    | (refine f_call (by first | exact cls_free _ | exact cls_row _ _ _ _ | exact cls_fill _ _ _ _ _) (fun V => by rfl) 9 _ _ rfl (enters_of Try.func9 rfl rfl) _ _ (fun V w hb hk => N2.out w) (fun V => by rfl) ?_; simp only [Act.put, List.setIfInBounds_toArray, List.set_cons_succ, List.set_cons_zero])
    | (refine f_call (by first | exact cls_free _ | exact cls_row _ _ _ _ | exact cls_fill _ _ _ _ _) (fun V => by rfl) 11 _ _ rfl (enters_of Try.func11 rfl rfl) _ _ (fun V w hb hk => N3.out w) (fun V => by rfl) ?_; simp only [Act.put, List.setIfInBounds_toArray, List.set_cons_succ, List.set_cons_zero])
    | (refine f_call (by first | exact cls_free _ | exact cls_row _ _ _ _ | exact cls_fill _ _ _ _ _) (fun V => by rfl) 13 _ _ rfl (enters_of Try.func13 rfl rfl) _ _ (fun V w hb hk => N4.out w) (fun V => by rfl) ?_; simp only [Act.put, List.setIfInBounds_toArray, List.set_cons_succ, List.set_cons_zero])
    | (refine f_call (by first | exact cls_free _ | exact cls_row _ _ _ _ | exact cls_fill _ _ _ _ _) (fun V => by rfl) 8 _ _ rfl (enters_of Try.func8 rfl rfl) _ _ (fun V w hb hk => R1.out w _ (sv_ab (p2.on hb) 512 hl (by omega))) (fun V => by rfl) ?_; simp only [Act.put, List.setIfInBounds_toArray, List.set_cons_succ, List.set_cons_zero])
    | (refine f_call (by first | exact cls_free _ | exact cls_row _ _ _ _ | exact cls_fill _ _ _ _ _) (fun V => by rfl) 10 _ _ rfl (enters_of Try.func10 rfl rfl) _ _ (fun V w hb hk => R2.out w _ (sv_ab (p2.on hb) 512 hl (by omega))) (fun V => by rfl) ?_; simp only [Act.put, List.setIfInBounds_toArray, List.set_cons_succ, List.set_cons_zero])
    | (refine f_call (by first | exact cls_free _ | exact cls_row _ _ _ _ | exact cls_fill _ _ _ _ _) (fun V => by rfl) 12 _ _ rfl (enters_of Try.func12 rfl rfl) _ _ (fun V w hb hk => R3.out w _ (sv_ab (p2.on hb) 512 hl (by omega))) (fun V => by rfl) ?_; simp only [Act.put, List.setIfInBounds_toArray, List.set_cons_succ, List.set_cons_zero])
    | (refine f_call (by first | exact cls_free _ | exact cls_row _ _ _ _ | exact cls_fill _ _ _ _ _) (fun V => by rfl) 14 _ _ rfl (enters_of Try.func14 rfl rfl) _ _ (fun V w hb hk => R4.out w _ (sv_ab (p2.on hb) 512 hl (by omega))) (fun V => by rfl) ?_; simp only [Act.put, List.setIfInBounds_toArray, List.set_cons_succ, List.set_cons_zero])
    | (refine f_binop (by first | exact cls_free _ | exact cls_row _ _ _ _ | exact cls_fill _ _ _ _ _) (fun V => by rfl) _ _ _ _ _ rfl _ _ _ (fun w => run_neq_i _ _ _ _ false (nsame _) w) (fun w => guard_neq_i _ _ _ _ _ _ w) (fun V => by rfl) (fun V => by rfl) ?_; simp only [Act.put, List.setIfInBounds_toArray, List.set_cons_succ, List.set_cons_zero])
    | (refine f_quiet (by first | exact cls_free _ | exact cls_row _ _ _ _ | exact cls_fill _ _ _ _ _) (fun V => by rfl) (fun V => ⟨_, rfl, by simp⟩) ?_; apply Exists.intro; refine And.intro (fun V w hw K hK => ?_) ?_; ((try simp only [Act.put, List.setIfInBounds_toArray, List.set_cons_succ, List.set_cons_zero] at hK); go_big_quiet_op; exact hK); simp only [Act.put, List.setIfInBounds_toArray, List.set_cons_succ, List.set_cons_zero]))
  refine f_nil ?_
  intro V w3 hq hkn
  replace p2 := p2.on hq
  replace p5 := p5.on hq
  have B3 := Lib.hid (B2.out.trans (Below.mono hq B2.out.size))
  clear hkn hq N1 N2 N3 N4 R1 R2 R3 R4 B2
  go_wp2_with fail
  refine wp_region_new 15 [6, 7, 8, 9] [23] [6, 7, 8, 9] (by kernel_rfl) (by kernel_rfl) (by kernel_rfl) (by kernel_rfl) (by intro t ht; rw [List.mem_singleton] at ht; subst ht; exact ⟨_, hz⟩) (by simp) (free_draw w3) ?_
  simp only [List.take_succ_cons, List.take_zero, List.drop_succ_cons, List.drop_zero, List.zipIdx_cons, List.zipIdx_nil, Nat.zero_add, Nat.reduceAdd]
  repeat (first
    | (refine f_skip (fun V => by rfl) ?_; simp only [Act.put, List.setIfInBounds_toArray, List.set_cons_succ, List.set_cons_zero])
      | (refine f_load_ab (by first | exact cls_free _ | exact cls_row _ _ _ _ | exact cls_fill _ _ _ _ _) (fun V => by rfl) _ _ rfl _ (fun V => by rfl) _ _ _ (l) (hl) (fun w hb => p5.on hb) Try.underlying23 (by kernel_rfl) ?_; simp only [Act.put, List.setIfInBounds_toArray, List.set_cons_succ, List.set_cons_zero])
    | (refine f_call (by first | exact cls_free _ | exact cls_row _ _ _ _ | exact cls_fill _ _ _ _ _) (fun V => by rfl) 15 _ _ rfl (enters_of Try.func15 rfl rfl) _ _ (fun V w hb hk => A1.out w) (fun V => by rfl) ?_; simp only [Act.put, List.setIfInBounds_toArray, List.set_cons_succ, List.set_cons_zero])
    | (refine f_call (by first | exact cls_free _ | exact cls_row _ _ _ _ | exact cls_fill _ _ _ _ _) (fun V => by rfl) 16 _ _ rfl (enters_of Try.func16 rfl rfl) _ _ (fun V w hb hk => A2.out w) (fun V => by rfl) ?_; simp only [Act.put, List.setIfInBounds_toArray, List.set_cons_succ, List.set_cons_zero])
    | (refine f_call (by first | exact cls_free _ | exact cls_row _ _ _ _ | exact cls_fill _ _ _ _ _) (fun V => by rfl) 17 _ _ rfl (enters_of Try.func17 rfl rfl) _ _ (fun V w hb hk => A3.out w) (fun V => by rfl) ?_; simp only [Act.put, List.setIfInBounds_toArray, List.set_cons_succ, List.set_cons_zero])
    | (refine f_call (by first | exact cls_free _ | exact cls_row _ _ _ _ | exact cls_fill _ _ _ _ _) (fun V => by rfl) 18 _ _ rfl (enters_of Try.func18 rfl rfl) _ _ (fun V w hb hk => A4.out w) (fun V => by rfl) ?_; simp only [Act.put, List.setIfInBounds_toArray, List.set_cons_succ, List.set_cons_zero])
    | (refine f_alloc (by first | exact cls_free _ | exact cls_row _ _ _ _ | exact cls_fill _ _ _ _ _) 23 rfl (fun V => by rfl) (by decide) w3.heap.size (fun w hb => Below.size hb) (ab z512) (hz) ?_; simp only [Act.put, List.setIfInBounds_toArray, List.set_cons_succ, List.set_cons_zero, keyOf, Option.getD_some])
    | (refine f_quiet (by first | exact cls_free _ | exact cls_row _ _ _ _ | exact cls_fill _ _ _ _ _) (fun V => by rfl) (fun V => ⟨_, rfl, by simp⟩) ?_; apply Exists.intro; refine And.intro (fun V w hw K hK => ?_) ?_; ((try simp only [Act.put, List.setIfInBounds_toArray, List.set_cons_succ, List.set_cons_zero] at hK); go_big_quiet_op; exact hK); simp only [Act.put, List.setIfInBounds_toArray, List.set_cons_succ, List.set_cons_zero]))
  refine f_nil ?_
  intro V w4 hq hkn hdiff
  obtain ⟨g6, e6, p6, i6⟩ := all_slot hkn 6 rfl
  obtain ⟨g7, e7, p7, i7⟩ := all_slot hkn 7 rfl
  obtain ⟨g8, e8, p8, i8⟩ := all_slot hkn 8 rfl
  obtain ⟨g9, e9, p9, i9⟩ := all_slot hkn 9 rfl
  have d67 : g6 ≠ g7 := fun h => hdiff 6 (by simp) 7 (by simp) (by decide) (show V 11 = V 12 by rw [e6, e7, h])
  have d68 : g6 ≠ g8 := fun h => hdiff 6 (by simp) 8 (by simp) (by decide) (show V 11 = V 13 by rw [e6, e8, h])
  have d69 : g6 ≠ g9 := fun h => hdiff 6 (by simp) 9 (by simp) (by decide) (show V 11 = V 14 by rw [e6, e9, h])
  have d78 : g7 ≠ g8 := fun h => hdiff 7 (by simp) 8 (by simp) (by decide) (show V 12 = V 13 by rw [e7, e8, h])
  have d79 : g7 ≠ g9 := fun h => hdiff 7 (by simp) 9 (by simp) (by decide) (show V 12 = V 14 by rw [e7, e9, h])
  have d89 : g8 ≠ g9 := fun h => hdiff 8 (by simp) 9 (by simp) (by decide) (show V 13 = V 14 by rw [e8, e9, h])
  clear hdiff hkn
  rw [e6, e7, e8, e9]
  clear e6 e7 e8 e9
  have j2 := p2.lt
  have j0 := B3.out.size
  replace p2 := p2.on hq
  have B4 := Lib.hid (B3.out.trans (Below.mono hq j0))
  clear hq A1 A2 A3 A4 B3 p5
  go_wp2_with (first
    | ((refine wpList_store_ab rfl _ (.tmp 6) (.tmp 39) rfl (g6) rfl (x1) rfl _ _ (l1) (z512) (z512_len) (p6) (by kernel_rfl) ?_); intro w5 r6 e; have u := But.row g6 w4 (ab x1); rw [← e] at u; clear e; have r7 := p7.but u (by omega); have r8 := p8.but u (by omega); have r9 := p9.but u (by omega); have r2 := p2.but u (by omega); have B5 := Lib.hid (But.below B4.out u (by omega) B4.out.size); clear u p6 p7 p8 p9 p2 B4)
    | ((refine wpList_store_ab rfl _ (.tmp 7) (.tmp 42) rfl (g7) rfl (x2) rfl _ _ (l2) (z512) (z512_len) (r7) (by kernel_rfl) ?_); intro w6 s7 e; have u := But.row g7 w5 (ab x2); rw [← e] at u; clear e; have s6 := r6.out.but u (by omega); have s8 := r8.but u (by omega); have s9 := r9.but u (by omega); have s2 := r2.but u (by omega); have B6 := Lib.hid (But.below B5.out u (by omega) B5.out.size); clear u r6 r7 r8 r9 r2 B5)
    | ((refine wpList_store_ab rfl _ (.tmp 8) (.tmp 45) rfl (g8) rfl (x3) rfl _ _ (l3) (z512) (z512_len) (s8) (by kernel_rfl) ?_); intro w7 t8 e; have u := But.row g8 w6 (ab x3); rw [← e] at u; clear e; have t6 := s6.but u (by omega); have t7 := s7.out.but u (by omega); have t9 := s9.but u (by omega); have t2 := s2.but u (by omega); have B7 := Lib.hid (But.below B6.out u (by omega) B6.out.size); clear u s6 s7 s8 s9 s2 B6)
    | ((refine wpList_store_ab rfl _ (.tmp 9) (.tmp 47) rfl (g9) rfl (x4) rfl _ _ (l4) (z512) (z512_len) (t9) (by kernel_rfl) ?_); intro w8 v9 e; have u := But.row g9 w7 (ab x4); rw [← e] at u; clear e; have v6 := t6.but u (by omega); have v7 := t7.but u (by omega); have v8 := t8.out.but u (by omega); have v2 := t2.but u (by omega); have B8 := Lib.hid (But.below B7.out u (by omega) B7.out.size); replace v9 := v9.out; clear u t6 t7 t8 t9 t2 B7))
  clear d67 d68 d69 d78 d79 d89 i6 i7 i8 i9 j2 j0
  simp only [Act.put]
  refine wp_region_facts 32 [] [51, 52, 58, 59, 66, 67, 73] (by kernel_rfl) (by kernel_rfl) (by kernel_rfl) (free_draw w8) ?_
  simp only [List.take_succ_cons, List.take_zero, List.drop_succ_cons, List.drop_zero, List.zipIdx_cons, List.zipIdx_nil, Nat.zero_add, Nat.reduceAdd]
  repeat (first
    | (refine f_skip (fun V => by rfl) ?_; simp only [Act.put, List.setIfInBounds_toArray, List.set_cons_succ, List.set_cons_zero])
      | (refine f_callF (by first | exact cls_free _ | exact cls_row _ _ _ _ | exact cls_fill _ _ _ _ _) (fSV (bys c8)) (stays_sv _) (fun V => by rfl) (by decide) 21 _ _ rfl (enters_of Try.func21 rfl rfl) _ (fun V w hb hk => (BY8.out w).mono fun e w' ⟨v, h1, h2, h3⟩ => ⟨v, h1, h2.sv, h3⟩) (fun V => by rfl) ?_; simp only [Act.put, List.setIfInBounds_toArray, List.set_cons_succ, List.set_cons_zero, keyOf, Option.getD_some])
    | (refine f_callF (by first | exact cls_free _ | exact cls_row _ _ _ _ | exact cls_fill _ _ _ _ _) (fSV (bys c2)) (stays_sv _) (fun V => by rfl) (by decide) 21 _ _ rfl (enters_of Try.func21 rfl rfl) _ (fun V w hb hk => (BY2.out w).mono fun e w' ⟨v, h1, h2, h3⟩ => ⟨v, h1, h2.sv, h3⟩) (fun V => by rfl) ?_; simp only [Act.put, List.setIfInBounds_toArray, List.set_cons_succ, List.set_cons_zero, keyOf, Option.getD_some])
    | (refine f_callF (by first | exact cls_free _ | exact cls_row _ _ _ _ | exact cls_fill _ _ _ _ _) (fSV (bys x1)) (stays_sv _) (fun V => by rfl) (by decide) 20 _ _ rfl (enters_of Try.func20 rfl rfl) _ (fun V w hb hk => (P1.out w _ _ (sv_ab (v2.on hb) 512 hl (by omega)) (hk.slot 51 rfl rfl)).mono fun e w' ⟨v, h1, h2, h3⟩ => ⟨v, h1, h2.sv, h3⟩) (fun V => by rfl) ?_; simp only [Act.put, List.setIfInBounds_toArray, List.set_cons_succ, List.set_cons_zero, keyOf, Option.getD_some])
    | (refine f_callF (by first | exact cls_free _ | exact cls_row _ _ _ _ | exact cls_fill _ _ _ _ _) (fSV (bys x2)) (stays_sv _) (fun V => by rfl) (by decide) 20 _ _ rfl (enters_of Try.func20 rfl rfl) _ (fun V w hb hk => (P2.out w _ _ (sv_ab (v2.on hb) 512 hl (by omega)) (hk.slot 58 rfl rfl)).mono fun e w' ⟨v, h1, h2, h3⟩ => ⟨v, h1, h2.sv, h3⟩) (fun V => by rfl) ?_; simp only [Act.put, List.setIfInBounds_toArray, List.set_cons_succ, List.set_cons_zero, keyOf, Option.getD_some])
    | (refine f_callF (by first | exact cls_free _ | exact cls_row _ _ _ _ | exact cls_fill _ _ _ _ _) (fSV (bys x3)) (stays_sv _) (fun V => by rfl) (by decide) 20 _ _ rfl (enters_of Try.func20 rfl rfl) _ (fun V w hb hk => (P3.out w _ _ (sv_ab (v2.on hb) 512 hl (by omega)) (hk.slot 66 rfl rfl)).mono fun e w' ⟨v, h1, h2, h3⟩ => ⟨v, h1, h2.sv, h3⟩) (fun V => by rfl) ?_; simp only [Act.put, List.setIfInBounds_toArray, List.set_cons_succ, List.set_cons_zero, keyOf, Option.getD_some])
    | (refine f_callF (by first | exact cls_free _ | exact cls_row _ _ _ _ | exact cls_fill _ _ _ _ _) (fSV (bys x4)) (stays_sv _) (fun V => by rfl) (by decide) 22 _ _ rfl (enters_of Try.func22 rfl rfl) _ (fun V w hb hk => (P4.out w).mono fun e w' ⟨v, h1, h2, h3⟩ => ⟨v, h1, h2.sv, h3⟩) (fun V => by rfl) ?_; simp only [Act.put, List.setIfInBounds_toArray, List.set_cons_succ, List.set_cons_zero, keyOf, Option.getD_some])
    | (refine f_call (by first | exact cls_free _ | exact cls_row _ _ _ _ | exact cls_fill _ _ _ _ _) (fun V => by rfl) 19 _ _ rfl (enters_of Try.func19 rfl rfl) _ _ (fun V w hb hk => SS.out w _ _ _ (sv_ab (v6.on hb) 512 l1 (by omega)) (hk.slot 52 rfl rfl)) (fun V => by rfl) ?_; simp only [Act.put, List.setIfInBounds_toArray, List.set_cons_succ, List.set_cons_zero])
    | (refine f_call (by first | exact cls_free _ | exact cls_row _ _ _ _ | exact cls_fill _ _ _ _ _) (fun V => by rfl) 19 _ _ rfl (enters_of Try.func19 rfl rfl) _ _ (fun V w hb hk => SS.out w _ _ _ (sv_ab (v7.on hb) 512 l2 (by omega)) (hk.slot 59 rfl rfl)) (fun V => by rfl) ?_; simp only [Act.put, List.setIfInBounds_toArray, List.set_cons_succ, List.set_cons_zero])
    | (refine f_call (by first | exact cls_free _ | exact cls_row _ _ _ _ | exact cls_fill _ _ _ _ _) (fun V => by rfl) 19 _ _ rfl (enters_of Try.func19 rfl rfl) _ _ (fun V w hb hk => SS.out w _ _ _ (sv_ab (v8.on hb) 512 l3 (by omega)) (hk.slot 67 rfl rfl)) (fun V => by rfl) ?_; simp only [Act.put, List.setIfInBounds_toArray, List.set_cons_succ, List.set_cons_zero])
    | (refine f_call (by first | exact cls_free _ | exact cls_row _ _ _ _ | exact cls_fill _ _ _ _ _) (fun V => by rfl) 19 _ _ rfl (enters_of Try.func19 rfl rfl) _ _ (fun V w hb hk => SS.out w _ _ _ (sv_ab (v9.on hb) 512 l4 (by omega)) (hk.slot 73 rfl rfl)) (fun V => by rfl) ?_; simp only [Act.put, List.setIfInBounds_toArray, List.set_cons_succ, List.set_cons_zero])
    | (refine f_call (by first | exact cls_free _ | exact cls_row _ _ _ _ | exact cls_fill _ _ _ _ _) (fun V => by rfl) 23 _ _ rfl (enters_of Try.func23 rfl rfl) _ _ (fun V w hb hk => live7_any w) (fun V => by rfl) ?_; simp only [Act.put, List.setIfInBounds_toArray, List.set_cons_succ, List.set_cons_zero])
    | (refine f_quiet (by first | exact cls_free _ | exact cls_row _ _ _ _ | exact cls_fill _ _ _ _ _) (fun V => by rfl) (fun V => ⟨_, rfl, by simp⟩) ?_; apply Exists.intro; refine And.intro (fun V w hw K hK => ?_) ?_; ((try simp only [Act.put, List.setIfInBounds_toArray, List.set_cons_succ, List.set_cons_zero] at hK); go_big_quiet_op; exact hK); simp only [Act.put, List.setIfInBounds_toArray, List.set_cons_succ, List.set_cons_zero]))
  refine f_nil ?_
  intro V w9 hq hkn
  have B9 := Lib.hid (B8.out.trans (Below.mono hq B8.out.size))
  clear hkn
  go_wp2
  go_ret
  exact ⟨rfl, B9.out⟩
end Go.Proofs.Ytelamhdnefnceaa
