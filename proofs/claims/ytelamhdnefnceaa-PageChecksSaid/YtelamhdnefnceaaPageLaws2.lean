/- Layer 7: the law PageChecks. -/
import Derived.Test.YtelamhdnefnceaaPageLaws
namespace Go.Proofs.Ytelamhdnefnceaa
set_option maxRecDepth 20000
open Go.RowKit Go.Sort

set_option maxHeartbeats 2000000 in
theorem checks7_law (l : List UInt8) (no : Int) (w : World) (hl : l.length = 512) :
    Calls Try.prog 5 #[.agg (ab l), .int .i64 no] w fun e w' => e = .returned (.bool true) ∧ Below w.heap.size w w' := by
  have hz := (zero_of_info Try.zinfo23).1
  have hM := sealP_len hl
  have SE := Lib.hid (fun w => pseal_any l w hl)
  have RS := Lib.hid (fun w v (h : SV w v (bys l)) => rseal_any v l w hl h)
  have C1 := fun w => check7_any l no w hl
  have C2 := fun w => check7_any (sealP l) no w hM
  have T1 := fun w v (h : SV w v (bys l)) => right7_any v l no w hl h
  have T2 := fun w v (h : SV w v (bys (sealP l))) => right7_any v (sealP l) no w hM h
  have SS := fun w v u (h : SV w v (bys (sealP l))) (h' : SV w u (bys (sealP l))) => same7 v u _ _ w h h'
  simp only [beq_self_eq_true] at SS
  replace SS := Lib.hid SS
  generalize rightP (sealP l) no = b at *
  generalize rightP l no = a at *
  generalize sealP l = M at *
  unfold ck7 at C1 C2
  cases a
  all_goals
    cases b
  all_goals
    simp only [Bool.false_eq_true, if_false, if_true] at C1 C2
    replace C1 := Lib.hid C1
    replace C2 := Lib.hid C2
    replace T1 := Lib.hid T1
    replace T2 := Lib.hid T2
    go_enter Try.func5, Try.ntmps5
    go_wp2_with (first
      | (refine wpList_load_ab rfl _ (.tmp 5) rfl (w.heap.size + 1) rfl _ _ _ (l) (hl) (p5) Try.underlying23 (by kernel_rfl) ?_)
      | (refine wpList_load_ab rfl _ (.tmp 2) rfl (w.heap.size) rfl _ _ _ (l) (hl) (Whole.made w _ _) Try.underlying22 (by kernel_rfl) ?_)
      | ((refine wpList_store_ab rfl _ (.tmp 5) (.tmp 9) rfl (w.heap.size + 1) rfl (l) rfl _ _ (hl) (z512) (z512_len) (Whole.second w _ _ _) (by kernel_rfl) ?_); intro w2 p5 e2; replace p5 := p5.out; have p2 : Whole w2 w.heap.size 22 (ab l) := (by rw [e2]; exact ((Whole.made w _ _).later _).but (But.row _ _ _) (by omega)); have B2 := Lib.hid (show Below w.heap.size w w2 by rw [e2]; exact below_setRow (two_more (Below.refl _ _) _ _) (Nat.le_succ _) _); clear e2))
    refine (SE.out _).mono ?_
    rintro e w3 ⟨rfl, b3⟩
    replace p2 := p2.on b3
    replace p5 := p5.on b3
    have B3 := Lib.hid (B2.out.trans (b3.mono B2.out.size))
    clear b3 B2
    go_wp2_with ((refine wpList_store_ab rfl _ (.tmp 6) (.tmp 11) rfl (w3.heap.size) rfl (M) rfl _ _ (hM) (z512) (z512_len) (Whole.made w3 _ _) (by kernel_rfl) ?_); intro w4 p6 e4; rw [World.setRow_alloc_new] at e4; replace p6 := p6.out; have q2 := p2.later (.cells (ab M) 23); have q5 := p5.later (.cells (ab M) 23); have B4 := Lib.hid (B3.out.alloc B3.out.size (.cells (ab M) 23)); rw [← e4] at q2 q5 B4; clear e4 p2 p5 B3)
    try simp only [Act.put]
    refine wp_region_facts 10 [] [] (by kernel_rfl) (by kernel_rfl) (by kernel_rfl) (free_draw w4) ?_
    simp only [List.take_succ_cons, List.take_zero, List.drop_succ_cons, List.drop_zero, List.zipIdx_cons, List.zipIdx_nil, Nat.zero_add, Nat.reduceAdd]
    repeat (first
      | (refine f_skip (fun V => by rfl) ?_; simp only [Act.put, List.setIfInBounds_toArray, List.set_cons_succ, List.set_cons_zero])
        | (refine f_load_ab (by first | exact cls_free _ | exact cls_row _ _ _ _ | exact cls_fill _ _ _ _ _) (fun V => by rfl) _ _ rfl _ (fun V => by rfl) _ _ _ (l) (hl) (fun w hb => q5.on hb) Try.underlying23 (by kernel_rfl) ?_; simp only [Act.put, List.setIfInBounds_toArray, List.set_cons_succ, List.set_cons_zero])
        | (refine f_load_ab (by first | exact cls_free _ | exact cls_row _ _ _ _ | exact cls_fill _ _ _ _ _) (fun V => by rfl) _ _ rfl _ (fun V => by rfl) _ _ _ (M) (hM) (fun w hb => p6.on hb) Try.underlying23 (by kernel_rfl) ?_; simp only [Act.put, List.setIfInBounds_toArray, List.set_cons_succ, List.set_cons_zero])
        | (refine f_call (by first | exact cls_free _ | exact cls_row _ _ _ _ | exact cls_fill _ _ _ _ _) (fun V => by rfl) 31 _ _ rfl (enters_of Try.func31 rfl rfl) _ _ (fun V w hb hk => C1.out w) (fun V => by rfl) ?_; simp only [Act.put, List.setIfInBounds_toArray, List.set_cons_succ, List.set_cons_zero])
        | (refine f_call (by first | exact cls_free _ | exact cls_row _ _ _ _ | exact cls_fill _ _ _ _ _) (fun V => by rfl) 31 _ _ rfl (enters_of Try.func31 rfl rfl) _ _ (fun V w hb hk => C2.out w) (fun V => by rfl) ?_; simp only [Act.put, List.setIfInBounds_toArray, List.set_cons_succ, List.set_cons_zero])
        | (refine f_call (by first | exact cls_free _ | exact cls_row _ _ _ _ | exact cls_fill _ _ _ _ _) (fun V => by rfl) 28 _ _ rfl (enters_of Try.func28 rfl rfl) _ _ (fun V w hb hk => code7_b _ w) (fun V => by rfl) ?_; simp only [Act.put, List.setIfInBounds_toArray, List.set_cons_succ, List.set_cons_zero])
      | (refine f_quiet (by first | exact cls_free _ | exact cls_row _ _ _ _ | exact cls_fill _ _ _ _ _) (fun V => by rfl) (fun V => ⟨_, rfl, by simp⟩) ?_; apply Exists.intro; refine And.intro (fun V w hw K hK => ?_) ?_; ((try simp only [Act.put, List.setIfInBounds_toArray, List.set_cons_succ, List.set_cons_zero] at hK); go_big_quiet_op; exact hK); simp only [Act.put, List.setIfInBounds_toArray, List.set_cons_succ, List.set_cons_zero]))
    refine f_nil ?_
    intro V w5 hq hkn
    replace q2 := q2.on hq
    replace p6 := p6.on hq
    have B5 := Lib.hid (B4.out.trans (Below.mono hq B4.out.size))
    clear hkn hq q5 B4 C1 C2
    go_wp2_with fail
    refine wp_region_facts 40 [] [22] (by kernel_rfl) (by kernel_rfl) (by kernel_rfl) (free_draw w5) ?_
    simp only [List.take_succ_cons, List.take_zero, List.drop_succ_cons, List.drop_zero, List.zipIdx_cons, List.zipIdx_nil, Nat.zero_add, Nat.reduceAdd]
    repeat (first
      | (refine f_skip (fun V => by rfl) ?_; simp only [Act.put, List.setIfInBounds_toArray, List.set_cons_succ, List.set_cons_zero])
        | (refine f_callF (by first | exact cls_free _ | exact cls_row _ _ _ _ | exact cls_fill _ _ _ _ _) (fSV (bys M)) (stays_sv _) (fun V => by rfl) (by decide) 32 _ _ rfl (enters_of Try.func32 rfl rfl) _ (fun V w hb hk => RS.out w _ (sv_ab (q2.on hb) 512 hl (by omega))) (fun V => by rfl) ?_; simp only [Act.put, List.setIfInBounds_toArray, List.set_cons_succ, List.set_cons_zero, keyOf, Option.getD_some])
        | (refine f_call (by first | exact cls_free _ | exact cls_row _ _ _ _ | exact cls_fill _ _ _ _ _) (fun V => by rfl) 19 _ _ rfl (enters_of Try.func19 rfl rfl) _ _ (fun V w hb hk => SS.out w _ _ (sv_ab (p6.on hb) 512 hM (by omega)) (hk.slot 22 rfl rfl)) (fun V => by rfl) ?_; simp only [Act.put, List.setIfInBounds_toArray, List.set_cons_succ, List.set_cons_zero])
        | (refine f_call (by first | exact cls_free _ | exact cls_row _ _ _ _ | exact cls_fill _ _ _ _ _) (fun V => by rfl) 33 _ _ rfl (enters_of Try.func33 rfl rfl) _ _ (fun V w hb hk => T1.out w _ (sv_ab (q2.on hb) 512 hl (by omega))) (fun V => by rfl) ?_; simp only [Act.put, List.setIfInBounds_toArray, List.set_cons_succ, List.set_cons_zero])
        | (refine f_call (by first | exact cls_free _ | exact cls_row _ _ _ _ | exact cls_fill _ _ _ _ _) (fun V => by rfl) 33 _ _ rfl (enters_of Try.func33 rfl rfl) _ _ (fun V w hb hk => T2.out w _ (sv_ab (p6.on hb) 512 hM (by omega))) (fun V => by rfl) ?_; simp only [Act.put, List.setIfInBounds_toArray, List.set_cons_succ, List.set_cons_zero])
        | (refine f_call (by first | exact cls_free _ | exact cls_row _ _ _ _ | exact cls_fill _ _ _ _ _) (fun V => by rfl) 23 _ _ rfl (enters_of Try.func23 rfl rfl) _ _ (fun V w hb hk => live7_any w) (fun V => by rfl) ?_; simp only [Act.put, List.setIfInBounds_toArray, List.set_cons_succ, List.set_cons_zero])
      | (refine f_quiet (by first | exact cls_free _ | exact cls_row _ _ _ _ | exact cls_fill _ _ _ _ _) (fun V => by rfl) (fun V => ⟨_, rfl, by simp⟩) ?_; apply Exists.intro; refine And.intro (fun V w hw K hK => ?_) ?_; ((try simp only [Act.put, List.setIfInBounds_toArray, List.set_cons_succ, List.set_cons_zero] at hK); go_big_quiet_op; exact hK); simp only [Act.put, List.setIfInBounds_toArray, List.set_cons_succ, List.set_cons_zero]))
    refine f_nil ?_
    intro V w6 hq hkn
    have B6 := Lib.hid (B5.out.trans (Below.mono hq B5.out.size))
    clear hkn
    go_wp2
    go_ret
    exact ⟨rfl, B6.out⟩
end Go.Proofs.Ytelamhdnefnceaa
