/- Layer 7: the contract of the reference's Right. -/
import Derived.Test.YtelamhdnefnceaaPageRefSlot
namespace Go.Proofs.Ytelamhdnefnceaa
set_option maxRecDepth 20000
open Go.RowKit Go.Sort

theorem right7_g (v : Value) (l : List UInt8) (no : Int) (w : World) (hl : l.length = 512) (hv : SV w v (bys l)) (h1 : goodB l = false) :
    Calls Try.prog 33 #[v, .int .i64 no] w fun e w' => e = .returned (.bool false) ∧ Below w.heap.size w w' := by
  have hz8 : ((l.drop 24).take 8 == List.replicate 8 (0 : UInt8)) = allZ (midL l 24 8) := by
    rw [allZ_is, mid_len (by omega)]
    rfl
  have hz32 : (l.drop 480 == List.replicate 32 (0 : UInt8)) = allZ (l.drop 480) := by
    rw [allZ_is, show (l.drop 480).length = 32 by simp; omega]
  have GD := fun w v (h : SV w v (bys l)) => refGood_any v l w (by omega) h
  have NO := fun w v (h : SV w v (bys l)) => rno_any v l w hl h
  have Q8 := Lib.hid (fun w => rzeros_any 8 w (by omega))
  have Q32 := Lib.hid (fun w => rzeros_any 32 w (by omega))
  have S8 := fun w v u (h : SV w v (bys ((l.drop 24).take 8))) (h' : SV w u (bys (List.replicate 8 0))) => same_any v u _ _ w h h'
  have S32 := fun w v u (h : SV w v (bys (l.drop 480))) (h' : SV w u (bys (List.replicate 32 0))) => same_any v u _ _ w h h'
  rw [hz8] at S8
  rw [hz32] at S32
  have HV := Lib.hid hv
  unfold OwnB at Q8 Q32
  rw [h1] at GD
  clear h1
  have HN := Lib.hid (show (numA l 12 2 != numA l 12 2) = false by simp)
  replace GD := Lib.hid GD
  replace NO := Lib.hid NO
  replace S8 := Lib.hid S8
  replace S32 := Lib.hid S32
  clear hv hz8 hz32
  go_enter Try.func33, Try.ntmps33
  go_wp2_with fail
  refine wp_region_facts 23 [] [19, 20, 26, 27] (by kernel_rfl) (by kernel_rfl) (by kernel_rfl) (free_draw w) ?_
  simp only [List.take_succ_cons, List.take_zero, List.drop_succ_cons, List.drop_zero, List.zipIdx_cons, List.zipIdx_nil, Nat.zero_add, Nat.reduceAdd]
  repeat (first
    | (refine f_skip (fun V => by rfl) ?_; simp only [Act.put, List.setIfInBounds_toArray, List.set_cons_succ, List.set_cons_zero])
      | (refine f_call (by first | exact cls_free _ | exact cls_row _ _ _ _ | exact cls_fill _ _ _ _ _) (fun V => by rfl) 49 _ _ rfl (enters_of Try.func49 rfl rfl) _ _ (fun V w hb hk => (GD.out w _ (HV.out.keep (Keeps.below hb))).mono fun e w' ⟨h1, h2⟩ => ⟨h1, by rw [← h2]; exact Below.refl _ _⟩) (fun V => by rfl) ?_; simp only [Act.put, List.setIfInBounds_toArray, List.set_cons_succ, List.set_cons_zero])
    | (refine f_call (by first | exact cls_free _ | exact cls_row _ _ _ _ | exact cls_fill _ _ _ _ _) (fun V => by rfl) 8 _ _ rfl (enters_of Try.func8 rfl rfl) _ _ (fun V w hb hk => (NO.out w _ (HV.out.keep (Keeps.below hb))).mono fun e w' ⟨h1, h2⟩ => ⟨h1, by rw [← h2]; exact Below.refl _ _⟩) (fun V => by rfl) ?_; simp only [Act.put, List.setIfInBounds_toArray, List.set_cons_succ, List.set_cons_zero])
    | (refine f_binop (by first | exact cls_free _ | exact cls_row _ _ _ _ | exact cls_fill _ _ _ _ _) (fun V => by rfl) _ _ _ _ _ rfl _ _ _ (fun w => run_neq_i _ _ _ _ false (HN.out) w) (fun w => guard_neq_i _ _ _ _ _ _ w) (fun V => by rfl) (fun V => by rfl) ?_; simp only [Act.put, List.setIfInBounds_toArray, List.set_cons_succ, List.set_cons_zero])
    | (refine f_midsv (by first | exact cls_free _ | exact cls_row _ _ _ _ | exact cls_fill _ _ _ _ _) (fun V => by rfl) (by decide) (.tmp 18) _ _ rfl Try.underlying26 (by kernel_rfl) _ (fun V => by rfl) (l) (fun V w hb hk => HV.out.keep (Keeps.below hb)) _ _ _ _ (fun V => by rfl) (fun V => by rfl) (24) (8) (rfl) (rfl) (by omega) ?_; simp only [Act.put, List.setIfInBounds_toArray, List.set_cons_succ, List.set_cons_zero, keyOf, Option.getD_some])
    | (refine f_cutsv (by first | exact cls_free _ | exact cls_row _ _ _ _ | exact cls_fill _ _ _ _ _) (fun V => by rfl) (by decide) (.tmp 25) _ rfl Try.underlying26 (by kernel_rfl) _ (fun V => by rfl) (l) (fun V w hb hk => HV.out.keep (Keeps.below hb)) _ _ (fun V => by rfl) (480) (rfl) (by omega) ?_; simp only [Act.put, List.setIfInBounds_toArray, List.set_cons_succ, List.set_cons_zero, keyOf, Option.getD_some])
    | (refine f_callF (by first | exact cls_free _ | exact cls_row _ _ _ _ | exact cls_fill _ _ _ _ _) (fSV (bys (List.replicate 8 0))) (stays_sv _) (fun V => by rfl) (by decide) 37 _ _ rfl (enters_of Try.func37 rfl rfl) _ (fun V w hb hk => (Q8.out w).mono fun e w' ⟨v, h1, h2, h3⟩ => ⟨v, h1, h2.sv, h3⟩) (fun V => by rfl) ?_; simp only [Act.put, List.setIfInBounds_toArray, List.set_cons_succ, List.set_cons_zero, keyOf, Option.getD_some])
    | (refine f_callF (by first | exact cls_free _ | exact cls_row _ _ _ _ | exact cls_fill _ _ _ _ _) (fSV (bys (List.replicate 32 0))) (stays_sv _) (fun V => by rfl) (by decide) 37 _ _ rfl (enters_of Try.func37 rfl rfl) _ (fun V w hb hk => (Q32.out w).mono fun e w' ⟨v, h1, h2, h3⟩ => ⟨v, h1, h2.sv, h3⟩) (fun V => by rfl) ?_; simp only [Act.put, List.setIfInBounds_toArray, List.set_cons_succ, List.set_cons_zero, keyOf, Option.getD_some])
    | (refine f_call (by first | exact cls_free _ | exact cls_row _ _ _ _ | exact cls_fill _ _ _ _ _) (fun V => by rfl) 19 _ _ rfl (enters_of Try.func19 rfl rfl) _ _ (fun V w hb hk => (S8.out w _ _ (hk.slot 19 rfl rfl) (hk.slot 20 rfl rfl)).mono fun e w' ⟨h1, h2⟩ => ⟨h1, by rw [← h2]; exact Below.refl _ _⟩) (fun V => by rfl) ?_; simp only [Act.put, List.setIfInBounds_toArray, List.set_cons_succ, List.set_cons_zero])
    | (refine f_call (by first | exact cls_free _ | exact cls_row _ _ _ _ | exact cls_fill _ _ _ _ _) (fun V => by rfl) 19 _ _ rfl (enters_of Try.func19 rfl rfl) _ _ (fun V w hb hk => (S32.out w _ _ (hk.slot 26 rfl rfl) (hk.slot 27 rfl rfl)).mono fun e w' ⟨h1, h2⟩ => ⟨h1, by rw [← h2]; exact Below.refl _ _⟩) (fun V => by rfl) ?_; simp only [Act.put, List.setIfInBounds_toArray, List.set_cons_succ, List.set_cons_zero])
    | (refine f_quiet (by first | exact cls_free _ | exact cls_row _ _ _ _ | exact cls_fill _ _ _ _ _) (fun V => by rfl) (fun V => ⟨_, rfl, by simp⟩) ?_; apply Exists.intro; refine And.intro (fun V w hw K hK => ?_) ?_; ((try simp only [Act.put, List.setIfInBounds_toArray, List.set_cons_succ, List.set_cons_zero] at hK); go_big_quiet_op; exact hK); simp only [Act.put, List.setIfInBounds_toArray, List.set_cons_succ, List.set_cons_zero]))
  refine f_nil ?_
  intro V w1 hq hkn
  have B1 : Hid (Below w.heap.size w w1) := Lib.hid hq
  clear hkn hq
  go_wp2
  go_ret
  exact ⟨rfl, B1.out⟩
theorem right7_no (v : Value) (l : List UInt8) (no : Int) (w : World) (hl : l.length = 512) (hv : SV w v (bys l)) (h1 : goodB l = true) (h2 : ¬ numA l 12 2 = no) :
    Calls Try.prog 33 #[v, .int .i64 no] w fun e w' => e = .returned (.bool false) ∧ Below w.heap.size w w' := by
  have hz8 : ((l.drop 24).take 8 == List.replicate 8 (0 : UInt8)) = allZ (midL l 24 8) := by
    rw [allZ_is, mid_len (by omega)]
    rfl
  have hz32 : (l.drop 480 == List.replicate 32 (0 : UInt8)) = allZ (l.drop 480) := by
    rw [allZ_is, show (l.drop 480).length = 32 by simp; omega]
  have GD := fun w v (h : SV w v (bys l)) => refGood_any v l w (by omega) h
  have NO := fun w v (h : SV w v (bys l)) => rno_any v l w hl h
  have Q8 := Lib.hid (fun w => rzeros_any 8 w (by omega))
  have Q32 := Lib.hid (fun w => rzeros_any 32 w (by omega))
  have S8 := fun w v u (h : SV w v (bys ((l.drop 24).take 8))) (h' : SV w u (bys (List.replicate 8 0))) => same_any v u _ _ w h h'
  have S32 := fun w v u (h : SV w v (bys (l.drop 480))) (h' : SV w u (bys (List.replicate 32 0))) => same_any v u _ _ w h h'
  rw [hz8] at S8
  rw [hz32] at S32
  have HV := Lib.hid hv
  unfold OwnB at Q8 Q32
  rw [h1] at GD
  have HN := Lib.hid (show (numA l 12 2 != no) = true by simpa using h2)
  clear h1 h2
  replace GD := Lib.hid GD
  replace NO := Lib.hid NO
  replace S8 := Lib.hid S8
  replace S32 := Lib.hid S32
  clear hv hz8 hz32
  go_enter Try.func33, Try.ntmps33
  go_wp2_with fail
  refine wp_region_facts 23 [] [19, 20, 26, 27] (by kernel_rfl) (by kernel_rfl) (by kernel_rfl) (free_draw w) ?_
  simp only [List.take_succ_cons, List.take_zero, List.drop_succ_cons, List.drop_zero, List.zipIdx_cons, List.zipIdx_nil, Nat.zero_add, Nat.reduceAdd]
  repeat (first
    | (refine f_skip (fun V => by rfl) ?_; simp only [Act.put, List.setIfInBounds_toArray, List.set_cons_succ, List.set_cons_zero])
      | (refine f_call (by first | exact cls_free _ | exact cls_row _ _ _ _ | exact cls_fill _ _ _ _ _) (fun V => by rfl) 49 _ _ rfl (enters_of Try.func49 rfl rfl) _ _ (fun V w hb hk => (GD.out w _ (HV.out.keep (Keeps.below hb))).mono fun e w' ⟨h1, h2⟩ => ⟨h1, by rw [← h2]; exact Below.refl _ _⟩) (fun V => by rfl) ?_; simp only [Act.put, List.setIfInBounds_toArray, List.set_cons_succ, List.set_cons_zero])
    | (refine f_call (by first | exact cls_free _ | exact cls_row _ _ _ _ | exact cls_fill _ _ _ _ _) (fun V => by rfl) 8 _ _ rfl (enters_of Try.func8 rfl rfl) _ _ (fun V w hb hk => (NO.out w _ (HV.out.keep (Keeps.below hb))).mono fun e w' ⟨h1, h2⟩ => ⟨h1, by rw [← h2]; exact Below.refl _ _⟩) (fun V => by rfl) ?_; simp only [Act.put, List.setIfInBounds_toArray, List.set_cons_succ, List.set_cons_zero])
    | (refine f_binop (by first | exact cls_free _ | exact cls_row _ _ _ _ | exact cls_fill _ _ _ _ _) (fun V => by rfl) _ _ _ _ _ rfl _ _ _ (fun w => run_neq_i _ _ _ _ true (HN.out) w) (fun w => guard_neq_i _ _ _ _ _ _ w) (fun V => by rfl) (fun V => by rfl) ?_; simp only [Act.put, List.setIfInBounds_toArray, List.set_cons_succ, List.set_cons_zero])
    | (refine f_midsv (by first | exact cls_free _ | exact cls_row _ _ _ _ | exact cls_fill _ _ _ _ _) (fun V => by rfl) (by decide) (.tmp 18) _ _ rfl Try.underlying26 (by kernel_rfl) _ (fun V => by rfl) (l) (fun V w hb hk => HV.out.keep (Keeps.below hb)) _ _ _ _ (fun V => by rfl) (fun V => by rfl) (24) (8) (rfl) (rfl) (by omega) ?_; simp only [Act.put, List.setIfInBounds_toArray, List.set_cons_succ, List.set_cons_zero, keyOf, Option.getD_some])
    | (refine f_cutsv (by first | exact cls_free _ | exact cls_row _ _ _ _ | exact cls_fill _ _ _ _ _) (fun V => by rfl) (by decide) (.tmp 25) _ rfl Try.underlying26 (by kernel_rfl) _ (fun V => by rfl) (l) (fun V w hb hk => HV.out.keep (Keeps.below hb)) _ _ (fun V => by rfl) (480) (rfl) (by omega) ?_; simp only [Act.put, List.setIfInBounds_toArray, List.set_cons_succ, List.set_cons_zero, keyOf, Option.getD_some])
    | (refine f_callF (by first | exact cls_free _ | exact cls_row _ _ _ _ | exact cls_fill _ _ _ _ _) (fSV (bys (List.replicate 8 0))) (stays_sv _) (fun V => by rfl) (by decide) 37 _ _ rfl (enters_of Try.func37 rfl rfl) _ (fun V w hb hk => (Q8.out w).mono fun e w' ⟨v, h1, h2, h3⟩ => ⟨v, h1, h2.sv, h3⟩) (fun V => by rfl) ?_; simp only [Act.put, List.setIfInBounds_toArray, List.set_cons_succ, List.set_cons_zero, keyOf, Option.getD_some])
    | (refine f_callF (by first | exact cls_free _ | exact cls_row _ _ _ _ | exact cls_fill _ _ _ _ _) (fSV (bys (List.replicate 32 0))) (stays_sv _) (fun V => by rfl) (by decide) 37 _ _ rfl (enters_of Try.func37 rfl rfl) _ (fun V w hb hk => (Q32.out w).mono fun e w' ⟨v, h1, h2, h3⟩ => ⟨v, h1, h2.sv, h3⟩) (fun V => by rfl) ?_; simp only [Act.put, List.setIfInBounds_toArray, List.set_cons_succ, List.set_cons_zero, keyOf, Option.getD_some])
    | (refine f_call (by first | exact cls_free _ | exact cls_row _ _ _ _ | exact cls_fill _ _ _ _ _) (fun V => by rfl) 19 _ _ rfl (enters_of Try.func19 rfl rfl) _ _ (fun V w hb hk => (S8.out w _ _ (hk.slot 19 rfl rfl) (hk.slot 20 rfl rfl)).mono fun e w' ⟨h1, h2⟩ => ⟨h1, by rw [← h2]; exact Below.refl _ _⟩) (fun V => by rfl) ?_; simp only [Act.put, List.setIfInBounds_toArray, List.set_cons_succ, List.set_cons_zero])
    | (refine f_call (by first | exact cls_free _ | exact cls_row _ _ _ _ | exact cls_fill _ _ _ _ _) (fun V => by rfl) 19 _ _ rfl (enters_of Try.func19 rfl rfl) _ _ (fun V w hb hk => (S32.out w _ _ (hk.slot 26 rfl rfl) (hk.slot 27 rfl rfl)).mono fun e w' ⟨h1, h2⟩ => ⟨h1, by rw [← h2]; exact Below.refl _ _⟩) (fun V => by rfl) ?_; simp only [Act.put, List.setIfInBounds_toArray, List.set_cons_succ, List.set_cons_zero])
    | (refine f_quiet (by first | exact cls_free _ | exact cls_row _ _ _ _ | exact cls_fill _ _ _ _ _) (fun V => by rfl) (fun V => ⟨_, rfl, by simp⟩) ?_; apply Exists.intro; refine And.intro (fun V w hw K hK => ?_) ?_; ((try simp only [Act.put, List.setIfInBounds_toArray, List.set_cons_succ, List.set_cons_zero] at hK); go_big_quiet_op; exact hK); simp only [Act.put, List.setIfInBounds_toArray, List.set_cons_succ, List.set_cons_zero]))
  refine f_nil ?_
  intro V w1 hq hkn
  have B1 : Hid (Below w.heap.size w w1) := Lib.hid hq
  clear hkn hq
  go_wp2
  go_ret
  exact ⟨rfl, B1.out⟩
theorem right7_z1 (v : Value) (l : List UInt8) (w : World) (hl : l.length = 512) (hv : SV w v (bys l)) (h1 : goodB l = true) (h3 : allZ (midL l 24 8) = false) :
    Calls Try.prog 33 #[v, .int .i64 (numA l 12 2)] w fun e w' => e = .returned (.bool false) ∧ Below w.heap.size w w' := by
  have hz8 : ((l.drop 24).take 8 == List.replicate 8 (0 : UInt8)) = allZ (midL l 24 8) := by
    rw [allZ_is, mid_len (by omega)]
    rfl
  have hz32 : (l.drop 480 == List.replicate 32 (0 : UInt8)) = allZ (l.drop 480) := by
    rw [allZ_is, show (l.drop 480).length = 32 by simp; omega]
  have GD := fun w v (h : SV w v (bys l)) => refGood_any v l w (by omega) h
  have NO := fun w v (h : SV w v (bys l)) => rno_any v l w hl h
  have Q8 := Lib.hid (fun w => rzeros_any 8 w (by omega))
  have Q32 := Lib.hid (fun w => rzeros_any 32 w (by omega))
  have S8 := fun w v u (h : SV w v (bys ((l.drop 24).take 8))) (h' : SV w u (bys (List.replicate 8 0))) => same_any v u _ _ w h h'
  have S32 := fun w v u (h : SV w v (bys (l.drop 480))) (h' : SV w u (bys (List.replicate 32 0))) => same_any v u _ _ w h h'
  rw [hz8] at S8
  rw [hz32] at S32
  have HV := Lib.hid hv
  unfold OwnB at Q8 Q32
  rw [h1] at GD
  rw [h3] at S8
  have HN := Lib.hid (show (numA l 12 2 != numA l 12 2) = false by simp)
  generalize numA l 12 2 = q at *
  clear h1 h3
  replace GD := Lib.hid GD
  replace NO := Lib.hid NO
  replace S8 := Lib.hid S8
  replace S32 := Lib.hid S32
  clear hv hz8 hz32
  go_enter Try.func33, Try.ntmps33
  go_wp2_with fail
  refine wp_region_facts 23 [] [19, 20, 26, 27] (by kernel_rfl) (by kernel_rfl) (by kernel_rfl) (free_draw w) ?_
  simp only [List.take_succ_cons, List.take_zero, List.drop_succ_cons, List.drop_zero, List.zipIdx_cons, List.zipIdx_nil, Nat.zero_add, Nat.reduceAdd]
  repeat (first
    | (refine f_skip (fun V => by rfl) ?_; simp only [Act.put, List.setIfInBounds_toArray, List.set_cons_succ, List.set_cons_zero])
      | (refine f_call (by first | exact cls_free _ | exact cls_row _ _ _ _ | exact cls_fill _ _ _ _ _) (fun V => by rfl) 49 _ _ rfl (enters_of Try.func49 rfl rfl) _ _ (fun V w hb hk => (GD.out w _ (HV.out.keep (Keeps.below hb))).mono fun e w' ⟨h1, h2⟩ => ⟨h1, by rw [← h2]; exact Below.refl _ _⟩) (fun V => by rfl) ?_; simp only [Act.put, List.setIfInBounds_toArray, List.set_cons_succ, List.set_cons_zero])
    | (refine f_call (by first | exact cls_free _ | exact cls_row _ _ _ _ | exact cls_fill _ _ _ _ _) (fun V => by rfl) 8 _ _ rfl (enters_of Try.func8 rfl rfl) _ _ (fun V w hb hk => (NO.out w _ (HV.out.keep (Keeps.below hb))).mono fun e w' ⟨h1, h2⟩ => ⟨h1, by rw [← h2]; exact Below.refl _ _⟩) (fun V => by rfl) ?_; simp only [Act.put, List.setIfInBounds_toArray, List.set_cons_succ, List.set_cons_zero])
    | (refine f_binop (by first | exact cls_free _ | exact cls_row _ _ _ _ | exact cls_fill _ _ _ _ _) (fun V => by rfl) _ _ _ _ _ rfl _ _ _ (fun w => run_neq_i _ _ _ _ false (HN.out) w) (fun w => guard_neq_i _ _ _ _ _ _ w) (fun V => by rfl) (fun V => by rfl) ?_; simp only [Act.put, List.setIfInBounds_toArray, List.set_cons_succ, List.set_cons_zero])
    | (refine f_midsv (by first | exact cls_free _ | exact cls_row _ _ _ _ | exact cls_fill _ _ _ _ _) (fun V => by rfl) (by decide) (.tmp 18) _ _ rfl Try.underlying26 (by kernel_rfl) _ (fun V => by rfl) (l) (fun V w hb hk => HV.out.keep (Keeps.below hb)) _ _ _ _ (fun V => by rfl) (fun V => by rfl) (24) (8) (rfl) (rfl) (by omega) ?_; simp only [Act.put, List.setIfInBounds_toArray, List.set_cons_succ, List.set_cons_zero, keyOf, Option.getD_some])
    | (refine f_cutsv (by first | exact cls_free _ | exact cls_row _ _ _ _ | exact cls_fill _ _ _ _ _) (fun V => by rfl) (by decide) (.tmp 25) _ rfl Try.underlying26 (by kernel_rfl) _ (fun V => by rfl) (l) (fun V w hb hk => HV.out.keep (Keeps.below hb)) _ _ (fun V => by rfl) (480) (rfl) (by omega) ?_; simp only [Act.put, List.setIfInBounds_toArray, List.set_cons_succ, List.set_cons_zero, keyOf, Option.getD_some])
    | (refine f_callF (by first | exact cls_free _ | exact cls_row _ _ _ _ | exact cls_fill _ _ _ _ _) (fSV (bys (List.replicate 8 0))) (stays_sv _) (fun V => by rfl) (by decide) 37 _ _ rfl (enters_of Try.func37 rfl rfl) _ (fun V w hb hk => (Q8.out w).mono fun e w' ⟨v, h1, h2, h3⟩ => ⟨v, h1, h2.sv, h3⟩) (fun V => by rfl) ?_; simp only [Act.put, List.setIfInBounds_toArray, List.set_cons_succ, List.set_cons_zero, keyOf, Option.getD_some])
    | (refine f_callF (by first | exact cls_free _ | exact cls_row _ _ _ _ | exact cls_fill _ _ _ _ _) (fSV (bys (List.replicate 32 0))) (stays_sv _) (fun V => by rfl) (by decide) 37 _ _ rfl (enters_of Try.func37 rfl rfl) _ (fun V w hb hk => (Q32.out w).mono fun e w' ⟨v, h1, h2, h3⟩ => ⟨v, h1, h2.sv, h3⟩) (fun V => by rfl) ?_; simp only [Act.put, List.setIfInBounds_toArray, List.set_cons_succ, List.set_cons_zero, keyOf, Option.getD_some])
    | (refine f_call (by first | exact cls_free _ | exact cls_row _ _ _ _ | exact cls_fill _ _ _ _ _) (fun V => by rfl) 19 _ _ rfl (enters_of Try.func19 rfl rfl) _ _ (fun V w hb hk => (S8.out w _ _ (hk.slot 19 rfl rfl) (hk.slot 20 rfl rfl)).mono fun e w' ⟨h1, h2⟩ => ⟨h1, by rw [← h2]; exact Below.refl _ _⟩) (fun V => by rfl) ?_; simp only [Act.put, List.setIfInBounds_toArray, List.set_cons_succ, List.set_cons_zero])
    | (refine f_call (by first | exact cls_free _ | exact cls_row _ _ _ _ | exact cls_fill _ _ _ _ _) (fun V => by rfl) 19 _ _ rfl (enters_of Try.func19 rfl rfl) _ _ (fun V w hb hk => (S32.out w _ _ (hk.slot 26 rfl rfl) (hk.slot 27 rfl rfl)).mono fun e w' ⟨h1, h2⟩ => ⟨h1, by rw [← h2]; exact Below.refl _ _⟩) (fun V => by rfl) ?_; simp only [Act.put, List.setIfInBounds_toArray, List.set_cons_succ, List.set_cons_zero])
    | (refine f_quiet (by first | exact cls_free _ | exact cls_row _ _ _ _ | exact cls_fill _ _ _ _ _) (fun V => by rfl) (fun V => ⟨_, rfl, by simp⟩) ?_; apply Exists.intro; refine And.intro (fun V w hw K hK => ?_) ?_; ((try simp only [Act.put, List.setIfInBounds_toArray, List.set_cons_succ, List.set_cons_zero] at hK); go_big_quiet_op; exact hK); simp only [Act.put, List.setIfInBounds_toArray, List.set_cons_succ, List.set_cons_zero]))
  refine f_nil ?_
  intro V w1 hq hkn
  have B1 : Hid (Below w.heap.size w w1) := Lib.hid hq
  clear hkn hq
  go_wp2
  go_ret
  exact ⟨rfl, B1.out⟩
theorem right7_z2 (v : Value) (l : List UInt8) (w : World) (hl : l.length = 512) (hv : SV w v (bys l)) (h1 : goodB l = true) (h3 : allZ (midL l 24 8) = true) (h4 : allZ (l.drop 480) = false) :
    Calls Try.prog 33 #[v, .int .i64 (numA l 12 2)] w fun e w' => e = .returned (.bool false) ∧ Below w.heap.size w w' := by
  have hz8 : ((l.drop 24).take 8 == List.replicate 8 (0 : UInt8)) = allZ (midL l 24 8) := by
    rw [allZ_is, mid_len (by omega)]
    rfl
  have hz32 : (l.drop 480 == List.replicate 32 (0 : UInt8)) = allZ (l.drop 480) := by
    rw [allZ_is, show (l.drop 480).length = 32 by simp; omega]
  have GD := fun w v (h : SV w v (bys l)) => refGood_any v l w (by omega) h
  have NO := fun w v (h : SV w v (bys l)) => rno_any v l w hl h
  have Q8 := Lib.hid (fun w => rzeros_any 8 w (by omega))
  have Q32 := Lib.hid (fun w => rzeros_any 32 w (by omega))
  have S8 := fun w v u (h : SV w v (bys ((l.drop 24).take 8))) (h' : SV w u (bys (List.replicate 8 0))) => same_any v u _ _ w h h'
  have S32 := fun w v u (h : SV w v (bys (l.drop 480))) (h' : SV w u (bys (List.replicate 32 0))) => same_any v u _ _ w h h'
  rw [hz8] at S8
  rw [hz32] at S32
  have HV := Lib.hid hv
  unfold OwnB at Q8 Q32
  rw [h1] at GD
  rw [h3] at S8
  rw [h4] at S32
  have HN := Lib.hid (show (numA l 12 2 != numA l 12 2) = false by simp)
  generalize numA l 12 2 = q at *
  clear h1 h3 h4
  replace GD := Lib.hid GD
  replace NO := Lib.hid NO
  replace S8 := Lib.hid S8
  replace S32 := Lib.hid S32
  clear hv hz8 hz32
  go_enter Try.func33, Try.ntmps33
  go_wp2_with fail
  refine wp_region_facts 23 [] [19, 20, 26, 27] (by kernel_rfl) (by kernel_rfl) (by kernel_rfl) (free_draw w) ?_
  simp only [List.take_succ_cons, List.take_zero, List.drop_succ_cons, List.drop_zero, List.zipIdx_cons, List.zipIdx_nil, Nat.zero_add, Nat.reduceAdd]
  repeat (first
    | (refine f_skip (fun V => by rfl) ?_; simp only [Act.put, List.setIfInBounds_toArray, List.set_cons_succ, List.set_cons_zero])
      | (refine f_call (by first | exact cls_free _ | exact cls_row _ _ _ _ | exact cls_fill _ _ _ _ _) (fun V => by rfl) 49 _ _ rfl (enters_of Try.func49 rfl rfl) _ _ (fun V w hb hk => (GD.out w _ (HV.out.keep (Keeps.below hb))).mono fun e w' ⟨h1, h2⟩ => ⟨h1, by rw [← h2]; exact Below.refl _ _⟩) (fun V => by rfl) ?_; simp only [Act.put, List.setIfInBounds_toArray, List.set_cons_succ, List.set_cons_zero])
    | (refine f_call (by first | exact cls_free _ | exact cls_row _ _ _ _ | exact cls_fill _ _ _ _ _) (fun V => by rfl) 8 _ _ rfl (enters_of Try.func8 rfl rfl) _ _ (fun V w hb hk => (NO.out w _ (HV.out.keep (Keeps.below hb))).mono fun e w' ⟨h1, h2⟩ => ⟨h1, by rw [← h2]; exact Below.refl _ _⟩) (fun V => by rfl) ?_; simp only [Act.put, List.setIfInBounds_toArray, List.set_cons_succ, List.set_cons_zero])
    | (refine f_binop (by first | exact cls_free _ | exact cls_row _ _ _ _ | exact cls_fill _ _ _ _ _) (fun V => by rfl) _ _ _ _ _ rfl _ _ _ (fun w => run_neq_i _ _ _ _ false (HN.out) w) (fun w => guard_neq_i _ _ _ _ _ _ w) (fun V => by rfl) (fun V => by rfl) ?_; simp only [Act.put, List.setIfInBounds_toArray, List.set_cons_succ, List.set_cons_zero])
    | (refine f_midsv (by first | exact cls_free _ | exact cls_row _ _ _ _ | exact cls_fill _ _ _ _ _) (fun V => by rfl) (by decide) (.tmp 18) _ _ rfl Try.underlying26 (by kernel_rfl) _ (fun V => by rfl) (l) (fun V w hb hk => HV.out.keep (Keeps.below hb)) _ _ _ _ (fun V => by rfl) (fun V => by rfl) (24) (8) (rfl) (rfl) (by omega) ?_; simp only [Act.put, List.setIfInBounds_toArray, List.set_cons_succ, List.set_cons_zero, keyOf, Option.getD_some])
    | (refine f_cutsv (by first | exact cls_free _ | exact cls_row _ _ _ _ | exact cls_fill _ _ _ _ _) (fun V => by rfl) (by decide) (.tmp 25) _ rfl Try.underlying26 (by kernel_rfl) _ (fun V => by rfl) (l) (fun V w hb hk => HV.out.keep (Keeps.below hb)) _ _ (fun V => by rfl) (480) (rfl) (by omega) ?_; simp only [Act.put, List.setIfInBounds_toArray, List.set_cons_succ, List.set_cons_zero, keyOf, Option.getD_some])
    | (refine f_callF (by first | exact cls_free _ | exact cls_row _ _ _ _ | exact cls_fill _ _ _ _ _) (fSV (bys (List.replicate 8 0))) (stays_sv _) (fun V => by rfl) (by decide) 37 _ _ rfl (enters_of Try.func37 rfl rfl) _ (fun V w hb hk => (Q8.out w).mono fun e w' ⟨v, h1, h2, h3⟩ => ⟨v, h1, h2.sv, h3⟩) (fun V => by rfl) ?_; simp only [Act.put, List.setIfInBounds_toArray, List.set_cons_succ, List.set_cons_zero, keyOf, Option.getD_some])
    | (refine f_callF (by first | exact cls_free _ | exact cls_row _ _ _ _ | exact cls_fill _ _ _ _ _) (fSV (bys (List.replicate 32 0))) (stays_sv _) (fun V => by rfl) (by decide) 37 _ _ rfl (enters_of Try.func37 rfl rfl) _ (fun V w hb hk => (Q32.out w).mono fun e w' ⟨v, h1, h2, h3⟩ => ⟨v, h1, h2.sv, h3⟩) (fun V => by rfl) ?_; simp only [Act.put, List.setIfInBounds_toArray, List.set_cons_succ, List.set_cons_zero, keyOf, Option.getD_some])
    | (refine f_call (by first | exact cls_free _ | exact cls_row _ _ _ _ | exact cls_fill _ _ _ _ _) (fun V => by rfl) 19 _ _ rfl (enters_of Try.func19 rfl rfl) _ _ (fun V w hb hk => (S8.out w _ _ (hk.slot 19 rfl rfl) (hk.slot 20 rfl rfl)).mono fun e w' ⟨h1, h2⟩ => ⟨h1, by rw [← h2]; exact Below.refl _ _⟩) (fun V => by rfl) ?_; simp only [Act.put, List.setIfInBounds_toArray, List.set_cons_succ, List.set_cons_zero])
    | (refine f_call (by first | exact cls_free _ | exact cls_row _ _ _ _ | exact cls_fill _ _ _ _ _) (fun V => by rfl) 19 _ _ rfl (enters_of Try.func19 rfl rfl) _ _ (fun V w hb hk => (S32.out w _ _ (hk.slot 26 rfl rfl) (hk.slot 27 rfl rfl)).mono fun e w' ⟨h1, h2⟩ => ⟨h1, by rw [← h2]; exact Below.refl _ _⟩) (fun V => by rfl) ?_; simp only [Act.put, List.setIfInBounds_toArray, List.set_cons_succ, List.set_cons_zero])
    | (refine f_quiet (by first | exact cls_free _ | exact cls_row _ _ _ _ | exact cls_fill _ _ _ _ _) (fun V => by rfl) (fun V => ⟨_, rfl, by simp⟩) ?_; apply Exists.intro; refine And.intro (fun V w hw K hK => ?_) ?_; ((try simp only [Act.put, List.setIfInBounds_toArray, List.set_cons_succ, List.set_cons_zero] at hK); go_big_quiet_op; exact hK); simp only [Act.put, List.setIfInBounds_toArray, List.set_cons_succ, List.set_cons_zero]))
  refine f_nil ?_
  intro V w1 hq hkn
  have B1 : Hid (Below w.heap.size w w1) := Lib.hid hq
  clear hkn hq
  go_wp2
  go_ret
  exact ⟨rfl, B1.out⟩
theorem right7_ok (v : Value) (l : List UInt8) (w : World) (hl : l.length = 512) (hv : SV w v (bys l)) (h1 : goodB l = true) (h3 : allZ (midL l 24 8) = true) (h4 : allZ (l.drop 480) = true) :
    Calls Try.prog 33 #[v, .int .i64 (numA l 12 2)] w fun e w' => e = .returned (.bool (okTo l 7)) ∧ Below w.heap.size w w' := by
  have hz8 : ((l.drop 24).take 8 == List.replicate 8 (0 : UInt8)) = allZ (midL l 24 8) := by
    rw [allZ_is, mid_len (by omega)]
    rfl
  have hz32 : (l.drop 480 == List.replicate 32 (0 : UInt8)) = allZ (l.drop 480) := by
    rw [allZ_is, show (l.drop 480).length = 32 by simp; omega]
  have GD := fun w v (h : SV w v (bys l)) => refGood_any v l w (by omega) h
  have NO := fun w v (h : SV w v (bys l)) => rno_any v l w hl h
  have Q8 := Lib.hid (fun w => rzeros_any 8 w (by omega))
  have Q32 := Lib.hid (fun w => rzeros_any 32 w (by omega))
  have S8 := fun w v u (h : SV w v (bys ((l.drop 24).take 8))) (h' : SV w u (bys (List.replicate 8 0))) => same_any v u _ _ w h h'
  have S32 := fun w v u (h : SV w v (bys (l.drop 480))) (h' : SV w u (bys (List.replicate 32 0))) => same_any v u _ _ w h h'
  rw [hz8] at S8
  rw [hz32] at S32
  have HV := Lib.hid hv
  unfold OwnB at Q8 Q32
  rw [h1] at GD
  rw [h3] at S8
  rw [h4] at S32
  have HN := Lib.hid (show (numA l 12 2 != numA l 12 2) = false by simp)
  generalize numA l 12 2 = q at *
  clear h1 h3 h4
  replace GD := Lib.hid GD
  replace NO := Lib.hid NO
  replace S8 := Lib.hid S8
  replace S32 := Lib.hid S32
  clear hv hz8 hz32
  go_enter Try.func33, Try.ntmps33
  go_wp2_with fail
  refine wp_region_facts 23 [] [19, 20, 26, 27] (by kernel_rfl) (by kernel_rfl) (by kernel_rfl) (free_draw w) ?_
  simp only [List.take_succ_cons, List.take_zero, List.drop_succ_cons, List.drop_zero, List.zipIdx_cons, List.zipIdx_nil, Nat.zero_add, Nat.reduceAdd]
  repeat (first
    | (refine f_skip (fun V => by rfl) ?_; simp only [Act.put, List.setIfInBounds_toArray, List.set_cons_succ, List.set_cons_zero])
      | (refine f_call (by first | exact cls_free _ | exact cls_row _ _ _ _ | exact cls_fill _ _ _ _ _) (fun V => by rfl) 49 _ _ rfl (enters_of Try.func49 rfl rfl) _ _ (fun V w hb hk => (GD.out w _ (HV.out.keep (Keeps.below hb))).mono fun e w' ⟨h1, h2⟩ => ⟨h1, by rw [← h2]; exact Below.refl _ _⟩) (fun V => by rfl) ?_; simp only [Act.put, List.setIfInBounds_toArray, List.set_cons_succ, List.set_cons_zero])
    | (refine f_call (by first | exact cls_free _ | exact cls_row _ _ _ _ | exact cls_fill _ _ _ _ _) (fun V => by rfl) 8 _ _ rfl (enters_of Try.func8 rfl rfl) _ _ (fun V w hb hk => (NO.out w _ (HV.out.keep (Keeps.below hb))).mono fun e w' ⟨h1, h2⟩ => ⟨h1, by rw [← h2]; exact Below.refl _ _⟩) (fun V => by rfl) ?_; simp only [Act.put, List.setIfInBounds_toArray, List.set_cons_succ, List.set_cons_zero])
    | (refine f_binop (by first | exact cls_free _ | exact cls_row _ _ _ _ | exact cls_fill _ _ _ _ _) (fun V => by rfl) _ _ _ _ _ rfl _ _ _ (fun w => run_neq_i _ _ _ _ false (HN.out) w) (fun w => guard_neq_i _ _ _ _ _ _ w) (fun V => by rfl) (fun V => by rfl) ?_; simp only [Act.put, List.setIfInBounds_toArray, List.set_cons_succ, List.set_cons_zero])
    | (refine f_midsv (by first | exact cls_free _ | exact cls_row _ _ _ _ | exact cls_fill _ _ _ _ _) (fun V => by rfl) (by decide) (.tmp 18) _ _ rfl Try.underlying26 (by kernel_rfl) _ (fun V => by rfl) (l) (fun V w hb hk => HV.out.keep (Keeps.below hb)) _ _ _ _ (fun V => by rfl) (fun V => by rfl) (24) (8) (rfl) (rfl) (by omega) ?_; simp only [Act.put, List.setIfInBounds_toArray, List.set_cons_succ, List.set_cons_zero, keyOf, Option.getD_some])
    | (refine f_cutsv (by first | exact cls_free _ | exact cls_row _ _ _ _ | exact cls_fill _ _ _ _ _) (fun V => by rfl) (by decide) (.tmp 25) _ rfl Try.underlying26 (by kernel_rfl) _ (fun V => by rfl) (l) (fun V w hb hk => HV.out.keep (Keeps.below hb)) _ _ (fun V => by rfl) (480) (rfl) (by omega) ?_; simp only [Act.put, List.setIfInBounds_toArray, List.set_cons_succ, List.set_cons_zero, keyOf, Option.getD_some])
    | (refine f_callF (by first | exact cls_free _ | exact cls_row _ _ _ _ | exact cls_fill _ _ _ _ _) (fSV (bys (List.replicate 8 0))) (stays_sv _) (fun V => by rfl) (by decide) 37 _ _ rfl (enters_of Try.func37 rfl rfl) _ (fun V w hb hk => (Q8.out w).mono fun e w' ⟨v, h1, h2, h3⟩ => ⟨v, h1, h2.sv, h3⟩) (fun V => by rfl) ?_; simp only [Act.put, List.setIfInBounds_toArray, List.set_cons_succ, List.set_cons_zero, keyOf, Option.getD_some])
    | (refine f_callF (by first | exact cls_free _ | exact cls_row _ _ _ _ | exact cls_fill _ _ _ _ _) (fSV (bys (List.replicate 32 0))) (stays_sv _) (fun V => by rfl) (by decide) 37 _ _ rfl (enters_of Try.func37 rfl rfl) _ (fun V w hb hk => (Q32.out w).mono fun e w' ⟨v, h1, h2, h3⟩ => ⟨v, h1, h2.sv, h3⟩) (fun V => by rfl) ?_; simp only [Act.put, List.setIfInBounds_toArray, List.set_cons_succ, List.set_cons_zero, keyOf, Option.getD_some])
    | (refine f_call (by first | exact cls_free _ | exact cls_row _ _ _ _ | exact cls_fill _ _ _ _ _) (fun V => by rfl) 19 _ _ rfl (enters_of Try.func19 rfl rfl) _ _ (fun V w hb hk => (S8.out w _ _ (hk.slot 19 rfl rfl) (hk.slot 20 rfl rfl)).mono fun e w' ⟨h1, h2⟩ => ⟨h1, by rw [← h2]; exact Below.refl _ _⟩) (fun V => by rfl) ?_; simp only [Act.put, List.setIfInBounds_toArray, List.set_cons_succ, List.set_cons_zero])
    | (refine f_call (by first | exact cls_free _ | exact cls_row _ _ _ _ | exact cls_fill _ _ _ _ _) (fun V => by rfl) 19 _ _ rfl (enters_of Try.func19 rfl rfl) _ _ (fun V w hb hk => (S32.out w _ _ (hk.slot 26 rfl rfl) (hk.slot 27 rfl rfl)).mono fun e w' ⟨h1, h2⟩ => ⟨h1, by rw [← h2]; exact Below.refl _ _⟩) (fun V => by rfl) ?_; simp only [Act.put, List.setIfInBounds_toArray, List.set_cons_succ, List.set_cons_zero])
    | (refine f_quiet (by first | exact cls_free _ | exact cls_row _ _ _ _ | exact cls_fill _ _ _ _ _) (fun V => by rfl) (fun V => ⟨_, rfl, by simp⟩) ?_; apply Exists.intro; refine And.intro (fun V w hw K hK => ?_) ?_; ((try simp only [Act.put, List.setIfInBounds_toArray, List.set_cons_succ, List.set_cons_zero] at hK); go_big_quiet_op; exact hK); simp only [Act.put, List.setIfInBounds_toArray, List.set_cons_succ, List.set_cons_zero]))
  refine f_nil ?_
  intro V w1 hq hkn
  have B1 : Hid (Below w.heap.size w w1) := Lib.hid hq
  clear hkn hq
  go_wp2
  go_loopw [5] (fun i wr => ∃ k : Nat, k ≤ 7 ∧ i = .int .i64 k ∧ okTo l k = true ∧ Below w.heap.size w wr) (fun i _ => 7 - (intOf i).toNat)
  case atStart => exact ⟨0, by omega, rfl, rfl, B1.out⟩
  case round =>
    obtain ⟨k, hk, rfl, hok, b5⟩ := hrel
    have HOK := Lib.hid hok
    have B5 := Lib.hid b5
    clear hok b5
    by_cases hlt : k < 7
    · have SL := fun w h => rslot_any v l k w hl h
      unfold PSlotP at SL
      rw [pslot_yes hlt] at SL
      have hs : okS l k = ((getI (slotL l k)).2 == 0) := rfl
      have hf := getI_err (slotL l k)
      generalize getI (slotL l k) = G at *
      obtain ⟨x, f⟩ := G
      obtain ⟨st, kk, kd, d, lo, hi, v'⟩ := x
      unfold iv at SL
      simp only at SL hs hf
      replace SL := Lib.hid SL
      rcases hf with rfl | rfl
      all_goals
        have HS := Lib.hid hs
        clear hs
        go_wp2_with fail
        refine (SL.out _ (HV.out.keep (Keeps.below B5.out))).mono ?_
        rintro e w6 ⟨D, rfl, s6, b6⟩
        obtain ⟨D, c, rfl⟩ := sv_open7 s6
        have B6 := Lib.hid (B5.out.trans (b6.mono B5.out.size))
        clear b6 s6
        go_wp2_with (refine wpList_store_row rfl _ (.tmp 6) (.tmp 39) rfl w6.heap.size _ rfl rfl _ _ (Whole.made w6 _ _) (by kernel_rfl) rfl (by simp [Value.oneCell']) ?_; rw [World.setRow_alloc_new])
      · go_roundw
        case rel => exact ⟨k + 1, by omega, by go_num, by rw [okTo_snoc, HOK.out, HS.out]; rfl, B6.out.alloc B6.out.size _⟩
        case measure => simp [intOf]; omega
      · go_ret
        exact ⟨by rw [okTo_no hlt HS.out]; rfl, B6.out.alloc B6.out.size _⟩
    · obtain rfl : k = 7 := by omega
      go_wp2
      go_ret
      exact ⟨by rw [HOK.out]; rfl, B5.out⟩
theorem right7_any (v : Value) (l : List UInt8) (no : Int) (w : World) (hl : l.length = 512) (hv : SV w v (bys l)) :
    Calls Try.prog 33 #[v, .int .i64 no] w fun e w' => e = .returned (.bool (rightP l no)) ∧ Below w.heap.size w w' := by
  unfold rightP
  cases h1 : goodB l
  · rw [Bool.false_and]; exact right7_g v l no w hl hv h1
  · rw [Bool.true_and]
    by_cases hN : numA l 12 2 = no
    · subst hN
      rw [beq_self_eq_true, Bool.true_and]
      cases h3 : allZ (midL l 24 8)
      · rw [Bool.false_and]; exact right7_z1 v l w hl hv h1 h3
      · rw [Bool.true_and]
        cases h4 : allZ (l.drop 480)
        · rw [Bool.false_and]; exact right7_z2 v l w hl hv h1 h3 h4
        · rw [Bool.true_and]; exact right7_ok v l w hl hv h1 h3 h4
    · rw [beq_eq_false_iff_ne.2 hN, Bool.false_and]
      exact right7_no v l no w hl hv h1 hN
end Go.Proofs.Ytelamhdnefnceaa
