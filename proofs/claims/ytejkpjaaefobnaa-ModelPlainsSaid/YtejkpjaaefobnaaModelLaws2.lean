/- What the law ModelChecks comes to. -/
import Derived.Test.YtejkpjaaefobnaaModelLaws
import Derived.Test.YtejkpjaaefobnaaModelGood
import Derived.Test.YtejkpjaaefobnaaModelRPlain
import Derived.Test.YtejkpjaaefobnaaModelOps
namespace Go.Proofs.Ytejkpjaaefobnaa
set_option maxRecDepth 20000
open Go.RowKit Go.Sort

/-- A value that reads as an operation. -/
def fOV (x : Ox) : Value → World → Prop := fun v w => ∃ A n c, v = ov (.slice A n c) x ∧ SV w (.slice A n c) (bys x.b)
theorem stays_ov (x : Ox) : Stays (fOV x) := fun _ _ _ ⟨A, n, c, e, h⟩ hb => ⟨A, n, c, e, h.keep (Keeps.below hb)⟩
theorem named_f {x : Ox} {w : World} {e : Ending} {w' : World} (h : Named x w e w') : ∃ v, e = .returned v ∧ fOV x v w' ∧ Below w.heap.size w w' := by
  obtain ⟨A, n, c, h1, h2, h3⟩ := h
  exact ⟨_, h1, ⟨A, n, c, rfl, h2⟩, h3⟩
theorem muchOne (A : Option Addr) (c : Nat) (x : Ox) (hb : x.b.length ≤ 9223372036854775807) (hk : x.k.length ≤ 9223372036854775807) (w' : World) (g : Nat) (hg : g = w'.heap.size) (hw : SV w' (.slice A x.b.length c) (bys x.b)) :
    Calls Try.prog 8 #[.slice (some ⟨g, 0, none⟩) 1 1] (w'.alloc (.cells (ocs x (.slice A x.b.length c)).toArray 36)) (MuchedO [x] (w'.alloc (.cells (ocs x (.slice A x.b.length c)).toArray 36))) := by
  subst hg
  exact much9_any _ [x] _ (OS.one (Whole.made w' _ _) (hw.keep (Keeps.alloc _ _))) (fun p hp => by simp at hp; subst hp; exact ⟨hb, hk⟩)
set_option maxHeartbeats 2000000 in
theorem checks9_law (D : Value) (x : Ox) (w : World) (hD : SV w D (bys x.b)) (hb : x.b.length ≤ 9223372036854775807) (hk : x.k.length ≤ 9223372036854775807) :
    Calls Try.prog 4 #[ov D x] w fun e w' => e = .returned (.bool true) ∧ Below w.heap.size w w' := by
  obtain ⟨A, c, rfl, _⟩ := id hD
  rw [bys_len] at hD ⊢
  have LV := Lib.hid (fun w => live9_any w)
  have MU := Lib.hid (muchOne A c x hb hk)
  have HD := Lib.hid hD
  clear hD hb hk
  unfold ocs kst at MU
  unfold ov kst
  go_enter Try.func4, Try.ntmps4
  go_wp2_with (refine wpList_load_row rfl _ _ rfl (w.heap.size) rfl _ _ _ _ (Whole.made w _ _) Try.underlying36 rfl (by kernel_rfl) ?_)
  refine Calls.mono (MU.out (w.alloc _) (w.heap.size + 1) (by simp) (HD.out.keep (Keeps.alloc _ _))) ?_
  rintro e w2 ⟨g, rfl, hg, b2⟩
  have p1 := Lib.hid (((Whole.made w 36 #[.int .i64 x.d, .string ⟨x.k.toArray⟩, .slice A x.b.length c, .int .i64 x.lo, .int .i64 x.hi, .int .i64 x.n]).later _).on b2)
  have B2 := Lib.hid (bthen (two_more (Below.refl _ w) _ _) b2)
  clear b2 MU
  cases g with
  | true =>
    clear hg
    go_wp2_with fail
    refine (LV.out _).mono ?_
    rintro e w3 ⟨rfl, b3⟩
    have B3 := Lib.hid (B2.out.trans (b3.mono B2.out.size))
    clear b3
    go_wp2
    go_ret
    exact ⟨rfl, B3.out⟩
  | false =>
    have hs := (hg rfl).2 x (by simp)
    have CK := fun w => check9_any A x.b.length c x w rfl (by omega) (by omega)
    have GD := fun w => rgood9_any A c x w (by omega)
    have PL := fun w (hw : SV w (.slice A x.b.length c) (bys x.b)) => plain9_any A x.b.length c x w hw (by omega)
    have RP := fun w (hw : SV w (.slice A x.b.length c) (bys x.b)) => rplain9_any A x.b.length c x w hw
    have EX : Hid (∀ v u w, fOV (plainX x) v w → fOV (plainX x) u w → Calls Try.prog 20 #[v, u] w fun e w' => e = .returned (.bool true) ∧ Below w.heap.size w w') := Lib.hid (by
      rintro v u w ⟨A1, n1, c1, rfl, h1⟩ ⟨A2, n2, c2, rfl, h2⟩
      exact exact9_any A1 A2 n1 n2 c1 c2 (plainX x) w h1 h2)
    clear hg hs
    unfold ov kst at CK GD PL RP
    replace PL := Lib.hid PL
    replace RP := Lib.hid RP
    cases hgd : goodX x with
    | true =>
      rw [show ckX x = 0 by simp [ckX, hgd]] at CK
      rw [hgd] at GD
      replace CK := Lib.hid CK
      replace GD := Lib.hid GD
      clear hgd
      go_wp2_with (first
        | (show wpList _ _ _ (Oper.mk _ (.load _ (.tmp 1)) _ _ _ _ :: _) _ _; refine wpList_load_row rfl 36 (.tmp 1) rfl (w.heap.size) rfl _ _ _ _ (p1.out) Try.underlying36 rfl (by kernel_rfl) ?_)
        | (go_at_call 18; refine (CK.out _).mono ?_; rintro e w3 ⟨rfl, b3⟩; replace p1 := Lib.hid (p1.out.on b3); have B3 := Lib.hid (B2.out.trans (b3.mono B2.out.size)); clear b3)
        | (go_at_call 17; refine (code9_any _ _).mono ?_; rintro e w4 ⟨rfl, rfl⟩))
      have HD3 := Lib.hid (HD.out.keep (Keeps.below B3.out))
      refine wp_region_facts 23 [] [26, 28] (by kernel_rfl) (by kernel_rfl) (by kernel_rfl) (free_draw w3) ?_
      simp only [List.take_succ_cons, List.take_zero, List.drop_succ_cons, List.drop_zero, List.zipIdx_cons, List.zipIdx_nil, Nat.zero_add, Nat.reduceAdd]
      repeat (show wpF _ _ _ _ _ _ (_ :: _) _ _; first
        | (refine f_skip (fun V => by rfl) ?_; simp only [Act.put, List.setIfInBounds_toArray, List.set_cons_succ, List.set_cons_zero])
          
            | (refine f_load_row (by first | exact cls_free _ | exact cls_row _ _ _ _ | exact cls_fill _ _ _ _ _ | exact cls_butC _ _ | exact cls_butD _ _ _ _ _ _ _) (fun V => by rfl) _ _ rfl _ (fun V => by rfl) _ _ _ (fun w hb => p1.out.on hb) Try.underlying36 rfl (by kernel_rfl) ?_; simp only [Act.put, List.setIfInBounds_toArray, List.set_cons_succ, List.set_cons_zero])
            | (refine f_binop (by first | exact cls_free _ | exact cls_row _ _ _ _ | exact cls_fill _ _ _ _ _ | exact cls_butC _ _ | exact cls_butD _ _ _ _ _ _ _) (fun V => by rfl) _ _ _ _ _ rfl _ _ _ (fun w => run_eql_b _ w) (fun w => guard_b _ _ _ _ _ _ w) (fun V => by rfl) (fun V => by rfl) ?_; simp only [Act.put, List.setIfInBounds_toArray, List.set_cons_succ, List.set_cons_zero])
            | (refine f_call (by first | exact cls_free _ | exact cls_row _ _ _ _ | exact cls_fill _ _ _ _ _ | exact cls_butC _ _ | exact cls_butD _ _ _ _ _ _ _) (fun V => by rfl) 19 _ _ rfl (enters_of Try.func19 rfl rfl) _ _ (fun V w hb hk => GD.out w) (fun V => by rfl) ?_; simp only [Act.put, List.setIfInBounds_toArray, List.set_cons_succ, List.set_cons_zero])
            | (refine f_callF (by first | exact cls_free _ | exact cls_row _ _ _ _ | exact cls_fill _ _ _ _ _ | exact cls_butC _ _ | exact cls_butD _ _ _ _ _ _ _) (fOV (plainX x)) (stays_ov _) (fun V => by rfl) (by decide) 21 _ _ rfl (enters_of Try.func21 rfl rfl) _ (fun V w hb hk => (PL.out w (HD3.out.keep (Keeps.below hb))).mono fun e w' h => named_f h) (fun V => by rfl) ?_; simp only [Act.put, List.setIfInBounds_toArray, List.set_cons_succ, List.set_cons_zero, keyOf, Option.getD_some])
            | (refine f_callF (by first | exact cls_free _ | exact cls_row _ _ _ _ | exact cls_fill _ _ _ _ _ | exact cls_butC _ _ | exact cls_butD _ _ _ _ _ _ _) (fOV (plainX x)) (stays_ov _) (fun V => by rfl) (by decide) 22 _ _ rfl (enters_of Try.func22 rfl rfl) _ (fun V w hb hk => (RP.out w (HD3.out.keep (Keeps.below hb))).mono fun e w' h => named_f h) (fun V => by rfl) ?_; simp only [Act.put, List.setIfInBounds_toArray, List.set_cons_succ, List.set_cons_zero, keyOf, Option.getD_some])
            | (refine f_call (by first | exact cls_free _ | exact cls_row _ _ _ _ | exact cls_fill _ _ _ _ _ | exact cls_butC _ _ | exact cls_butD _ _ _ _ _ _ _) (fun V => by rfl) 20 _ _ rfl (enters_of Try.func20 rfl rfl) _ _ (fun V w hb hk => EX.out _ _ w (hk.slot 26 rfl rfl) (hk.slot 28 rfl rfl)) (fun V => by rfl) ?_; simp only [Act.put, List.setIfInBounds_toArray, List.set_cons_succ, List.set_cons_zero])
            | (refine f_call (by first | exact cls_free _ | exact cls_row _ _ _ _ | exact cls_fill _ _ _ _ _ | exact cls_butC _ _ | exact cls_butD _ _ _ _ _ _ _) (fun V => by rfl) 10 _ _ rfl (enters_of Try.func10 rfl rfl) _ _ (fun V w hb hk => LV.out w) (fun V => by rfl) ?_; simp only [Act.put, List.setIfInBounds_toArray, List.set_cons_succ, List.set_cons_zero])
        | (refine f_quiet (by first | exact cls_free _ | exact cls_row _ _ _ _ | exact cls_fill _ _ _ _ _ | exact cls_butC _ _ | exact cls_butD _ _ _ _ _ _ _) (fun V => by rfl) (fun V => ⟨_, rfl, by simp⟩) ?_; apply Exists.intro; refine And.intro (fun V w hw K hK => ?_) ?_; ((try simp only [Act.put, List.setIfInBounds_toArray, List.set_cons_succ, List.set_cons_zero] at hK); go_big_quiet_op; exact hK); simp only [Act.put, List.setIfInBounds_toArray, List.set_cons_succ, List.set_cons_zero]))
      refine f_nil ?_
      intro V w' hq2 hkn
      clear hkn
      have B8 := Lib.hid (B3.out.trans (hq2.mono B3.out.size))
      clear hq2
      go_wp2
      go_ret
      exact ⟨rfl, B8.out⟩
    | false =>
      rw [show ckX x = 1 by simp [ckX, hgd]] at CK
      rw [hgd] at GD
      replace CK := Lib.hid CK
      replace GD := Lib.hid GD
      clear hgd
      go_wp2_with (first
        | (show wpList _ _ _ (Oper.mk _ (.load _ (.tmp 1)) _ _ _ _ :: _) _ _; refine wpList_load_row rfl 36 (.tmp 1) rfl (w.heap.size) rfl _ _ _ _ (p1.out) Try.underlying36 rfl (by kernel_rfl) ?_)
        | (go_at_call 18; refine (CK.out _).mono ?_; rintro e w3 ⟨rfl, b3⟩; replace p1 := Lib.hid (p1.out.on b3); have B3 := Lib.hid (B2.out.trans (b3.mono B2.out.size)); clear b3)
        | (go_at_call 17; refine (code9_any _ _).mono ?_; rintro e w4 ⟨rfl, rfl⟩))
      have HD3 := Lib.hid (HD.out.keep (Keeps.below B3.out))
      refine wp_region_facts 23 [] [26, 28] (by kernel_rfl) (by kernel_rfl) (by kernel_rfl) (free_draw w3) ?_
      simp only [List.take_succ_cons, List.take_zero, List.drop_succ_cons, List.drop_zero, List.zipIdx_cons, List.zipIdx_nil, Nat.zero_add, Nat.reduceAdd]
      repeat (show wpF _ _ _ _ _ _ (_ :: _) _ _; first
        | (refine f_skip (fun V => by rfl) ?_; simp only [Act.put, List.setIfInBounds_toArray, List.set_cons_succ, List.set_cons_zero])
          
            | (refine f_load_row (by first | exact cls_free _ | exact cls_row _ _ _ _ | exact cls_fill _ _ _ _ _ | exact cls_butC _ _ | exact cls_butD _ _ _ _ _ _ _) (fun V => by rfl) _ _ rfl _ (fun V => by rfl) _ _ _ (fun w hb => p1.out.on hb) Try.underlying36 rfl (by kernel_rfl) ?_; simp only [Act.put, List.setIfInBounds_toArray, List.set_cons_succ, List.set_cons_zero])
            | (refine f_binop (by first | exact cls_free _ | exact cls_row _ _ _ _ | exact cls_fill _ _ _ _ _ | exact cls_butC _ _ | exact cls_butD _ _ _ _ _ _ _) (fun V => by rfl) _ _ _ _ _ rfl _ _ _ (fun w => run_eql_b _ w) (fun w => guard_b _ _ _ _ _ _ w) (fun V => by rfl) (fun V => by rfl) ?_; simp only [Act.put, List.setIfInBounds_toArray, List.set_cons_succ, List.set_cons_zero])
            | (refine f_call (by first | exact cls_free _ | exact cls_row _ _ _ _ | exact cls_fill _ _ _ _ _ | exact cls_butC _ _ | exact cls_butD _ _ _ _ _ _ _) (fun V => by rfl) 19 _ _ rfl (enters_of Try.func19 rfl rfl) _ _ (fun V w hb hk => GD.out w) (fun V => by rfl) ?_; simp only [Act.put, List.setIfInBounds_toArray, List.set_cons_succ, List.set_cons_zero])
            | (refine f_callF (by first | exact cls_free _ | exact cls_row _ _ _ _ | exact cls_fill _ _ _ _ _ | exact cls_butC _ _ | exact cls_butD _ _ _ _ _ _ _) (fOV (plainX x)) (stays_ov _) (fun V => by rfl) (by decide) 21 _ _ rfl (enters_of Try.func21 rfl rfl) _ (fun V w hb hk => (PL.out w (HD3.out.keep (Keeps.below hb))).mono fun e w' h => named_f h) (fun V => by rfl) ?_; simp only [Act.put, List.setIfInBounds_toArray, List.set_cons_succ, List.set_cons_zero, keyOf, Option.getD_some])
            | (refine f_callF (by first | exact cls_free _ | exact cls_row _ _ _ _ | exact cls_fill _ _ _ _ _ | exact cls_butC _ _ | exact cls_butD _ _ _ _ _ _ _) (fOV (plainX x)) (stays_ov _) (fun V => by rfl) (by decide) 22 _ _ rfl (enters_of Try.func22 rfl rfl) _ (fun V w hb hk => (RP.out w (HD3.out.keep (Keeps.below hb))).mono fun e w' h => named_f h) (fun V => by rfl) ?_; simp only [Act.put, List.setIfInBounds_toArray, List.set_cons_succ, List.set_cons_zero, keyOf, Option.getD_some])
            | (refine f_call (by first | exact cls_free _ | exact cls_row _ _ _ _ | exact cls_fill _ _ _ _ _ | exact cls_butC _ _ | exact cls_butD _ _ _ _ _ _ _) (fun V => by rfl) 20 _ _ rfl (enters_of Try.func20 rfl rfl) _ _ (fun V w hb hk => EX.out _ _ w (hk.slot 26 rfl rfl) (hk.slot 28 rfl rfl)) (fun V => by rfl) ?_; simp only [Act.put, List.setIfInBounds_toArray, List.set_cons_succ, List.set_cons_zero])
            | (refine f_call (by first | exact cls_free _ | exact cls_row _ _ _ _ | exact cls_fill _ _ _ _ _ | exact cls_butC _ _ | exact cls_butD _ _ _ _ _ _ _) (fun V => by rfl) 10 _ _ rfl (enters_of Try.func10 rfl rfl) _ _ (fun V w hb hk => LV.out w) (fun V => by rfl) ?_; simp only [Act.put, List.setIfInBounds_toArray, List.set_cons_succ, List.set_cons_zero])
        | (refine f_quiet (by first | exact cls_free _ | exact cls_row _ _ _ _ | exact cls_fill _ _ _ _ _ | exact cls_butC _ _ | exact cls_butD _ _ _ _ _ _ _) (fun V => by rfl) (fun V => ⟨_, rfl, by simp⟩) ?_; apply Exists.intro; refine And.intro (fun V w hw K hK => ?_) ?_; ((try simp only [Act.put, List.setIfInBounds_toArray, List.set_cons_succ, List.set_cons_zero] at hK); go_big_quiet_op; exact hK); simp only [Act.put, List.setIfInBounds_toArray, List.set_cons_succ, List.set_cons_zero]))
      refine f_nil ?_
      intro V w' hq2 hkn
      clear hkn
      have B8 := Lib.hid (B3.out.trans (hq2.mono B3.out.size))
      clear hq2
      go_wp2
      go_ret
      exact ⟨rfl, B8.out⟩
end Go.Proofs.Ytejkpjaaefobnaa
