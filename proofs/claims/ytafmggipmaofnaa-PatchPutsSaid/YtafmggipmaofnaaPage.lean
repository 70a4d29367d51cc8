/- Layer 7: contracts of the program's pages: numbers, what is written, slots, seal. -/
import Derived.Test.YtafmggipmaofnaaPageArr
import Derived.Test.YtafmggipmaofnaaSlotPut
import Derived.Test.YtafmggipmaofnaaSlotGet
namespace Go.Proofs.Ytafmggipmaofnaa
set_option maxRecDepth 20000
open Go.RowKit Go.Sort

theorem Try.zinfo24 : (Try.prog.info? 24).map (fun i => (i.zero, i.size)) = some (some (.agg (ab z512)), 512) := by kernel_rfl

theorem pwith_any (l : List UInt8) (hl : l.length = 512) (a n : Nat) (x : Int) (h1 : 1 ≤ n) (h8 : n ≤ 8) (h : a + n ≤ 512) (w : World) :
    Calls Try.prog 40 #[.agg (ab l), .int .i64 a, .int .i64 n, .int .i64 x] w fun e w' => e = .returned (.agg (ab (putAt l a (beb n (ub x))))) ∧ Below w.heap.size w w' := by
  have hz := (zero_of_info Try.zinfo24).1
  have P1 : Hid (∀ w, Calls Try.prog 42 #[.slice none 0 0, .int .i64 n, .int .i64 x] w fun e w' => ∃ v, e = .returned v ∧ SV w' v (bys (beb n (ub x))) ∧ Below w.heap.size w w') :=
    Lib.hid fun w => (own_put (.slice none 0 0) [] n x w (by simp) (SV.nil w) h1 h8).mono fun e w' ⟨v, h1, h2, h3⟩ => ⟨v, h1, by have := h2.sv; rwa [List.nil_append] at this, h3⟩
  have hpl : (putAt l a (beb n (ub x))).length = 512 := by rw [putAt_len (by simp; omega), hl]
  have hb : (beb n (ub x)).take (512 - a) = beb n (ub x) := List.take_of_length_le (by simp; omega)
  generalize beb n (ub x) = c at *
  have HL := Lib.hid (show putAt l a c = putAt l a (c.take (512 - a)) by rw [hb])
  clear hb
  generalize putAt l a c = out at *
  go_enter Try.func40, Try.ntmps40
  go_wp2_with fail
  have p1 : Whole _ w.heap.size 24 (ab l) := (Whole.made w 24 (ab l)).later (.cells (ab z512) 24)
  have p2 := Whole.second w (.cells (ab l) 24) 24 (ab z512)
  have B2 := Lib.hid (two_more (Below.refl w.heap.size w) (.cells (ab l) 24) (.cells (ab z512) 24))
  generalize (w.alloc (.cells (ab l) 24)).alloc (.cells (ab z512) 24) = w2 at *
  refine wp_region_facts 6 [5] [13, 14] (by kernel_rfl) (by kernel_rfl) (by kernel_rfl) (fill_draw p1 out) ?_
  simp only [List.take_succ_cons, List.take_zero, List.drop_succ_cons, List.drop_zero, List.zipIdx_cons, List.zipIdx_nil, Nat.zero_add, Nat.reduceAdd]
  repeat (show wpF _ _ _ _ _ _ (_ :: _) _ _; first
    | (refine f_skip (fun V => by rfl) ?_; simp only [Act.put, List.setIfInBounds_toArray, List.set_cons_succ, List.set_cons_zero])
      | (refine f_cut_arr (by first | exact cls_free _ | exact cls_row _ _ _ _ | exact cls_fill _ _ _ _ _ | exact cls_butC _ _ | exact cls_butD _ _ _ _ _ _ _) (fun V => by rfl) 24 _ _ rfl (w.heap.size) (fun V => by rfl) 5 _ Try.underlying24 (by kernel_rfl) _ _ (a) (fun V => by rfl) (rfl) (by omega) ?_; simp only [Act.put, List.setIfInBounds_toArray, List.set_cons_succ, List.set_cons_zero])
    | (refine f_callF (by first | exact cls_free _ | exact cls_row _ _ _ _ | exact cls_fill _ _ _ _ _ | exact cls_butC _ _ | exact cls_butD _ _ _ _ _ _ _) (fSV (bys c)) (stays_sv _) (fun V => by rfl) (by decide) 42 _ _ rfl (enters_of Try.func42 rfl rfl) _ (fun V w hb hk => P1.out w) (fun V => by rfl) ?_; simp only [Act.put, List.setIfInBounds_toArray, List.set_cons_succ, List.set_cons_zero, keyOf, Option.getD_some])
    | (refine f_copy_at (fun V => by rfl) (by decide) (by decide) (.tmp 10) (.tmp 13) 32 32 rfl 5 Try.underlying32 (by kernel_rfl) _ (a) (512 - a) _ (fun V => by rfl) _ (fun V => by rfl) (c) (hl) (by omega) (HL.out) (fun V w hb hk => hk.slot 13 rfl rfl) ?_; simp only [Act.put, List.setIfInBounds_toArray, List.set_cons_succ, List.set_cons_zero, keyOf, Option.getD_some])
    | (refine f_quiet (by first | exact cls_free _ | exact cls_row _ _ _ _ | exact cls_fill _ _ _ _ _ | exact cls_butC _ _ | exact cls_butD _ _ _ _ _ _ _) (fun V => by rfl) (fun V => ⟨_, rfl, by simp⟩) ?_; apply Exists.intro; refine And.intro (fun V w hw K hK => ?_) ?_; ((try simp only [Act.put, List.setIfInBounds_toArray, List.set_cons_succ, List.set_cons_zero] at hK); go_big_quiet_op; exact hK); simp only [Act.put, List.setIfInBounds_toArray, List.set_cons_succ, List.set_cons_zero]))
  refine f_nil ?_
  intro V w3 hq hkn
  have hwr := all_slot hkn 14 rfl
  simp only at hwr
  have p3 := p2.but hq.1 (by omega)
  have B3 := Lib.hid (But.below B2.out hq.1 (Nat.le_refl _) B2.out.size)
  clear hkn hq
  go_wp2_with (first
    | ((refine wpList_load_ab rfl _ (.tmp 4) rfl (w.heap.size) rfl _ _ _ (out) (hpl) (hwr) Try.underlying24 (by kernel_rfl) ?_))
    | ((refine wpList_store_ab rfl _ (.tmp 8) (.tmp 15) rfl (w.heap.size + 1) rfl (out) rfl _ _ (hpl) (z512) (z512_len) (p3) (by kernel_rfl) ?_); intro w4 p4 e4; have b4 := Lib.hid e4; clear e4))
  refine bodyPost_ret (v := .agg (ab out)) ?_ rfl ⟨rfl, by rw [b4.out]; exact below_setRow B3.out (Nat.le_succ _) _⟩
  exact results_ab rfl _ _ (w.heap.size + 1) _ _ _ (out) (hpl) rfl (p4.out) Try.underlying24 (by kernel_rfl)
theorem pnew_any (x : Int) (w : World) :
    Calls Try.prog 25 #[.int .i64 x] w fun e w' => e = .returned (.agg (ab (page0 x))) ∧ Below w.heap.size w w' := by
  have hz := (zero_of_info Try.zinfo24).1
  have PW := Lib.hid (fun w => pwith_any z512 z512_len 12 2 x (by omega) (by omega) (by omega) w)
  have hpl := page0_len x
  unfold page0 at *
  generalize putAt z512 12 (beb 2 (ub x)) = out at *
  go_enter Try.func25, Try.ntmps25
  go_wp2_with fail
  refine (PW.out _).mono ?_
  rintro e w1 ⟨rfl, b1⟩
  have p1 := (Whole.made w 24 (ab z512)).on b1
  have B1 := Lib.hid (((Below.refl w.heap.size w).alloc (Nat.le_refl _) (.cells (ab z512) 24)).trans (b1.mono (by simp)))
  clear b1
  go_wp2_with ((refine wpList_store_ab rfl _ (.tmp 2) (.tmp 5) rfl (w.heap.size) rfl (out) rfl _ _ (hpl) (z512) (z512_len) (p1) (by kernel_rfl) ?_); intro w4 p4 e4; have b4 := Lib.hid e4; clear e4)
  refine bodyPost_ret (v := .agg (ab out)) ?_ rfl ⟨rfl, by rw [b4.out]; exact below_setRow B1.out (Nat.le_refl _) _⟩
  exact results_ab rfl _ _ (w.heap.size) _ _ _ (out) (hpl) rfl (p4.out) Try.underlying24 (by kernel_rfl)
end Go.Proofs.Ytafmggipmaofnaa
