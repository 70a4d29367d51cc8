/- Layer 7: the law PageSlots. -/
import Derived.Test.YtelamhdnefnceaaPageLaws
namespace Go.Proofs.Ytelamhdnefnceaa
set_option maxRecDepth 20000
open Go.RowKit Go.Sort

section
variable {P : Program}
theorem run_gtr_i (t : TypeId) (k : IntKind) (i j : Int) (b : Bool) (h : decide (j < i) = b) (w : World) : (binOp .gtr t (.int k i) (.int k j)).run P w = .ok (.bool b) w := by
  subst h
  simp [binOp_gtr]
theorem guard_gtr (t : TypeId) (s u : Operand) (x y : Value) (w : World) : (eqGuard .gtr t s u x y).run P w = .ok () w := by simp [eqGuard_gtr]
end

set_option maxHeartbeats 2000000 in
theorem slots7_big (l : List UInt8) (i : Int) (A : Option Addr) (n m : Nat) (x : It) (w : World) (h : 300 < x.k.length ∨ (x.k.length ≤ 300 ∧ 300 < n)) :
    Calls Try.prog 4 #[.agg (ab l), .int .i64 i, iv (.slice A n m) x] w fun e w' => e = .returned (.bool true) ∧ Below w.heap.size w w' := by
  obtain ⟨st, kk, kd, d, lo, hi, v⟩ := x
  simp only at h
  unfold iv
  generalize ab l = L
  rcases h with h | ⟨h1, h2⟩
  · have H1 := Lib.hid (show decide ((300 : Int) < kk.length) = true by simp; omega)
    clear h
    go_enter Try.func4, Try.ntmps4
    go_wp2_with (first | go_skip | (refine wpList_bin rfl .gtr 3 _ (.tmp 15) _ rfl _ _ (.bool true) rfl rfl (run_gtr_i _ _ _ _ true (H1.out) _) (guard_gtr _ _ _ _ _ _) ?_) | (refine wpList_bin rfl .gtr 3 _ (.tmp 21) _ rfl _ _ (.bool true) rfl rfl (run_gtr_i _ _ _ _ true (H1.out) _) (guard_gtr _ _ _ _ _ _) ?_))
    refine (live7_any _).mono ?_
    rintro e w1 ⟨rfl, b1⟩
    go_wp2_with fail
    go_ret
    exact ⟨rfl, (two_more (Below.refl w.heap.size w) _ _).trans (b1.mono (by simp; omega))⟩
  · have H1 := Lib.hid (show decide ((300 : Int) < kk.length) = false by simp; omega)
    have H2 := Lib.hid (show decide ((300 : Int) < n) = true by simp; omega)
    clear h1 h2
    go_enter Try.func4, Try.ntmps4
    go_wp2_with (first | go_skip | (refine wpList_bin rfl .gtr 3 _ (.tmp 15) _ rfl _ _ (.bool false) rfl rfl (run_gtr_i _ _ _ _ false (H1.out) _) (guard_gtr _ _ _ _ _ _) ?_) | (refine wpList_bin rfl .gtr 3 _ (.tmp 21) _ rfl _ _ (.bool true) rfl rfl (run_gtr_i _ _ _ _ true (H2.out) _) (guard_gtr _ _ _ _ _ _) ?_))
    refine (live7_any _).mono ?_
    rintro e w1 ⟨rfl, b1⟩
    go_wp2_with fail
    go_ret
    exact ⟨rfl, (two_more (Below.refl w.heap.size w) _ _).trans (b1.mono (by simp; omega))⟩

set_option maxHeartbeats 4000000 in
theorem slots7_main (l : List UInt8) (i : Int) (A : Option Addr) (n m : Nat) (x : It) (w : World) (hl : l.length = 512) (hD : SV w (.slice A n m) (bys x.c.d)) (hn : n ≤ 300) (hk : x.k.length ≤ 300) :
    Calls Try.prog 4 #[.agg (ab l), .int .i64 i, iv (.slice A n m) x] w fun e w' => e = .returned (.bool true) ∧ Below w.heap.size w w' := by
  have hz := (zero_of_info Try.zinfo23).1
  have SL := fun w => pslot_any l i w hl
  have RL := fun w v (h : SV w v (bys l)) => rslot_any v l i w hl h
  have WS := fun w' (hb : Below w.heap.size w w') => pwslot_any l i A n m x w' hl (hD.keep (Keeps.below hb)) (by omega) (by omega)
  have RW := fun w' v (h : SV w' v (bys l)) (hb : Below w.heap.size w w') => rwslot_any v l i A n m x w' hl h (hD.keep (Keeps.below hb)) (by omega) (by omega)
  have SM := fun w D E (h1 : SV w D (bys (pslot l i).1.c.d)) (h2 : SV w E (bys (pslot l i).1.c.d)) => risame_any D E (pslot l i).1 (pslot l i).1 w h1 h2
  simp only [sameI_self] at SM
  have hpl := pwslot_len (l := l) (i := i) (x := x) hl
  have SS := fun w v u (h : SV w v (bys (pwslot l i x))) (h' : SV w u (bys (pwslot l i x))) => same7 v u _ _ w h h'
  simp only [beq_self_eq_true] at SS
  unfold PSlotP at SL RL
  generalize pwslot l i x = out at *
  generalize pslot l i = G at *
  obtain ⟨y, f⟩ := G
  obtain ⟨st, kk, kd, d, lo, hi, v⟩ := x
  obtain ⟨sy, ky, qy, dy, ly, hy, vy⟩ := y
  unfold iv at *
  simp only at *
  have H1 := Lib.hid (show decide ((300 : Int) < kk.length) = false by simp; omega)
  have H2 := Lib.hid (show decide ((300 : Int) < n) = false by simp; omega)
  have HF := Lib.hid (show (f == f) = true by simp)
  replace SL := Lib.hid SL
  replace RL := Lib.hid RL
  replace WS := Lib.hid WS
  replace RW := Lib.hid RW
  replace SM := Lib.hid SM
  replace SS := Lib.hid SS
  clear hD hn hk
  go_enter Try.func4, Try.ntmps4
  go_wp2_with (first
    | go_skip
    | (refine wpList_bin rfl .gtr 3 _ (.tmp 15) _ rfl _ _ (.bool false) rfl rfl (run_gtr_i _ _ _ _ false (H1.out) _) (guard_gtr _ _ _ _ _ _) ?_) | (refine wpList_bin rfl .gtr 3 _ (.tmp 21) _ rfl _ _ (.bool false) rfl rfl (run_gtr_i _ _ _ _ false (H2.out) _) (guard_gtr _ _ _ _ _ _) ?_)
    | (refine wpList_load_ab rfl _ (.tmp 3) rfl (w.heap.size) rfl _ _ _ (l) (hl) ((Whole.made w _ _).later _) Try.underlying22 (by kernel_rfl) ?_)
    | (refine wpList_load_ab rfl _ (.tmp 7) rfl (w.heap.size + 1 + 1) rfl _ _ _ (l) (hl) (p7) Try.underlying23 (by kernel_rfl) ?_)
    | ((refine wpList_store_ab rfl _ (.tmp 7) (.tmp 25) rfl (w.heap.size + 1 + 1) rfl (l) rfl _ _ (hl) (z512) (z512_len) (Whole.third w _ _ _ _) (by kernel_rfl) ?_); intro w2 p7 e2; replace p7 := p7.out; have p3 : Whole w2 w.heap.size 22 (ab l) := (by rw [e2]; exact (((Whole.made w _ _).later _).later _).but (But.row _ _ _) (by omega)); have p5 : Whole w2 (w.heap.size + 1) 37 #[.int .i64 st, .string ⟨kk.toArray⟩, .int .i64 kd, .slice A n m, .int .i64 lo, .int .i64 hi, .int .i64 v] := (by rw [e2]; exact ((Whole.second w _ _ _).later _).but (But.row _ _ _) (by omega)); have B2 := Lib.hid (show Below w.heap.size w w2 by rw [e2]; exact below_setRow ((two_more (Below.refl _ _) _ _).alloc (by simp; omega) _) (by omega) _); clear e2))
  refine (SL.out _).mono ?_
  rintro e w3 ⟨D, rfl, s3, b3⟩
  obtain ⟨D, c, rfl⟩ := sv_open7 s3
  have S3 := Lib.hid s3
  replace p3 := p3.on b3
  replace p5 := p5.on b3
  replace p7 := p7.on b3
  have B3 := Lib.hid (B2.out.trans (b3.mono B2.out.size))
  clear b3 s3 B2
  go_wp2_with (refine wpList_store_row rfl _ (.tmp 8) (.tmp 30) rfl w3.heap.size _ rfl rfl _ _ (Whole.made w3 _ _) (by kernel_rfl) rfl (by simp [Value.oneCell']) ?_; rw [World.setRow_alloc_new]; try simp only [Act.put])
  have p8 := Whole.made w3 37 #[.int .i64 sy, .string ⟨ky.toArray⟩, .int .i64 qy, .slice D dy.length c, .int .i64 ly, .int .i64 hy, .int .i64 vy]
  replace p3 := p3.later (.cells #[.int .i64 sy, .string ⟨ky.toArray⟩, .int .i64 qy, .slice D dy.length c, .int .i64 ly, .int .i64 hy, .int .i64 vy] 37)
  replace p5 := p5.later (.cells #[.int .i64 sy, .string ⟨ky.toArray⟩, .int .i64 qy, .slice D dy.length c, .int .i64 ly, .int .i64 hy, .int .i64 vy] 37)
  replace p7 := p7.later (.cells #[.int .i64 sy, .string ⟨ky.toArray⟩, .int .i64 qy, .slice D dy.length c, .int .i64 ly, .int .i64 hy, .int .i64 vy] 37)
  have S4 := Lib.hid (S3.out.keep (Keeps.alloc w3 (.cells #[.int .i64 sy, .string ⟨ky.toArray⟩, .int .i64 qy, .slice D dy.length c, .int .i64 ly, .int .i64 hy, .int .i64 vy] 37)))
  have B4 := Lib.hid (B3.out.alloc B3.out.size (.cells #[.int .i64 sy, .string ⟨ky.toArray⟩, .int .i64 qy, .slice D dy.length c, .int .i64 ly, .int .i64 hy, .int .i64 vy] 37))
  clear S3 B3
  generalize w3.alloc (.cells #[.int .i64 sy, .string ⟨ky.toArray⟩, .int .i64 qy, .slice D dy.length c, .int .i64 ly, .int .i64 hy, .int .i64 vy] 37) = w4 at *
  generalize w3.heap.size = g8 at *
  refine (RL.out _ _ (sv_ab p3 512 hl (by omega))).mono ?_
  rintro e w5 ⟨E, rfl, s5, b5⟩
  obtain ⟨E, c', rfl⟩ := sv_open7 s5
  have T5 := Lib.hid s5
  have S5 := Lib.hid (S4.out.keep (Keeps.below b5))
  replace p3 := p3.on b5
  replace p5 := p5.on b5
  replace p7 := p7.on b5
  replace p8 := p8.on b5
  have B5 := Lib.hid (B4.out.trans (b5.mono B4.out.size))
  clear b5 s5 B4 S4
  go_wp2_with (first
    | (refine wpList_load_ab rfl _ (.tmp 7) rfl (w.heap.size + 1 + 1) rfl _ _ _ (l) (hl) (p7.later _) Try.underlying23 (by kernel_rfl) ?_)
    | (refine wpList_load_row rfl 37 (.tmp 5) rfl (w.heap.size + 1) rfl 37 _ _ _ (p5.later _) Try.underlying37 rfl (by kernel_rfl) ?_)
    | (refine wpList_store_row rfl _ (.tmp 10) (.tmp 36) rfl w5.heap.size _ rfl rfl _ _ (Whole.made w5 _ _) (by kernel_rfl) rfl (by simp [Value.oneCell']) ?_; rw [World.setRow_alloc_new]; try simp only [Act.put]))
  have pA := Whole.made w5 37 #[.int .i64 sy, .string ⟨ky.toArray⟩, .int .i64 qy, .slice E dy.length c', .int .i64 ly, .int .i64 hy, .int .i64 vy]
  replace p3 := p3.later (.cells #[.int .i64 sy, .string ⟨ky.toArray⟩, .int .i64 qy, .slice E dy.length c', .int .i64 ly, .int .i64 hy, .int .i64 vy] 37)
  replace p5 := p5.later (.cells #[.int .i64 sy, .string ⟨ky.toArray⟩, .int .i64 qy, .slice E dy.length c', .int .i64 ly, .int .i64 hy, .int .i64 vy] 37)
  replace p8 := p8.later (.cells #[.int .i64 sy, .string ⟨ky.toArray⟩, .int .i64 qy, .slice E dy.length c', .int .i64 ly, .int .i64 hy, .int .i64 vy] 37)
  have S6 := Lib.hid (S5.out.keep (Keeps.alloc w5 (.cells #[.int .i64 sy, .string ⟨ky.toArray⟩, .int .i64 qy, .slice E dy.length c', .int .i64 ly, .int .i64 hy, .int .i64 vy] 37)))
  have T6 := Lib.hid (T5.out.keep (Keeps.alloc w5 (.cells #[.int .i64 sy, .string ⟨ky.toArray⟩, .int .i64 qy, .slice E dy.length c', .int .i64 ly, .int .i64 hy, .int .i64 vy] 37)))
  have B6 := Lib.hid (B5.out.alloc B5.out.size (.cells #[.int .i64 sy, .string ⟨ky.toArray⟩, .int .i64 qy, .slice E dy.length c', .int .i64 ly, .int .i64 hy, .int .i64 vy] 37))
  clear S5 T5 B5 p7
  generalize w5.alloc (.cells #[.int .i64 sy, .string ⟨ky.toArray⟩, .int .i64 qy, .slice E dy.length c', .int .i64 ly, .int .i64 hy, .int .i64 vy] 37) = w6 at *
  generalize w5.heap.size = gA at *
  refine (WS.out _ B6.out).mono ?_
  rintro e w7 ⟨rfl, b7⟩
  replace p3 := p3.on b7
  replace p5 := p5.on b7
  replace p8 := p8.on b7
  replace pA := pA.on b7
  have S7 := Lib.hid (S6.out.keep (Keeps.below b7))
  have T7 := Lib.hid (T6.out.keep (Keeps.below b7))
  have B7 := Lib.hid (B6.out.trans (b7.mono B6.out.size))
  clear b7 S6 T6 B6
  go_wp2_with ((refine wpList_store_ab rfl _ (.tmp 12) (.tmp 41) rfl (w7.heap.size) rfl (out) rfl _ _ (hpl) (z512) (z512_len) (Whole.made w7 _ _) (by kernel_rfl) ?_); intro w8 pC e8; rw [World.setRow_alloc_new] at e8; replace pC := pC.out; replace p3 := p3.later (.cells (ab out) 23); replace p5 := p5.later (.cells (ab out) 23); replace p8 := p8.later (.cells (ab out) 23); replace pA := pA.later (.cells (ab out) 23); have S8 := Lib.hid (S7.out.keep (Keeps.alloc w7 (.cells (ab out) 23))); have T8 := Lib.hid (T7.out.keep (Keeps.alloc w7 (.cells (ab out) 23))); have B8 := Lib.hid (B7.out.alloc B7.out.size (.cells (ab out) 23)); rw [← e8] at p3 p5 p8 pA S8 T8 B8; clear e8 S7 T7 B7)
  try simp only [Act.put]
  refine wp_region_facts 21 [] [56] (by kernel_rfl) (by kernel_rfl) (by kernel_rfl) (free_draw w8) ?_
  simp only [List.take_succ_cons, List.take_zero, List.drop_succ_cons, List.drop_zero, List.zipIdx_cons, List.zipIdx_nil, Nat.zero_add, Nat.reduceAdd]
  repeat (first
    | (refine f_skip (fun V => by rfl) ?_; simp only [Act.put, List.setIfInBounds_toArray, List.set_cons_succ, List.set_cons_zero])
      | (refine f_load_row (by first | exact cls_free _ | exact cls_row _ _ _ _ | exact cls_fill _ _ _ _ _) (fun V => by rfl) _ _ rfl _ (fun V => by rfl) _ _ _ (fun w hb => p8.on hb) Try.underlying37 rfl (by kernel_rfl) ?_; simp only [Act.put, List.setIfInBounds_toArray, List.set_cons_succ, List.set_cons_zero])
    | (refine f_load_row (by first | exact cls_free _ | exact cls_row _ _ _ _ | exact cls_fill _ _ _ _ _) (fun V => by rfl) _ _ rfl _ (fun V => by rfl) _ _ _ (fun w hb => pA.on hb) Try.underlying37 rfl (by kernel_rfl) ?_; simp only [Act.put, List.setIfInBounds_toArray, List.set_cons_succ, List.set_cons_zero])
    | (refine f_load_row (by first | exact cls_free _ | exact cls_row _ _ _ _ | exact cls_fill _ _ _ _ _) (fun V => by rfl) _ _ rfl _ (fun V => by rfl) _ _ _ (fun w hb => p5.on hb) Try.underlying37 rfl (by kernel_rfl) ?_; simp only [Act.put, List.setIfInBounds_toArray, List.set_cons_succ, List.set_cons_zero])
    | (refine f_call (by first | exact cls_free _ | exact cls_row _ _ _ _ | exact cls_fill _ _ _ _ _) (fun V => by rfl) 27 _ _ rfl (enters_of Try.func27 rfl rfl) _ _ (fun V w hb hk => SM.out w _ _ (S8.out.keep (Keeps.below hb)) (T8.out.keep (Keeps.below hb))) (fun V => by rfl) ?_; simp only [Act.put, List.setIfInBounds_toArray, List.set_cons_succ, List.set_cons_zero])
    | (refine f_call (by first | exact cls_free _ | exact cls_row _ _ _ _ | exact cls_fill _ _ _ _ _) (fun V => by rfl) 28 _ _ rfl (enters_of Try.func28 rfl rfl) _ _ (fun V w hb hk => code7_b _ w) (fun V => by rfl) ?_; simp only [Act.put, List.setIfInBounds_toArray, List.set_cons_succ, List.set_cons_zero])
    | (refine f_binop (by first | exact cls_free _ | exact cls_row _ _ _ _ | exact cls_fill _ _ _ _ _) (fun V => by rfl) _ _ _ _ _ rfl _ _ _ (fun w => run_eql_i _ _ _ _ true (HF.out) w) (fun w => guard_eql_i _ _ _ _ _ _ w) (fun V => by rfl) (fun V => by rfl) ?_; simp only [Act.put, List.setIfInBounds_toArray, List.set_cons_succ, List.set_cons_zero])
    | (refine f_callF (by first | exact cls_free _ | exact cls_row _ _ _ _ | exact cls_fill _ _ _ _ _) (fSV (bys out)) (stays_sv _) (fun V => by rfl) (by decide) 29 _ _ rfl (enters_of Try.func29 rfl rfl) _ (fun V w hb hk => RW.out w _ (sv_ab (p3.on hb) 512 hl (by omega)) (B8.out.trans (Below.mono hb B8.out.size))) (fun V => by rfl) ?_; simp only [Act.put, List.setIfInBounds_toArray, List.set_cons_succ, List.set_cons_zero, keyOf, Option.getD_some])
    | (refine f_call (by first | exact cls_free _ | exact cls_row _ _ _ _ | exact cls_fill _ _ _ _ _) (fun V => by rfl) 19 _ _ rfl (enters_of Try.func19 rfl rfl) _ _ (fun V w hb hk => SS.out w _ _ (sv_ab (pC.on hb) 512 hpl (by omega)) (hk.slot 56 rfl rfl)) (fun V => by rfl) ?_; simp only [Act.put, List.setIfInBounds_toArray, List.set_cons_succ, List.set_cons_zero])
    | (refine f_call (by first | exact cls_free _ | exact cls_row _ _ _ _ | exact cls_fill _ _ _ _ _) (fun V => by rfl) 23 _ _ rfl (enters_of Try.func23 rfl rfl) _ _ (fun V w hb hk => live7_any w) (fun V => by rfl) ?_; simp only [Act.put, List.setIfInBounds_toArray, List.set_cons_succ, List.set_cons_zero])
    | (refine f_quiet (by first | exact cls_free _ | exact cls_row _ _ _ _ | exact cls_fill _ _ _ _ _) (fun V => by rfl) (fun V => ⟨_, rfl, by simp⟩) ?_; apply Exists.intro; refine And.intro (fun V w hw K hK => ?_) ?_; ((try simp only [Act.put, List.setIfInBounds_toArray, List.set_cons_succ, List.set_cons_zero] at hK); go_big_quiet_op; exact hK); simp only [Act.put, List.setIfInBounds_toArray, List.set_cons_succ, List.set_cons_zero]))
  refine f_nil ?_
  intro V w9 hq hkn
  have B9 := Lib.hid (B8.out.trans (Below.mono hq B8.out.size))
  clear hkn
  go_wp2
  go_ret
  exact ⟨rfl, B9.out⟩

theorem slots7_law (D : Value) (l : List UInt8) (i : Int) (x : It) (w : World) (hl : l.length = 512) (hD : SV w D (bys x.c.d)) :
    Calls Try.prog 4 #[.agg (ab l), .int .i64 i, iv D x] w fun e w' => e = .returned (.bool true) ∧ Below w.heap.size w w' := by
  obtain ⟨A, m, rfl⟩ := sv_open7 hD
  by_cases hb : 300 < x.k.length ∨ (x.k.length ≤ 300 ∧ 300 < x.c.d.length)
  · exact slots7_big l i A _ m x w hb
  · exact slots7_main l i A _ m x w hl hD (by omega) (by omega)
end Go.Proofs.Ytelamhdnefnceaa
