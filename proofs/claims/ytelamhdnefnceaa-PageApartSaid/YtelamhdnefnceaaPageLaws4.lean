/- Layer 7: the law PageApart. -/
import Derived.Test.YtelamhdnefnceaaPageLaws3
import Derived.Test.YtelamhdnefnceaaPageApart
import Derived.Test.YtelamhdnefnceaaListFacts
namespace Go.Proofs.Ytelamhdnefnceaa
set_option maxRecDepth 20000
open Go.RowKit Go.Sort

section
variable {P : Program}
theorem run_rem_i (t : TypeId) (k : IntKind) (i : Int) (w : World) : (binOp .rem t (.int k i) (.int k 65536)).run P w = .ok (.int k (i.tmod 65536)) w := by
  simp [binOp_rem, Op.intDiv]
theorem guard_rem (t : TypeId) (s u : Operand) (x y : Value) (w : World) : (eqGuard .rem t s u x y).run P w = .ok () w := by simp [eqGuard_rem]
theorem run_geq_i (t : TypeId) (k : IntKind) (i j : Int) (b : Bool) (h : decide (j ≤ i) = b) (w : World) : (binOp .geq t (.int k i) (.int k j)).run P w = .ok (.bool b) w := by
  subst h
  simp [binOp_geq]
theorem guard_geq (t : TypeId) (s u : Operand) (x y : Value) (w : World) : (eqGuard .geq t s u x y).run P w = .ok () w := by simp [eqGuard_geq]
end
theorem Try.eqGuard23 : Try.prog.eqGuardType Try.prog.depth 23 = false := by kernel_rfl

set_option maxHeartbeats 2000000 in
theorem apart7_big (l : List UInt8) (i : Int) (A : Option Addr) (n m : Nat) (x : It) (z : Int) (w : World) (h : 300 < x.k.length ∨ (x.k.length ≤ 300 ∧ 300 < n)) :
    Calls Try.prog 6 #[.agg (ab l), .int .i64 i, iv (.slice A n m) x, .int .i64 z] w fun e w' => e = .returned (.bool true) ∧ Below w.heap.size w w' := by
  obtain ⟨st, kk, kd, d, lo, hi, v⟩ := x
  simp only at h
  unfold iv
  generalize ab l = L
  rcases h with h | ⟨h1, h2⟩
  · have H1 := Lib.hid (show decide ((300 : Int) < kk.length) = true by simp; omega)
    clear h
    go_enter Try.func6, Try.ntmps6
    go_wp2_with (first | go_skip | (refine wpList_bin rfl .gtr 3 _ (.tmp 19) _ rfl _ _ (.bool true) rfl rfl (run_gtr_i _ _ _ _ true (H1.out) _) (guard_gtr _ _ _ _ _ _) ?_) | (refine wpList_bin rfl .gtr 3 _ (.tmp 25) _ rfl _ _ (.bool true) rfl rfl (run_gtr_i _ _ _ _ true (H1.out) _) (guard_gtr _ _ _ _ _ _) ?_))
    refine (live7_any _).mono ?_
    rintro e w1 ⟨rfl, b1⟩
    go_wp2_with fail
    go_ret
    exact ⟨rfl, (two_more (Below.refl w.heap.size w) _ _).trans (b1.mono (by simp; omega))⟩
  · have H1 := Lib.hid (show decide ((300 : Int) < kk.length) = false by simp; omega)
    have H2 := Lib.hid (show decide ((300 : Int) < n) = true by simp; omega)
    clear h1 h2
    go_enter Try.func6, Try.ntmps6
    go_wp2_with (first | go_skip | (refine wpList_bin rfl .gtr 3 _ (.tmp 19) _ rfl _ _ (.bool false) rfl rfl (run_gtr_i _ _ _ _ false (H1.out) _) (guard_gtr _ _ _ _ _ _) ?_) | (refine wpList_bin rfl .gtr 3 _ (.tmp 25) _ rfl _ _ (.bool true) rfl rfl (run_gtr_i _ _ _ _ true (H2.out) _) (guard_gtr _ _ _ _ _ _) ?_))
    refine (live7_any _).mono ?_
    rintro e w1 ⟨rfl, b1⟩
    go_wp2_with fail
    go_ret
    exact ⟨rfl, (two_more (Below.refl w.heap.size w) _ _).trans (b1.mono (by simp; omega))⟩

set_option maxHeartbeats 8000000 in
theorem apart7_main (l : List UInt8) (i : Int) (A : Option Addr) (n m : Nat) (x : It) (z : Int) (w : World) (hl : l.length = 512) (hD : SV w (.slice A n m) (bys x.c.d)) (hn : n ≤ 300) (hk : x.k.length ≤ 300)
    (hzb : -9223372036854775808 ≤ z ∧ z ≤ 9223372036854775807) (bv : Bool) (hbv : (numA (allN l i x z) 14 2 != z.tmod 65536) = bv) (hneg : bv = true → z < 0) :
    Calls Try.prog 6 #[.agg (ab l), .int .i64 i, iv (.slice A n m) x, .int .i64 z] w fun e w' => e = .returned (.bool true) ∧ Below w.heap.size w w' := by
  have hz := (zero_of_info Try.zinfo23).1
  have hsl : ∀ k : Nat, k < 7 → (k : Int) ≠ i → pslot (allN l i x z) k = pslot l k := fun k h7 h => allN_pslot hl k h7 h
  have ho := allN_len (i := i) (x := x) (n := z) hl
  have y1 := pwslot_len (l := l) (i := i) (x := x) hl
  have y2 : (putAt (pwslot l i x) 4 (beb 8 (ub z))).length = 512 := put512 y1 (by simp)
  have y3 : (putAt (putAt (pwslot l i x) 4 (beb 8 (ub z))) 14 (beb 2 (ub z))).length = 512 := put512 y2 (by simp)
  have f1 : (putAt l 16 (beb 8 (ub z))).length = 512 := put512 hl (by simp)
  have f2 : (putAt (putAt l 16 (beb 8 (ub z))) 14 (beb 2 (ub z))).length = 512 := put512 f1 (by simp)
  have f3 : (putAt (putAt (putAt l 16 (beb 8 (ub z))) 14 (beb 2 (ub z))) 4 (beb 8 (ub z))).length = 512 := put512 f2 (by simp)
  have A1 := fun w' (hb : Below w.heap.size w w') => pwslot_any l i A n m x w' hl (hD.keep (Keeps.below hb)) (by omega) (by omega)
  have A2 := fun w => plsn_with (pwslot l i x) z w y1
  have A3 := fun w => pnext_with (putAt (pwslot l i x) 4 (beb 8 (ub z))) z w y2
  have A4 : ∀ w, Calls Try.prog 17 #[.agg (ab (putAt (putAt (pwslot l i x) 4 (beb 8 (ub z))) 14 (beb 2 (ub z)))), .int .i64 z] w fun e w' => e = .returned (.agg (ab (allN l i x z))) ∧ Below w.heap.size w w' := fun w => pnote_with (putAt (putAt (pwslot l i x) 4 (beb 8 (ub z))) 14 (beb 2 (ub z))) z w y3
  have C1 := fun w => pnote_with l z w hl
  have C2 := fun w => pnext_with (putAt l 16 (beb 8 (ub z))) z w f1
  have C3 := fun w => plsn_with (putAt (putAt l 16 (beb 8 (ub z))) 14 (beb 2 (ub z))) z w f2
  have C4 := fun w' (hb : Below w.heap.size w w') => pwslot_any (putAt (putAt (putAt l 16 (beb 8 (ub z))) 14 (beb 2 (ub z))) 4 (beb 8 (ub z))) i A n m x w' f3 (hD.keep (Keeps.below hb)) (by omega) (by omega)
  rw [allN_turned hl] at C4
  have N1 := fun w => pno_any (allN l i x z) w ho
  rw [allN_no hl] at N1
  have N1' := fun w => pno_any l w hl
  have N2 := fun w => plsn_any (allN l i x z) w ho
  rw [allN_lsn hl hzb] at N2
  have N3 := fun w => pnext_any (allN l i x z) w ho
  have N4 := fun w => pnote_any (allN l i x z) w ho
  rw [allN_note hl hzb] at N4
  generalize allN l i x z = out at *
  generalize putAt (putAt (pwslot l i x) 4 (beb 8 (ub z))) 14 (beb 2 (ub z)) = u3 at *
  generalize putAt (pwslot l i x) 4 (beb 8 (ub z)) = u2 at *
  generalize pwslot l i x = u1 at *
  generalize putAt (putAt (putAt l 16 (beb 8 (ub z))) 14 (beb 2 (ub z))) 4 (beb 8 (ub z)) = v3 at *
  generalize putAt (putAt l 16 (beb 8 (ub z))) 14 (beb 2 (ub z)) = v2 at *
  generalize putAt l 16 (beb 8 (ub z)) = v1 at *
  generalize numA l 12 2 = q1 at *
  generalize numA out 14 2 = q2 at *
  have REM := fun w' => run_rem_i (P := Try.prog) 3 .i64 z w'
  generalize z.tmod 65536 = tm at *
  replace REM := Lib.hid REM
  have EQ := fun w' => run_neq_ab (P := Try.prog) Try.underlying23 Try.underlying5 (by kernel_rfl) out out ho ho w'
  rw [beq_self_eq_true, Bool.not_true] at EQ
  have EG := Lib.hid (fun (s u : Operand) w' => run_eqGuard_agg (P := Try.prog) w' .neq 23 s u (ab out) (ab out) Try.eqGuard23)
  have H1 := Lib.hid (show decide ((300 : Int) < x.k.length) = false by simp; omega)
  have H2 := Lib.hid (show decide ((300 : Int) < n) = false by simp; omega)
  have HB := Lib.hid hbv
  have HG := Lib.hid (fun h : bv = true => show decide ((0 : Int) ≤ z) = false by have := hneg h; simp; omega)
  have HSL := Lib.hid hsl
  clear hD hn hk hzb hbv hneg hsl y1 y2 y3 f1 f2 f3
  obtain ⟨st, kk, kd, d, lo, hi, v⟩ := x
  unfold iv at *
  simp only at *
  replace A1 := Lib.hid A1
  replace A2 := Lib.hid A2
  replace A3 := Lib.hid A3
  replace A4 := Lib.hid A4
  replace C1 := Lib.hid C1
  replace C2 := Lib.hid C2
  replace C3 := Lib.hid C3
  replace C4 := Lib.hid C4
  replace N1 := Lib.hid N1
  replace N1' := Lib.hid N1'
  replace N2 := Lib.hid N2
  replace N3 := Lib.hid N3
  replace N4 := Lib.hid N4
  replace EQ := Lib.hid EQ
  go_enter Try.func6, Try.ntmps6
  go_wp2_with (first
    | go_skip
    | (refine wpList_bin rfl .gtr 3 _ (.tmp 19) _ rfl _ _ (.bool false) rfl rfl (run_gtr_i _ _ _ _ false (H1.out) _) (guard_gtr _ _ _ _ _ _) ?_) | (refine wpList_bin rfl .gtr 3 _ (.tmp 25) _ rfl _ _ (.bool false) rfl rfl (run_gtr_i _ _ _ _ false (H2.out) _) (guard_gtr _ _ _ _ _ _) ?_)
    | (refine wpList_load_ab rfl _ (.tmp 4) rfl (w.heap.size) rfl _ _ _ (l) (hl) ((Whole.made w _ _).later _) Try.underlying22 (by kernel_rfl) ?_)
    | (refine wpList_load_ab rfl _ (.tmp 9) rfl (w.heap.size + 1 + 1) rfl _ _ _ (l) (hl) (p9) Try.underlying23 (by kernel_rfl) ?_)
    | (refine wpList_load_row rfl 37 (.tmp 6) rfl (w.heap.size + 1) rfl 37 _ _ _ (p6) Try.underlying37 rfl (by kernel_rfl) ?_)
    | ((refine wpList_store_ab rfl _ (.tmp 9) (.tmp 29) rfl (w.heap.size + 1 + 1) rfl (l) rfl _ _ (hl) (z512) (z512_len) (Whole.third w _ _ _ _) (by kernel_rfl) ?_); intro w2 p9 e2; replace p9 := p9.out; have p6 : Whole w2 (w.heap.size + 1) 37 #[.int .i64 st, .string ⟨kk.toArray⟩, .int .i64 kd, .slice A n m, .int .i64 lo, .int .i64 hi, .int .i64 v] := (by rw [e2]; exact ((Whole.second w _ _ _).later _).but (But.row _ _ _) (by omega)); have B2 := Lib.hid (show Below w.heap.size w w2 by rw [e2]; exact below_setRow ((two_more (Below.refl _ _) _ _).alloc (by simp; omega) _) (by omega) _); clear e2))
  refine (A1.out _ B2.out).mono ?_
  rintro e w3 ⟨rfl, b3⟩
  replace p6 := p6.on b3
  replace p9 := p9.on b3
  have B3 := Lib.hid (B2.out.trans (b3.mono B2.out.size))
  clear b3 B2
  go_wp2_with fail
  refine (A2.out _).mono ?_
  rintro e w4 ⟨rfl, b4⟩
  replace p6 := p6.on b4
  replace p9 := p9.on b4
  have B4 := Lib.hid (B3.out.trans (b4.mono B3.out.size))
  clear b4 B3
  go_wp2_with fail
  refine (A3.out _).mono ?_
  rintro e w5 ⟨rfl, b5⟩
  replace p6 := p6.on b5
  replace p9 := p9.on b5
  have B5 := Lib.hid (B4.out.trans (b5.mono B4.out.size))
  clear b5 B4
  go_wp2_with fail
  refine (A4.out _).mono ?_
  rintro e w6 ⟨rfl, b6⟩
  replace p6 := p6.on b6
  replace p9 := p9.on b6
  have B6 := Lib.hid (B5.out.trans (b6.mono B5.out.size))
  clear b6 B5
  go_wp2_with ((refine wpList_store_ab rfl _ (.tmp 10) (.tmp 39) rfl (w6.heap.size) rfl (out) rfl _ _ (ho) (z512) (z512_len) (Whole.made w6 _ _) (by kernel_rfl) ?_); intro w7 pA e7; rw [World.setRow_alloc_new] at e7; replace pA := pA.out; replace p6 := p6.later (.cells (ab out) 23); replace p9 := p9.later (.cells (ab out) 23); have B7 := Lib.hid (B6.out.alloc B6.out.size (.cells (ab out) 23)); rw [← e7] at p6 p9 B7; clear e7 B6 A1 A2 A3 A4)
  try simp only [Act.put]
  generalize w6.heap.size = gA at *
  refine wp_region_new 11 [11] [23] [11] (by kernel_rfl) (by kernel_rfl) (by kernel_rfl) (by kernel_rfl) (by intro t ht; rw [List.mem_singleton] at ht; subst ht; exact ⟨_, hz⟩) (by simp) (free_draw w7) ?_
  simp only [List.take_succ_cons, List.take_zero, List.drop_succ_cons, List.drop_zero, List.zipIdx_cons, List.zipIdx_nil, Nat.zero_add, Nat.reduceAdd]
  repeat (first
    | (refine f_skip (fun V => by rfl) ?_; simp only [Act.put, List.setIfInBounds_toArray, List.set_cons_succ, List.set_cons_zero])
      | (refine f_load_ab (by first | exact cls_free _ | exact cls_row _ _ _ _ | exact cls_fill _ _ _ _ _) (fun V => by rfl) _ _ rfl _ (fun V => by rfl) _ _ _ (l) (hl) (fun w hb => p9.on hb) Try.underlying23 (by kernel_rfl) ?_; simp only [Act.put, List.setIfInBounds_toArray, List.set_cons_succ, List.set_cons_zero])
    | (refine f_load_row (by first | exact cls_free _ | exact cls_row _ _ _ _ | exact cls_fill _ _ _ _ _) (fun V => by rfl) _ _ rfl _ (fun V => by rfl) _ _ _ (fun w hb => p6.on hb) Try.underlying37 rfl (by kernel_rfl) ?_; simp only [Act.put, List.setIfInBounds_toArray, List.set_cons_succ, List.set_cons_zero])
    | (refine f_call (by first | exact cls_free _ | exact cls_row _ _ _ _ | exact cls_fill _ _ _ _ _) (fun V => by rfl) 17 _ _ rfl (enters_of Try.func17 rfl rfl) _ _ (fun V w hb hk => C1.out w) (fun V => by rfl) ?_; simp only [Act.put, List.setIfInBounds_toArray, List.set_cons_succ, List.set_cons_zero])
    | (refine f_call (by first | exact cls_free _ | exact cls_row _ _ _ _ | exact cls_fill _ _ _ _ _) (fun V => by rfl) 16 _ _ rfl (enters_of Try.func16 rfl rfl) _ _ (fun V w hb hk => C2.out w) (fun V => by rfl) ?_; simp only [Act.put, List.setIfInBounds_toArray, List.set_cons_succ, List.set_cons_zero])
    | (refine f_call (by first | exact cls_free _ | exact cls_row _ _ _ _ | exact cls_fill _ _ _ _ _) (fun V => by rfl) 15 _ _ rfl (enters_of Try.func15 rfl rfl) _ _ (fun V w hb hk => C3.out w) (fun V => by rfl) ?_; simp only [Act.put, List.setIfInBounds_toArray, List.set_cons_succ, List.set_cons_zero])
    | (refine f_call (by first | exact cls_free _ | exact cls_row _ _ _ _ | exact cls_fill _ _ _ _ _) (fun V => by rfl) 26 _ _ rfl (enters_of Try.func26 rfl rfl) _ _ (fun V w hb hk => C4.out w (B7.out.trans (Below.mono hb B7.out.size))) (fun V => by rfl) ?_; simp only [Act.put, List.setIfInBounds_toArray, List.set_cons_succ, List.set_cons_zero])
    | (refine f_alloc (by first | exact cls_free _ | exact cls_row _ _ _ _ | exact cls_fill _ _ _ _ _) 23 rfl (fun V => by rfl) (by decide) w7.heap.size (fun w hb => Below.size hb) (ab z512) (hz) ?_; simp only [Act.put, List.setIfInBounds_toArray, List.set_cons_succ, List.set_cons_zero, keyOf, Option.getD_some])
    | (refine f_quiet (by first | exact cls_free _ | exact cls_row _ _ _ _ | exact cls_fill _ _ _ _ _) (fun V => by rfl) (fun V => ⟨_, rfl, by simp⟩) ?_; apply Exists.intro; refine And.intro (fun V w hw K hK => ?_) ?_; ((try simp only [Act.put, List.setIfInBounds_toArray, List.set_cons_succ, List.set_cons_zero] at hK); go_big_quiet_op; exact hK); simp only [Act.put, List.setIfInBounds_toArray, List.set_cons_succ, List.set_cons_zero]))
  refine f_nil ?_
  intro V w8 hq hkn hdiff
  obtain ⟨gB, eB, pB, iB⟩ := all_slot hkn 11 rfl
  clear hdiff hkn
  rw [eB]
  clear eB
  have jA := pA.lt
  have j9 := p9.lt
  replace pA := pA.on hq
  replace p9 := p9.on hq
  have jw := B7.out.size
  have B8 := Lib.hid (B7.out.trans (Below.mono hq jw))
  clear hq C1 C2 C3 C4 B7 p6
  go_wp2_with ((refine wpList_store_ab rfl _ (.tmp 11) (.tmp 49) rfl (gB) rfl (out) rfl _ _ (ho) (z512) (z512_len) (pB) (by kernel_rfl) ?_); intro w9 rB e; have u := But.row gB w8 (ab out); rw [← e] at u; clear e; replace pA := pA.but u (by omega); replace p9 := p9.but u (by omega); have B9 := Lib.hid (But.below B8.out u (by omega) B8.out.size); replace rB := rB.out; clear u pB B8)
  try simp only [Act.put]
  clear iB jA j9 jw
  cases bv
  all_goals
    refine wp_region_facts 33 [] [] (by kernel_rfl) (by kernel_rfl) (by kernel_rfl) (free_draw w9) ?_
    simp only [List.take_succ_cons, List.take_zero, List.drop_succ_cons, List.drop_zero, List.zipIdx_cons, List.zipIdx_nil, Nat.zero_add, Nat.reduceAdd]
    repeat (show wpF _ _ _ _ _ _ (_ :: _) _ _; first
      | (refine f_skip (fun V => by rfl) ?_; simp only [Act.put, List.setIfInBounds_toArray, List.set_cons_succ, List.set_cons_zero])
        | (refine f_load_ab (by first | exact cls_free _ | exact cls_row _ _ _ _ | exact cls_fill _ _ _ _ _) (fun V => by rfl) _ _ rfl _ (fun V => by rfl) _ _ _ (out) (ho) (fun w hb => pA.on hb) Try.underlying23 (by kernel_rfl) ?_; simp only [Act.put, List.setIfInBounds_toArray, List.set_cons_succ, List.set_cons_zero])
        | (refine f_load_ab (by first | exact cls_free _ | exact cls_row _ _ _ _ | exact cls_fill _ _ _ _ _) (fun V => by rfl) _ _ rfl _ (fun V => by rfl) _ _ _ (out) (ho) (fun w hb => rB.on hb) Try.underlying23 (by kernel_rfl) ?_; simp only [Act.put, List.setIfInBounds_toArray, List.set_cons_succ, List.set_cons_zero])
        | (refine f_load_ab (by first | exact cls_free _ | exact cls_row _ _ _ _ | exact cls_fill _ _ _ _ _) (fun V => by rfl) _ _ rfl _ (fun V => by rfl) _ _ _ (l) (hl) (fun w hb => p9.on hb) Try.underlying23 (by kernel_rfl) ?_; simp only [Act.put, List.setIfInBounds_toArray, List.set_cons_succ, List.set_cons_zero])
        | (refine f_binop (by first | exact cls_free _ | exact cls_row _ _ _ _ | exact cls_fill _ _ _ _ _) (fun V => by rfl) _ _ _ _ _ rfl _ _ _ (EQ.out) (EG.out _ _) (fun V => by rfl) (fun V => by rfl) ?_; simp only [Act.put, List.setIfInBounds_toArray, List.set_cons_succ, List.set_cons_zero])
        | (refine f_call (by first | exact cls_free _ | exact cls_row _ _ _ _ | exact cls_fill _ _ _ _ _) (fun V => by rfl) 7 _ _ rfl (enters_of Try.func7 rfl rfl) _ _ (fun V w hb hk => N1.out w) (fun V => by rfl) ?_; simp only [Act.put, List.setIfInBounds_toArray, List.set_cons_succ, List.set_cons_zero])
        | (refine f_call (by first | exact cls_free _ | exact cls_row _ _ _ _ | exact cls_fill _ _ _ _ _) (fun V => by rfl) 7 _ _ rfl (enters_of Try.func7 rfl rfl) _ _ (fun V w hb hk => N1'.out w) (fun V => by rfl) ?_; simp only [Act.put, List.setIfInBounds_toArray, List.set_cons_succ, List.set_cons_zero])
        | (refine f_binop (by first | exact cls_free _ | exact cls_row _ _ _ _ | exact cls_fill _ _ _ _ _) (fun V => by rfl) _ _ _ _ _ rfl _ _ _ (fun w => run_neq_i _ _ _ _ false (nsame q1) w) (fun w => guard_neq_i _ _ _ _ _ _ w) (fun V => by rfl) (fun V => by rfl) ?_; simp only [Act.put, List.setIfInBounds_toArray, List.set_cons_succ, List.set_cons_zero])
        | (refine f_binop (by first | exact cls_free _ | exact cls_row _ _ _ _ | exact cls_fill _ _ _ _ _) (fun V => by rfl) _ _ _ _ _ rfl _ _ _ (fun w => run_neq_i _ _ _ _ false (nsame z) w) (fun w => guard_neq_i _ _ _ _ _ _ w) (fun V => by rfl) (fun V => by rfl) ?_; simp only [Act.put, List.setIfInBounds_toArray, List.set_cons_succ, List.set_cons_zero])
        | (refine f_call (by first | exact cls_free _ | exact cls_row _ _ _ _ | exact cls_fill _ _ _ _ _) (fun V => by rfl) 11 _ _ rfl (enters_of Try.func11 rfl rfl) _ _ (fun V w hb hk => N3.out w) (fun V => by rfl) ?_; simp only [Act.put, List.setIfInBounds_toArray, List.set_cons_succ, List.set_cons_zero])
        | (refine f_binop (by first | exact cls_free _ | exact cls_row _ _ _ _ | exact cls_fill _ _ _ _ _) (fun V => by rfl) _ _ _ _ _ rfl _ _ _ (REM.out) (fun w => guard_rem _ _ _ _ _ w) (fun V => by rfl) (fun V => by rfl) ?_; simp only [Act.put, List.setIfInBounds_toArray, List.set_cons_succ, List.set_cons_zero])
        | (refine f_binop (by first | exact cls_free _ | exact cls_row _ _ _ _ | exact cls_fill _ _ _ _ _) (fun V => by rfl) _ _ _ _ _ rfl _ _ _ (fun w => run_neq_i _ _ _ _ _ (HB.out) w) (fun w => guard_neq_i _ _ _ _ _ _ w) (fun V => by rfl) (fun V => by rfl) ?_; simp only [Act.put, List.setIfInBounds_toArray, List.set_cons_succ, List.set_cons_zero])
        | (refine f_binop (by first | exact cls_free _ | exact cls_row _ _ _ _ | exact cls_fill _ _ _ _ _) (fun V => by rfl) _ _ _ _ _ rfl _ _ _ (fun w => run_geq_i _ _ _ _ false (HG.out rfl) w) (fun w => guard_geq _ _ _ _ _ w) (fun V => by rfl) (fun V => by rfl) ?_; simp only [Act.put, List.setIfInBounds_toArray, List.set_cons_succ, List.set_cons_zero])
        | (refine f_call (by first | exact cls_free _ | exact cls_row _ _ _ _ | exact cls_fill _ _ _ _ _) (fun V => by rfl) 9 _ _ rfl (enters_of Try.func9 rfl rfl) _ _ (fun V w hb hk => N2.out w) (fun V => by rfl) ?_; simp only [Act.put, List.setIfInBounds_toArray, List.set_cons_succ, List.set_cons_zero])
        | (refine f_call (by first | exact cls_free _ | exact cls_row _ _ _ _ | exact cls_fill _ _ _ _ _) (fun V => by rfl) 13 _ _ rfl (enters_of Try.func13 rfl rfl) _ _ (fun V w hb hk => N4.out w) (fun V => by rfl) ?_; simp only [Act.put, List.setIfInBounds_toArray, List.set_cons_succ, List.set_cons_zero])
      | (refine f_quiet (by first | exact cls_free _ | exact cls_row _ _ _ _ | exact cls_fill _ _ _ _ _) (fun V => by rfl) (fun V => ⟨_, rfl, by simp⟩) ?_; apply Exists.intro; refine And.intro (fun V w hw K hK => ?_) ?_; ((try simp only [Act.put, List.setIfInBounds_toArray, List.set_cons_succ, List.set_cons_zero] at hK); go_big_quiet_op; exact hK); simp only [Act.put, List.setIfInBounds_toArray, List.set_cons_succ, List.set_cons_zero]))
    refine f_nil ?_
    intro V wa hq hkn
    replace pA := pA.on hq
    replace p9 := p9.on hq
    have Ba := Lib.hid (B9.out.trans (Below.mono hq B9.out.size))
    clear hkn hq rB B9 N1 N1' N2 N3 N4 EQ EG HB HG H1 H2
    go_wp2
    go_loopw [12] (fun i wr => ∃ k : Nat, k ≤ 7 ∧ i = .int .i64 k ∧ Whole wr (w.heap.size + 1 + 1) 23 (ab l) ∧ Whole wr gA 23 (ab out) ∧ Below w.heap.size w wr) (fun i _ => 7 - (intOf i).toNat)
    case atStart => exact ⟨0, by omega, rfl, p9, pA, Ba.out⟩
    case round =>
      obtain ⟨k, hk, rfl, r9, rA, bb⟩ := hrel
      have Bb := Lib.hid bb
      clear bb p9 pA Ba
      by_cases hlt : k < 7
      · have O1 := fun w => pslot_any out k w ho
        have O2 := fun w => pslot_any l k w hl
        unfold PSlotP at O1 O2
        by_cases hki : (k : Int) = i
        · generalize pslot out k = G1 at *
          generalize pslot l k = G2 at *
          obtain ⟨⟨sy, ky, qy, dy, ly, hy, vy⟩, f⟩ := G1
          obtain ⟨⟨sz, kz, qz, dz, lz, hhz, vz⟩, f'⟩ := G2
          unfold iv at O1 O2
          simp only at O1 O2
          replace O1 := Lib.hid O1
          replace O2 := Lib.hid O2
          have HK := Lib.hid (show ((k : Int) != i) = false by simp [hki])
          clear hki
          go_wp2_with (refine wpList_load_ab rfl _ (.tmp 10) rfl (gA) rfl _ _ _ (out) (ho) (rA) Try.underlying23 (by kernel_rfl) ?_)
          refine (O1.out _).mono ?_
          rintro e wc ⟨D, rfl, sc, bc⟩
          obtain ⟨D, c, rfl⟩ := sv_open7 sc
          replace r9 := r9.on bc
          replace rA := rA.on bc
          have Bc := Lib.hid (Bb.out.trans (bc.mono Bb.out.size))
          clear bc sc Bb
          go_wp2_with (first
            | (refine wpList_load_ab rfl _ (.tmp 9) rfl (w.heap.size + 1 + 1) rfl _ _ _ (l) (hl) (r9.later _) Try.underlying23 (by kernel_rfl) ?_)
            | (refine wpList_store_row rfl _ (.tmp 13) (.tmp 91) rfl wc.heap.size _ rfl rfl _ _ (Whole.made wc _ _) (by kernel_rfl) rfl (by simp [Value.oneCell']) ?_; rw [World.setRow_alloc_new]; try simp only [Act.put]))
          have Bd := Lib.hid (Bc.out.alloc Bc.out.size (.cells #[.int .i64 sy, .string ⟨ky.toArray⟩, .int .i64 qy, .slice D dy.length c, .int .i64 ly, .int .i64 hy, .int .i64 vy] 37))
          replace r9 := r9.later (.cells #[.int .i64 sy, .string ⟨ky.toArray⟩, .int .i64 qy, .slice D dy.length c, .int .i64 ly, .int .i64 hy, .int .i64 vy] 37)
          replace rA := rA.later (.cells #[.int .i64 sy, .string ⟨ky.toArray⟩, .int .i64 qy, .slice D dy.length c, .int .i64 ly, .int .i64 hy, .int .i64 vy] 37)
          generalize wc.alloc (.cells #[.int .i64 sy, .string ⟨ky.toArray⟩, .int .i64 qy, .slice D dy.length c, .int .i64 ly, .int .i64 hy, .int .i64 vy] 37) = wd at *
          refine (O2.out _).mono ?_
          rintro e we ⟨E, rfl, se, be⟩
          obtain ⟨E, c', rfl⟩ := sv_open7 se
          replace r9 := r9.on be
          replace rA := rA.on be
          have Be := Lib.hid (Bd.out.trans (be.mono Bd.out.size))
          clear be se Bc Bd
          go_wp2_with (first
            | (show wpList _ _ _ (Oper.mk _ (.binOp .neq _ (.tmp 99) (.tmp 100) _) _ _ _ _ :: _) _ _; refine wp_list_facts 2 [] ?_)
            | (refine wpList_store_row rfl _ (.tmp 15) (.tmp 97) rfl we.heap.size _ rfl rfl _ _ (Whole.made we _ _) (by kernel_rfl) rfl (by simp [Value.oneCell']) ?_; rw [World.setRow_alloc_new]; try simp only [Act.put]))
          simp only [List.zipIdx_cons, List.zipIdx_nil, Nat.reduceAdd]
          repeat (show wpF _ _ _ _ _ _ (_ :: _) _ _; first
            | (refine f_skip (fun V => by rfl) ?_; simp only [Act.put, List.setIfInBounds_toArray, List.set_cons_succ, List.set_cons_zero])
              | (refine f_binop (by first | exact cls_free _ | exact cls_row _ _ _ _ | exact cls_fill _ _ _ _ _) (fun V => by rfl) _ _ _ _ _ rfl _ _ _ (fun w => run_neq_i _ _ _ _ false (HK.out) w) (fun w => guard_neq_i _ _ _ _ _ _ w) (fun V => by rfl) (fun V => by rfl) ?_; simp only [Act.put, List.setIfInBounds_toArray, List.set_cons_succ, List.set_cons_zero])
            | (refine f_quiet (by first | exact cls_free _ | exact cls_row _ _ _ _ | exact cls_fill _ _ _ _ _) (fun V => by rfl) (fun V => ⟨_, rfl, by simp⟩) ?_; apply Exists.intro; refine And.intro (fun V w hw K hK => ?_) ?_; ((try simp only [Act.put, List.setIfInBounds_toArray, List.set_cons_succ, List.set_cons_zero] at hK); go_big_quiet_op; exact hK); simp only [Act.put, List.setIfInBounds_toArray, List.set_cons_succ, List.set_cons_zero]))
          refine f_nil ?_
          intro V wz hq hkn
          clear hkn
          have Bz := Lib.hid ((Be.out.alloc Be.out.size _).trans (Below.mono hq (by have := Be.out.size; simp; omega)))
          replace r9 := (r9.later _).on hq
          replace rA := (rA.later _).on hq
          clear hq Be
          go_wp2
          go_roundw
          case rel => exact ⟨k + 1, by omega, by go_num, r9, rA, Bz.out⟩
          case measure => simp [intOf]; omega
        · rw [HSL.out k hlt hki] at O1
          have SM := fun w D E (h1 : SV w D (bys (pslot l k).1.c.d)) (h2 : SV w E (bys (pslot l k).1.c.d)) => risame_any D E (pslot l k).1 (pslot l k).1 w h1 h2
          simp only [sameI_self] at SM
          generalize pslot l k = G1 at *
          obtain ⟨⟨sy, ky, qy, dy, ly, hy, vy⟩, f⟩ := G1
          unfold iv at O1 O2 SM
          simp only at O1 O2 SM
          replace O1 := Lib.hid O1
          replace O2 := Lib.hid O2
          replace SM := Lib.hid SM
          have HK := Lib.hid (show ((k : Int) != i) = true by simp [hki])
          clear hki
          go_wp2_with (refine wpList_load_ab rfl _ (.tmp 10) rfl (gA) rfl _ _ _ (out) (ho) (rA) Try.underlying23 (by kernel_rfl) ?_)
          refine (O1.out _).mono ?_
          rintro e wc ⟨D, rfl, sc, bc⟩
          obtain ⟨D, c, rfl⟩ := sv_open7 sc
          replace r9 := r9.on bc
          replace rA := rA.on bc
          have Sc := Lib.hid sc
          have Bc := Lib.hid (Bb.out.trans (bc.mono Bb.out.size))
          clear bc sc Bb
          go_wp2_with (first
            | (refine wpList_load_ab rfl _ (.tmp 9) rfl (w.heap.size + 1 + 1) rfl _ _ _ (l) (hl) (r9.later _) Try.underlying23 (by kernel_rfl) ?_)
            | (refine wpList_store_row rfl _ (.tmp 13) (.tmp 91) rfl wc.heap.size _ rfl rfl _ _ (Whole.made wc _ _) (by kernel_rfl) rfl (by simp [Value.oneCell']) ?_; rw [World.setRow_alloc_new]; try simp only [Act.put]))
          have rD := Whole.made wc 37 #[.int .i64 sy, .string ⟨ky.toArray⟩, .int .i64 qy, .slice D dy.length c, .int .i64 ly, .int .i64 hy, .int .i64 vy]
          have Bd := Lib.hid (Bc.out.alloc Bc.out.size (.cells #[.int .i64 sy, .string ⟨ky.toArray⟩, .int .i64 qy, .slice D dy.length c, .int .i64 ly, .int .i64 hy, .int .i64 vy] 37))
          have Sd := Lib.hid (Sc.out.keep (Keeps.alloc wc (.cells #[.int .i64 sy, .string ⟨ky.toArray⟩, .int .i64 qy, .slice D dy.length c, .int .i64 ly, .int .i64 hy, .int .i64 vy] 37)))
          replace r9 := r9.later (.cells #[.int .i64 sy, .string ⟨ky.toArray⟩, .int .i64 qy, .slice D dy.length c, .int .i64 ly, .int .i64 hy, .int .i64 vy] 37)
          replace rA := rA.later (.cells #[.int .i64 sy, .string ⟨ky.toArray⟩, .int .i64 qy, .slice D dy.length c, .int .i64 ly, .int .i64 hy, .int .i64 vy] 37)
          generalize wc.alloc (.cells #[.int .i64 sy, .string ⟨ky.toArray⟩, .int .i64 qy, .slice D dy.length c, .int .i64 ly, .int .i64 hy, .int .i64 vy] 37) = wd at *
          generalize wc.heap.size = gD at *
          refine (O2.out _).mono ?_
          rintro e we ⟨E, rfl, se, be⟩
          obtain ⟨E, c', rfl⟩ := sv_open7 se
          replace r9 := r9.on be
          replace rA := rA.on be
          replace rD := rD.on be
          have Se := Lib.hid (Sd.out.keep (Keeps.below be))
          have Te := Lib.hid (se.keep (Keeps.alloc we (.cells #[.int .i64 sy, .string ⟨ky.toArray⟩, .int .i64 qy, .slice E dy.length c', .int .i64 ly, .int .i64 hy, .int .i64 vy] 37)))
          have Be := Lib.hid (Bd.out.trans (be.mono Bd.out.size))
          clear be se Bc Bd Sc Sd
          go_wp2_with (first
            | (show wpList _ _ _ (Oper.mk _ (.binOp .neq _ (.tmp 99) (.tmp 100) _) _ _ _ _ :: _) _ _; refine wp_list_facts 2 [] ?_)
            | (refine wpList_store_row rfl _ (.tmp 15) (.tmp 97) rfl we.heap.size _ rfl rfl _ _ (Whole.made we _ _) (by kernel_rfl) rfl (by simp [Value.oneCell']) ?_; rw [World.setRow_alloc_new]; try simp only [Act.put]))
          have Sz := Lib.hid (Se.out.keep (Keeps.alloc we (.cells #[.int .i64 sy, .string ⟨ky.toArray⟩, .int .i64 qy, .slice E dy.length c', .int .i64 ly, .int .i64 hy, .int .i64 vy] 37)))
          simp only [List.zipIdx_cons, List.zipIdx_nil, Nat.reduceAdd]
          repeat (show wpF _ _ _ _ _ _ (_ :: _) _ _; first
            | (refine f_skip (fun V => by rfl) ?_; simp only [Act.put, List.setIfInBounds_toArray, List.set_cons_succ, List.set_cons_zero])
              | (refine f_binop (by first | exact cls_free _ | exact cls_row _ _ _ _ | exact cls_fill _ _ _ _ _) (fun V => by rfl) _ _ _ _ _ rfl _ _ _ (fun w => run_neq_i _ _ _ _ true (HK.out) w) (fun w => guard_neq_i _ _ _ _ _ _ w) (fun V => by rfl) (fun V => by rfl) ?_; simp only [Act.put, List.setIfInBounds_toArray, List.set_cons_succ, List.set_cons_zero])
                    | (refine f_load_row (by first | exact cls_free _ | exact cls_row _ _ _ _ | exact cls_fill _ _ _ _ _) (fun V => by rfl) _ _ rfl _ (fun V => by rfl) _ _ _ (fun w hb => (rD.later _).on hb) Try.underlying37 rfl (by kernel_rfl) ?_; simp only [Act.put, List.setIfInBounds_toArray, List.set_cons_succ, List.set_cons_zero])
                    | (refine f_load_row (by first | exact cls_free _ | exact cls_row _ _ _ _ | exact cls_fill _ _ _ _ _) (fun V => by rfl) _ _ rfl _ (fun V => by rfl) _ _ _ (fun w hb => (Whole.made we _ _).on hb) Try.underlying37 rfl (by kernel_rfl) ?_; simp only [Act.put, List.setIfInBounds_toArray, List.set_cons_succ, List.set_cons_zero])
                    | (refine f_call (by first | exact cls_free _ | exact cls_row _ _ _ _ | exact cls_fill _ _ _ _ _) (fun V => by rfl) 27 _ _ rfl (enters_of Try.func27 rfl rfl) _ _ (fun V w hb hk => SM.out w _ _ (Sz.out.keep (Keeps.below hb)) (Te.out.keep (Keeps.below hb))) (fun V => by rfl) ?_; simp only [Act.put, List.setIfInBounds_toArray, List.set_cons_succ, List.set_cons_zero])
                    | (refine f_call (by first | exact cls_free _ | exact cls_row _ _ _ _ | exact cls_fill _ _ _ _ _) (fun V => by rfl) 28 _ _ rfl (enters_of Try.func28 rfl rfl) _ _ (fun V w hb hk => code7_b _ w) (fun V => by rfl) ?_; simp only [Act.put, List.setIfInBounds_toArray, List.set_cons_succ, List.set_cons_zero])
                    | (refine f_binop (by first | exact cls_free _ | exact cls_row _ _ _ _ | exact cls_fill _ _ _ _ _) (fun V => by rfl) _ _ _ _ _ rfl _ _ _ (fun w => run_neq_i _ _ _ _ false (nsame f) w) (fun w => guard_neq_i _ _ _ _ _ _ w) (fun V => by rfl) (fun V => by rfl) ?_; simp only [Act.put, List.setIfInBounds_toArray, List.set_cons_succ, List.set_cons_zero])
            | (refine f_quiet (by first | exact cls_free _ | exact cls_row _ _ _ _ | exact cls_fill _ _ _ _ _) (fun V => by rfl) (fun V => ⟨_, rfl, by simp⟩) ?_; apply Exists.intro; refine And.intro (fun V w hw K hK => ?_) ?_; ((try simp only [Act.put, List.setIfInBounds_toArray, List.set_cons_succ, List.set_cons_zero] at hK); go_big_quiet_op; exact hK); simp only [Act.put, List.setIfInBounds_toArray, List.set_cons_succ, List.set_cons_zero]))
          refine f_nil ?_
          intro V wz hq hkn
          clear hkn
          have Bz := Lib.hid ((Be.out.alloc Be.out.size _).trans (Below.mono hq (by have := Be.out.size; simp; omega)))
          replace r9 := (r9.later _).on hq
          replace rA := (rA.later _).on hq
          clear hq Be Se Te Sz rD
          go_wp2
          go_roundw
          case rel => exact ⟨k + 1, by omega, by go_num, r9, rA, Bz.out⟩
          case measure => simp [intOf]; omega
      · obtain rfl : k = 7 := by omega
        go_wp2_with fail
        refine (live7_any _).mono ?_
        rintro e wc ⟨rfl, bc⟩
        have Bc := Lib.hid (Bb.out.trans (bc.mono Bb.out.size))
        clear bc
        go_wp2
        go_ret
        exact ⟨rfl, Bc.out⟩
end Go.Proofs.Ytelamhdnefnceaa
