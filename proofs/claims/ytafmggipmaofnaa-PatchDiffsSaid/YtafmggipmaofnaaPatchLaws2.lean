/- Layer 8: the law PatchDiffs. -/
import Derived.Test.YtafmggipmaofnaaPatchLaws
import Derived.Test.YtafmggipmaofnaaPatchRef
import Derived.Test.YtafmggipmaofnaaPatchTwo
namespace Go.Proofs.Ytafmggipmaofnaa
set_option maxRecDepth 20000
open Go.RowKit

def fRS (l : List Rn) : Value → World → Prop := fun v w => RS w v l
theorem stays_rs (l : List Rn) : Stays (fRS l) := fun _ _ _ h hb => RS.keep h (Keeps.below hb)
theorem sane_diff {a b : List UInt8} (hb : b.length = 512) : Sane (diffR a b) := by
  intro r hr
  unfold diffR runsOf at hr
  obtain ⟨x, hx, rfl⟩ := List.mem_map.1 hr
  have h1 := (dif_ok a b 512).1.within x (List.mem_reverse.1 hx)
  have h2 := mid_len' hb h1
  unfold i64
  rw [h2]
  refine ⟨?_, by omega⟩
  show -9223372036854775808 ≤ (x.1 : Int) ∧ (x.1 : Int) ≤ 9223372036854775807
  omega

set_option maxHeartbeats 8000000 in
theorem diffs8_law (a b : List UInt8) (no : Int) (w : World) (hla : a.length = 512) (hlb : b.length = 512) (hno : 0 ≤ no ∧ no ≤ 65535) :
    Calls Try.prog 3 #[.agg (ab a), .agg (ab b), .int .u16 no] w fun e w' => e = .returned (.bool true) ∧ Below w.heap.size w w' := by
  have hz := (zero_of_info Try.zinfo24).1
  have LV := Lib.hid (fun w => live8_any w)
  have DF := Lib.hid (fun w => diff_any a b hla hlb w)
  obtain ⟨y, hy, hyl, hy1, hy2⟩ := diff_apply hla hlb
  have hsane := sane_diff (a := a) hlb
  have hok := diff_ok (a := a) hlb
  have hlen := diff_len a b
  have RD := Lib.hid (fun w va vb (h1 : SV w va (bys a)) (h2 : SV w vb (bys b)) => refDiff_any va vb a b hla hlb w h1 h2)
  generalize diffR a b = rs at *
  have AP := Lib.hid (fun (w' : World) (vr : Value) (h : RS w' vr rs) => apply_any a rs vr w' hla h hsane)
  rw [hy] at AP
  have CK := Lib.hid (fun (w' : World) (vr : Value) (h : RS w' vr rs) => check8_any ⟨no, false, rs⟩ vr w' (by unfold i64; simp only; omega) h hsane)
  rw [show ck8 ⟨no, false, rs⟩ = 0 by unfold ck8; rw [ck8_yes ⟨hno.1, hno.2, by simp only; omega, hok⟩]; rfl] at CK
  have SR := Lib.hid (fun (w' : World) (v1 v2 : Value) (h1 : RS w' v1 rs) (h2 : RS w' v2 rs) => sameRuns_any v1 v2 rs rs w' h1 h2)
  rw [show decide (rs = rs) = true from decide_eq_true rfl] at SR
  have hd12 : (y.drop 12 == b.drop 12) = true := by rw [hy1]; simp
  have ht12 : (y.take 12 == a.take 12) = true := by rw [hy2]; simp
  clear hy hok
  go_enter Try.func3, Try.ntmps3
  go_wp2_with fail
  have p1 := (Whole.made w 22 (ab a)).later (.cells (ab b) 22)
  have p2 := Whole.second w (.cells (ab a) 22) 22 (ab b)
  have B0 := Lib.hid (two_more (Below.refl w.heap.size w) (.cells (ab a) 22) (.cells (ab b) 22))
  generalize (w.alloc (.cells (ab a) 22)).alloc (.cells (ab b) 22) = w0 at *
  have j1 := p1.lt
  have j2 := p2.lt
  have B0' : Below w.heap.size w { w0 with drawn := w0.drawn + 1 } := B0.out.drew
  refine wp_region_any (by kernel_rfl) ?_
  show wpAny _ .any _ _ 6 #[false, false, false, false, false, false] _ _
  refine wp_two (fr := fun t12 t13 t7 t8 => { tmps := #[.agg (ab a), .agg (ab b), .int .u16 no, .pointer (some ⟨w.heap.size, 0, none⟩), .pointer (some ⟨w.heap.size + 1, 0, none⟩), undef, .bool false, t7, t8, undef, undef, undef, t12, t13, undef, undef, undef, undef, undef, undef, undef, undef, undef, undef, undef, undef, undef, undef, undef, undef, undef, undef, undef, undef, undef, undef, undef, undef, undef, undef, undef, undef, undef, undef, undef, undef, undef, undef, undef, undef, undef, undef, undef, undef, undef], defers := [] }) hla hlb hz (by kernel_rfl) (show Whole { w0 with drawn := w0.drawn + 1 } w.heap.size 22 (ab a) from p1) (show Whole { w0 with drawn := w0.drawn + 1 } (w.heap.size + 1) 22 (ab b) from p2) _ Try.underlying22 (by kernel_rfl)
    _ _ _ _ _ _ rfl ⟨rfl, rfl, rfl, rfl, rfl, rfl⟩ _ _ _ _ rfl rfl rfl rfl _ _ rfl rfl (fun _ _ _ _ => rfl) (fun _ _ _ _ => rfl) (fun _ _ _ _ => rfl) (fun _ _ _ _ => rfl) (fun _ _ _ _ => rfl) (fun _ _ _ _ => rfl)
    (fun _ _ _ _ _ => rfl) (fun _ _ _ _ _ => rfl) (fun _ _ _ _ _ => rfl) (fun _ _ _ _ _ => rfl) rfl rfl (by decide +kernel) (by decide +kernel) (by decide +kernel) ?_ 6 false false false false false false undef undef undef undef _ rfl
    ⟨Below.refl _ _, (fun h => by cases h), (fun h => by cases h), (fun h => by cases h), (fun h => by cases h), (fun h => by cases h), (fun h => by cases h), (fun h => by cases h)⟩
  intro w3 g7 g8 hq d78 i7 i8 s7 s8
  have B3 := Lib.hid (B0'.trans (hq.mono B0'.size))
  have s1 := Lib.hid (show Whole w3 w.heap.size 22 (ab a) from Whole.on (w := { w0 with drawn := w0.drawn + 1 }) p1 hq)
  have s2 := Lib.hid (show Whole w3 (w.heap.size + 1) 22 (ab b) from Whole.on (w := { w0 with drawn := w0.drawn + 1 }) p2 hq)
  replace s7 := Lib.hid s7
  replace s8 := Lib.hid s8
  clear hq B0 B0' p1 p2
  go_wp2_with (first
    | ((refine wpList_load_ab rfl _ (.tmp 7) rfl (g7) rfl _ _ _ (a) (hla) (s7.out) Try.underlying24 (by kernel_rfl) ?_))
    | ((refine wpList_load_ab rfl _ (.tmp 8) rfl (g8) rfl _ _ _ (b) (hlb) (s8.out) Try.underlying24 (by kernel_rfl) ?_))
    | fail)
  refine (DF.out _).mono ?_
  rintro e w4 ⟨v, rfl, hrs, b4⟩
  have B4 := Lib.hid (B3.out.trans (b4.mono B3.out.size))
  have t7 := Lib.hid (s7.out.on b4)
  have t1 := Lib.hid (s1.out.on b4)
  have t2 := Lib.hid (s2.out.on b4)
  have HRS := Lib.hid hrs
  obtain ⟨A, c, rfl, _⟩ := id hrs
  clear b4 hrs s7 s8 s1 s2 B3 j1 j2 i7 i8 d78
  go_wp2_with (first
    | ((refine wpList_load_ab rfl _ (.tmp 7) rfl (g7) rfl _ _ _ (a) (hla) (t7.out) Try.underlying24 (by kernel_rfl) ?_))
    | fail)
  refine (AP.out _ _ HRS.out).mono ?_
  rintro e w5 ⟨rfl, b5⟩
  have B5 := Lib.hid (B4.out.trans (b5.mono B4.out.size))
  have x1 := Lib.hid (t1.out.on b5)
  have x2 := Lib.hid (t2.out.on b5)
  have HR5 := Lib.hid (HRS.out.on b5)
  clear b5 t7 t1 t2 HRS B4
  go_wp2_with (first
    | ((refine wpList_store_ab rfl _ (.tmp 10) (.tmp 21) rfl (w5.heap.size) rfl (y) rfl _ _ (hyl) (z512) (z512_len) (Whole.made w5 _ _) (by kernel_rfl) ?_); intro w6 q6 e6; rw [World.setRow_alloc_new] at e6; have E6 := Lib.hid e6; clear e6)
    | fail)
  have B6 := Lib.hid (show Below w.heap.size w w6 by rw [E6.out]; exact B5.out.alloc B5.out.size _)
  have z1 := Lib.hid (show Whole w6 w.heap.size 22 (ab a) by rw [E6.out]; exact x1.out.later _)
  have z2 := Lib.hid (show Whole w6 (w.heap.size + 1) 22 (ab b) by rw [E6.out]; exact x2.out.later _)
  have HR6 := Lib.hid (show RS w6 _ rs by rw [E6.out]; exact HR5.out.keep (Keeps.alloc _ _))
  clear E6 B5 x1 x2 HR5
  refine wp_region_facts 32 [] [26] (by kernel_rfl) (by kernel_rfl) (by kernel_rfl) (free_draw w6) ?_
  simp only [List.take_succ_cons, List.take_zero, List.drop_succ_cons, List.drop_zero, List.zipIdx_cons, List.zipIdx_nil, Nat.zero_add, Nat.reduceAdd]
  repeat (show wpF _ _ _ _ _ _ (_ :: _) _ _; first
    | (refine f_skip (fun V => by rfl) ?_; simp only [Act.put, List.setIfInBounds_toArray, List.set_cons_succ, List.set_cons_zero])
      | (refine f_callF (by first | exact cls_free _ | exact cls_row _ _ _ _ | exact cls_fill _ _ _ _ _ | exact cls_butC _ _ | exact cls_butD _ _ _ _ _ _ _) (fRS rs) (stays_rs _) (fun V => by rfl) (by decide) 9 _ _ rfl (enters_of Try.func9 rfl rfl) _ (fun V w hb hk => RD.out w _ _ (sv_ab (z1.out.on hb) 512 hla (by omega)) (sv_ab (z2.out.on hb) 512 hlb (by omega))) (fun V => by rfl) ?_; simp only [Act.put, List.setIfInBounds_toArray, List.set_cons_succ, List.set_cons_zero, keyOf, Option.getD_some])
    | (refine f_call (by first | exact cls_free _ | exact cls_row _ _ _ _ | exact cls_fill _ _ _ _ _ | exact cls_butC _ _ | exact cls_butD _ _ _ _ _ _ _) (fun V => by rfl) 8 _ _ rfl (enters_of Try.func8 rfl rfl) _ _ (fun V w hb hk => SR.out w _ _ (HR6.out.on hb) (hk.slot 26 rfl rfl)) (fun V => by rfl) ?_; simp only [Act.put, List.setIfInBounds_toArray, List.set_cons_succ, List.set_cons_zero])
    | (refine f_call (by first | exact cls_free _ | exact cls_row _ _ _ _ | exact cls_fill _ _ _ _ _ | exact cls_butC _ _ | exact cls_butD _ _ _ _ _ _ _) (fun V => by rfl) 10 _ _ rfl (enters_of Try.func10 rfl rfl) _ _ (fun V w hb hk => code8_any _ w) (fun V => by rfl) ?_; simp only [Act.put, List.setIfInBounds_toArray, List.set_cons_succ, List.set_cons_zero])
    | (refine f_binop (by first | exact cls_free _ | exact cls_row _ _ _ _ | exact cls_fill _ _ _ _ _ | exact cls_butC _ _ | exact cls_butD _ _ _ _ _ _ _) (fun V => by rfl) _ _ _ _ _ rfl _ _ _ (fun w => run_eql_i _ _ _ _ true (show ((0 : Int) == 0) = true from rfl) w) (fun w => guard_eql_i _ _ _ _ _ _ w) (fun V => by rfl) (fun V => by rfl) ?_; simp only [Act.put, List.setIfInBounds_toArray, List.set_cons_succ, List.set_cons_zero])
    | (refine f_cut_arr (by first | exact cls_free _ | exact cls_row _ _ _ _ | exact cls_fill _ _ _ _ _ | exact cls_butC _ _ | exact cls_butD _ _ _ _ _ _ _) (fun V => by rfl) 24 _ _ rfl (w5.heap.size) (fun V => by rfl) 5 _ Try.underlying24 (by kernel_rfl) _ _ (12) (fun V => by rfl) (rfl) (by omega) ?_; simp only [Act.put, List.setIfInBounds_toArray, List.set_cons_succ, List.set_cons_zero])
    | (refine f_cut_arr (by first | exact cls_free _ | exact cls_row _ _ _ _ | exact cls_fill _ _ _ _ _ | exact cls_butC _ _ | exact cls_butD _ _ _ _ _ _ _) (fun V => by rfl) 22 _ _ rfl (w.heap.size + 1) (fun V => by rfl) 5 _ Try.underlying22 (by kernel_rfl) _ _ (12) (fun V => by rfl) (rfl) (by omega) ?_; simp only [Act.put, List.setIfInBounds_toArray, List.set_cons_succ, List.set_cons_zero])
    | (refine f_call (by first | exact cls_free _ | exact cls_row _ _ _ _ | exact cls_fill _ _ _ _ _ | exact cls_butC _ _ | exact cls_butD _ _ _ _ _ _ _) (fun V => by rfl) 11 _ _ rfl (enters_of Try.func11 rfl rfl) _ _ (fun V w hb hk => (same_any _ _ _ _ w (sv_ab_cut (q6.out.on hb) 512 hyl (by omega) 12 (by omega)) (sv_ab_cut (z2.out.on hb) 512 hlb (by omega) 12 (by omega))).mono fun e w' ⟨h1, h2⟩ => ⟨by rw [h1, hd12], h2 ▸ Below.refl _ _⟩) (fun V => by rfl) ?_; simp only [Act.put, List.setIfInBounds_toArray, List.set_cons_succ, List.set_cons_zero])
    | (refine f_call (by first | exact cls_free _ | exact cls_row _ _ _ _ | exact cls_fill _ _ _ _ _ | exact cls_butC _ _ | exact cls_butD _ _ _ _ _ _ _) (fun V => by rfl) 11 _ _ rfl (enters_of Try.func11 rfl rfl) _ _ (fun V w hb hk => (same_any _ _ _ _ w (sv_ab_take (q6.out.on hb) 512 hyl (by omega) 12 (by omega)) (sv_ab_take (z1.out.on hb) 512 hla (by omega) 12 (by omega))).mono fun e w' ⟨h1, h2⟩ => ⟨by rw [h1, ht12], h2 ▸ Below.refl _ _⟩) (fun V => by rfl) ?_; simp only [Act.put, List.setIfInBounds_toArray, List.set_cons_succ, List.set_cons_zero])
    | (refine f_call (by first | exact cls_free _ | exact cls_row _ _ _ _ | exact cls_fill _ _ _ _ _ | exact cls_butC _ _ | exact cls_butD _ _ _ _ _ _ _) (fun V => by rfl) 12 _ _ rfl (enters_of Try.func12 rfl rfl) _ _ (fun V w hb hk => CK.out w _ (HR6.out.on hb)) (fun V => by rfl) ?_; simp only [Act.put, List.setIfInBounds_toArray, List.set_cons_succ, List.set_cons_zero])
    | (refine f_call (by first | exact cls_free _ | exact cls_row _ _ _ _ | exact cls_fill _ _ _ _ _ | exact cls_butC _ _ | exact cls_butD _ _ _ _ _ _ _) (fun V => by rfl) 13 _ _ rfl (enters_of Try.func13 rfl rfl) _ _ (fun V w hb hk => LV.out w) (fun V => by rfl) ?_; simp only [Act.put, List.setIfInBounds_toArray, List.set_cons_succ, List.set_cons_zero])
    | (refine f_quiet (by first | exact cls_free _ | exact cls_row _ _ _ _ | exact cls_fill _ _ _ _ _ | exact cls_butC _ _ | exact cls_butD _ _ _ _ _ _ _) (fun V => by rfl) (fun V => ⟨_, rfl, by simp⟩) ?_; apply Exists.intro; refine And.intro (fun V w hw K hK => ?_) ?_; ((try simp only [Act.put, List.setIfInBounds_toArray, List.set_cons_succ, List.set_cons_zero] at hK); go_big_quiet_op; exact hK); simp only [Act.put, List.setIfInBounds_toArray, List.set_cons_succ, List.set_cons_zero]))
  refine f_nil ?_
  intro V w7 hq hkn
  have B7 := B6.out.trans (Below.mono hq B6.out.size)
  clear hkn hq
  go_wp2
  go_ret
  exact ⟨rfl, B7⟩
end Go.Proofs.Ytafmggipmaofnaa
