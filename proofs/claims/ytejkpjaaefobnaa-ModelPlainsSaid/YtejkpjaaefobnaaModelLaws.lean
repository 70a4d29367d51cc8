/- What the law ModelLooks comes to. -/
import Derived.Test.YtejkpjaaefobnaaModelLive
import Derived.Test.YtejkpjaaefobnaaModelRef3
namespace Go.Proofs.Ytejkpjaaefobnaa
set_option maxRecDepth 20000
open Go.RowKit Go.Sort

theorem run_eql_b (z : Bool) (w : World) : (binOp .eql 4 (.bool z) (.bool z)).run Try.prog w = .ok (.bool true) w := by
  rw [run_eql_bool (P := Try.prog) (w := w) 4 z z Try.underlying4]
  simp
theorem guard_b {P : Program} (op : BinOp) (t : TypeId) (s u : Operand) (a b : Bool) (w : World) : (eqGuard op t s u (.bool a) (.bool b)).run P w = .ok () w := by
  cases op <;> simp [eqGuard]
set_option maxHeartbeats 4000000 in
theorem looks9_law (v u : Value) (s t : List Pr) (k : List UInt8) (D E : Value) (a b : An) (w : World) (hv : PS w v s) (hs : ∀ p ∈ s, p.c.d.length ≤ 9223372036854775807 ∧ p.k.length ≤ 9223372036854775807) (hu : PS w u t) (ht : ∀ p ∈ t, p.c.d.length ≤ 9223372036854775807 ∧ p.k.length ≤ 9223372036854775807)
    (hD : SV w D (bys a.c.d)) (ha : a.c.d.length ≤ 9223372036854775807) (hE : SV w E (bys b.c.d)) (hb : b.c.d.length ≤ 9223372036854775807) :
    Calls Try.prog 5 #[v, u, kst k, av D a, av E b] w fun e w' => e = .returned (.bool true) ∧ Below w.heap.size w w' := by
  obtain ⟨Ad, cd, rfl, _⟩ := id hD
  obtain ⟨Ae, ce, rfl, _⟩ := id hE
  rw [bys_len] at hD hE ⊢
  rw [bys_len]
  obtain ⟨Av, cv', rfl⟩ := hv.slice
  obtain ⟨Au, cu, rfl⟩ := hu.slice
  have LV := Lib.hid (fun w => live9_any w)
  have MS := Lib.hid (fun w' (hw : PS w' (.slice Av s.length cv') s) => muchState_any _ s w' hw hs)
  have MT := Lib.hid (fun w' (hw : PS w' (.slice Au t.length cu) t) => muchState_any _ t w' hw ht)
  have HV := Lib.hid hv
  have HU := Lib.hid hu
  have HD := Lib.hid hD
  have HE := Lib.hid hE
  clear hv hu hD hE hs ht
  unfold kst
  unfold av
  go_enter Try.func5, Try.ntmps5
  go_wp2_with fail
  have B1 := Lib.hid (two_more (Below.refl _ w) (.cells #[.int .i64 a.e, .int .i64 a.c.k, .slice Ad a.c.d.length cd, .int .i64 a.c.lo, .int .i64 a.c.hi, .int .i64 a.c.v] 32) (.cells #[.int .i64 b.e, .int .i64 b.c.k, .slice Ae b.c.d.length ce, .int .i64 b.c.lo, .int .i64 b.c.hi, .int .i64 b.c.v] 32))
  have p8 := Lib.hid ((Whole.made w 32 #[.int .i64 a.e, .int .i64 a.c.k, .slice Ad a.c.d.length cd, .int .i64 a.c.lo, .int .i64 a.c.hi, .int .i64 a.c.v]).later (.cells #[.int .i64 b.e, .int .i64 b.c.k, .slice Ae b.c.d.length ce, .int .i64 b.c.lo, .int .i64 b.c.hi, .int .i64 b.c.v] 32))
  have p9 := Lib.hid (Whole.second w (.cells #[.int .i64 a.e, .int .i64 a.c.k, .slice Ad a.c.d.length cd, .int .i64 a.c.lo, .int .i64 a.c.hi, .int .i64 a.c.v] 32) 32 #[.int .i64 b.e, .int .i64 b.c.k, .slice Ae b.c.d.length ce, .int .i64 b.c.lo, .int .i64 b.c.hi, .int .i64 b.c.v])
  generalize (w.alloc (.cells #[.int .i64 a.e, .int .i64 a.c.k, .slice Ad a.c.d.length cd, .int .i64 a.c.lo, .int .i64 a.c.hi, .int .i64 a.c.v] 32)).alloc (.cells #[.int .i64 b.e, .int .i64 b.c.k, .slice Ae b.c.d.length ce, .int .i64 b.c.lo, .int .i64 b.c.hi, .int .i64 b.c.v] 32) = w1 at *
  refine (MS.out _ (HV.out.on B1.out)).mono ?_
  rintro e w2 ⟨g1, rfl, hg1, b2⟩
  replace p8 := Lib.hid (p8.out.on b2)
  replace p9 := Lib.hid (p9.out.on b2)
  have B2 := Lib.hid (B1.out.trans (b2.mono B1.out.size))
  clear b2 B1 MS
  cases g1 with
  | true =>
    clear hg1
    go_wp2_with fail
    refine (LV.out _).mono ?_
    rintro e w3 ⟨rfl, b3⟩
    have B3 := Lib.hid (B2.out.trans (b3.mono B2.out.size))
    clear b3
    go_wp2
    go_ret
    exact ⟨rfl, B3.out⟩
  | false =>
    have hs60 := Lib.hid (hg1 rfl)
    clear hg1
    go_wp2_with fail
    refine (MT.out _ (HU.out.on B2.out)).mono ?_
    rintro e w3 ⟨g2, rfl, hg2, b3⟩
    replace p8 := Lib.hid (p8.out.on b3)
    replace p9 := Lib.hid (p9.out.on b3)
    have B3 := Lib.hid (B2.out.trans (b3.mono B2.out.size))
    have y2 : w3.cell? ⟨w.heap.size, 2, none⟩ = some (.slice Ad a.c.d.length cd) := p8.out.cell 2
    have z2 : w3.cell? ⟨w.heap.size + 1, 2, none⟩ = some (.slice Ae b.c.d.length ce) := p9.out.cell 2
    clear b3 B2 MT
    cases g2 with
    | true =>
      clear hg2
      go_wp2_with fail
      refine (LV.out _).mono ?_
      rintro e w4 ⟨rfl, b4⟩
      have B4 := Lib.hid (B3.out.trans (b4.mono B3.out.size))
      clear b4
      go_wp2
      go_ret
      exact ⟨rfl, B4.out⟩
    | false =>
      have ht60 := Lib.hid (hg2 rfl)
      clear hg2
      by_cases h3 : 300 < a.c.d.length ∨ 300 < b.c.d.length
      · have hd4 : 300 < a.c.d.length ∨ (¬ 300 < a.c.d.length ∧ 300 < b.c.d.length) := by omega
        clear h3
        rcases hd4 with h3 | ⟨h3, h4⟩
        all_goals
          go_wp2_with fail
          refine (LV.out _).mono ?_
          rintro e w4 ⟨rfl, b4⟩
          have B4 := Lib.hid (B3.out.trans (b4.mono B3.out.size))
          clear b4
          go_wp2
          go_ret
          exact ⟨rfl, B4.out⟩
      · have h4 : ¬ 300 < a.c.d.length := by omega
        have h5 : ¬ 300 < b.c.d.length := by omega
        clear h3
        have hsm : Small s := fun p hp => by have := hs60.out.2 p hp; omega
        have CF := Lib.hid (fun w' (hw : PS w' (.slice Av s.length cv') s) => find9_any _ s k w' hw hsm)
        have CR := Lib.hid (fun w' (hw : PS w' (.slice Av s.length cv') s) => rfind9_any _ s k w' hw)
        have RM := Lib.hid (fun w' (hw : PS w' (.slice Av s.length cv') s) => right9_any _ s w' hw hsm)
        have RR := Lib.hid (fun w' (hw : PS w' (.slice Av s.length cv') s) => rright9_any _ s w' hw hsm)
        unfold kst at CF CR
        go_wp2_with fail
        refine (CF.out _ (HV.out.on B3.out)).mono ?_
        rintro e w4 ⟨D1, rfl, hd1, b4⟩
        have B4 := Lib.hid (B3.out.trans (b4.mono B3.out.size))
        replace p8 := Lib.hid (p8.out.on b4)
        replace p9 := Lib.hid (p9.out.on b4)
        obtain ⟨A1, n1, d1, rfl⟩ := sv_sl hd1
        replace hd1 := Lib.hid hd1
        clear b4 y2 z2 CF B3
        unfold cv
        go_wp2_with (show wpList _ _ _ (Oper.mk _ (.store _ (.tmp 11) _) _ _ _ _ :: _) _ _; refine wpList_store_row rfl _ (.tmp 11) (.tmp 40) rfl (w4).heap.size _ rfl rfl _ _ (Whole.made (w4) _ _) (by kernel_rfl) rfl (by simp [Value.oneCell']) ?_; rw [World.setRow_alloc_new]; generalize hW : World.alloc _ _ = w5; have p11 := Lib.hid (made_eq hW).1; have b5 := Lib.hid (made_eq hW).2; clear hW; replace p8 := Lib.hid (p8.out.on b5.out); replace p9 := Lib.hid (p9.out.on b5.out); replace hd1 := Lib.hid (hd1.out.keep (Keeps.below b5.out)); have B5 := Lib.hid (B4.out.trans (b5.out.mono B4.out.size)); clear b5)
        refine (CR.out _ (HV.out.on B5.out)).mono ?_
        rintro e w6 ⟨D2, rfl, hd2, b6⟩
        have B6 := Lib.hid (B5.out.trans (b6.mono B5.out.size))
        replace p8 := Lib.hid (p8.out.on b6)
        replace p9 := Lib.hid (p9.out.on b6)
        replace p11 := Lib.hid (p11.out.on b6)
        replace hd1 := Lib.hid (hd1.out.keep (Keeps.below b6))
        obtain ⟨A2, n2, d2, rfl⟩ := sv_sl hd2
        replace hd2 := Lib.hid hd2
        clear b6 CR B5 B4
        unfold cv
        go_wp2_with (show wpList _ _ _ (Oper.mk _ (.store _ (.tmp 13) _) _ _ _ _ :: _) _ _; refine wpList_store_row rfl _ (.tmp 13) (.tmp 46) rfl (w6).heap.size _ rfl rfl _ _ (Whole.made (w6) _ _) (by kernel_rfl) rfl (by simp [Value.oneCell']) ?_; rw [World.setRow_alloc_new]; generalize hW : World.alloc _ _ = w7; have p13 := Lib.hid (made_eq hW).1; have b7 := Lib.hid (made_eq hW).2; clear hW; replace p8 := Lib.hid (p8.out.on b7.out); replace p9 := Lib.hid (p9.out.on b7.out); replace p11 := Lib.hid (p11.out.on b7.out); replace hd1 := Lib.hid (hd1.out.keep (Keeps.below b7.out)); replace hd2 := Lib.hid (hd2.out.keep (Keeps.below b7.out)); have B7 := Lib.hid (B6.out.trans (b7.out.mono B6.out.size)); clear b7)
        generalize fndC s k = C at *
        generalize (fnd s k).isSome = z at *
        have HV7 := Lib.hid (HV.out.on B7.out)
        have HU7 := Lib.hid (HU.out.on B7.out)
        have HD7 := Lib.hid (HD.out.keep (Keeps.below B7.out))
        have HE7 := Lib.hid (HE.out.keep (Keeps.below B7.out))
        have SC := Lib.hid (fun w' (hw : Below w7.heap.size w7 w') => rsame5_any (.slice A1 n1 d1) (.slice A2 n2 d2) C C w' (hd1.out.keep (Keeps.below hw)) (hd2.out.keep (Keeps.below hw)))
        replace SC := SC.out
        rw [sameC_self] at SC
        unfold cv at SC
        replace SC := Lib.hid SC
        have SA := fun w' (hw : Below w7.heap.size w7 w') => sameAnswer9_any a b Ad Ae cd ce w' (HD7.out.keep (Keeps.below hw)) (HE7.out.keep (Keeps.below hw))
        have RA := fun w' (hw : Below w7.heap.size w7 w') => rsameAnswer9_any a b Ad Ae cd ce w' (HD7.out.keep (Keeps.below hw)) (HE7.out.keep (Keeps.below hw))
        have SS := Lib.hid (fun w' (hw : Below w7.heap.size w7 w') => same9_any _ _ s t w' (HV7.out.on hw) (HU7.out.on hw))
        have RS9 := Lib.hid (fun w' (hw : Below w7.heap.size w7 w') => rsame9_any _ _ s t w' (HV7.out.on hw) (HU7.out.on hw))
        unfold av at SA RA
        replace SA := Lib.hid SA
        replace RA := Lib.hid RA
        go_wp2_with fail
        refine wp_region_facts 37 [] [] (by kernel_rfl) (by kernel_rfl) (by kernel_rfl) (free_draw w7) ?_
        simp only [List.take_succ_cons, List.take_zero, List.drop_succ_cons, List.drop_zero, List.zipIdx_cons, List.zipIdx_nil, Nat.zero_add, Nat.reduceAdd]
        repeat (show wpF _ _ _ _ _ _ (_ :: _) _ _; first
          | (refine f_skip (fun V => by rfl) ?_; simp only [Act.put, List.setIfInBounds_toArray, List.set_cons_succ, List.set_cons_zero])
            
                | (refine f_load_row (by first | exact cls_free _ | exact cls_row _ _ _ _ | exact cls_fill _ _ _ _ _ | exact cls_butC _ _ | exact cls_butD _ _ _ _ _ _ _) (fun V => by rfl) _ _ rfl _ (fun V => by rfl) _ _ _ (fun w hb => p11.out.on hb) Try.underlying30 rfl (by kernel_rfl) ?_; simp only [Act.put, List.setIfInBounds_toArray, List.set_cons_succ, List.set_cons_zero])
                | (refine f_load_row (by first | exact cls_free _ | exact cls_row _ _ _ _ | exact cls_fill _ _ _ _ _ | exact cls_butC _ _ | exact cls_butD _ _ _ _ _ _ _) (fun V => by rfl) _ _ rfl _ (fun V => by rfl) _ _ _ (fun w hb => p13.out.on hb) Try.underlying30 rfl (by kernel_rfl) ?_; simp only [Act.put, List.setIfInBounds_toArray, List.set_cons_succ, List.set_cons_zero])
                | (refine f_load_row (by first | exact cls_free _ | exact cls_row _ _ _ _ | exact cls_fill _ _ _ _ _ | exact cls_butC _ _ | exact cls_butD _ _ _ _ _ _ _) (fun V => by rfl) _ _ rfl _ (fun V => by rfl) _ _ _ (fun w hb => p8.out.on hb) Try.underlying32 rfl (by kernel_rfl) ?_; simp only [Act.put, List.setIfInBounds_toArray, List.set_cons_succ, List.set_cons_zero])
                | (refine f_load_row (by first | exact cls_free _ | exact cls_row _ _ _ _ | exact cls_fill _ _ _ _ _ | exact cls_butC _ _ | exact cls_butD _ _ _ _ _ _ _) (fun V => by rfl) _ _ rfl _ (fun V => by rfl) _ _ _ (fun w hb => p9.out.on hb) Try.underlying32 rfl (by kernel_rfl) ?_; simp only [Act.put, List.setIfInBounds_toArray, List.set_cons_succ, List.set_cons_zero])
                | (refine f_binop (by first | exact cls_free _ | exact cls_row _ _ _ _ | exact cls_fill _ _ _ _ _ | exact cls_butC _ _ | exact cls_butD _ _ _ _ _ _ _) (fun V => by rfl) _ _ _ _ _ rfl _ _ _ (fun w => run_eql_b _ w) (fun w => guard_b _ _ _ _ _ _ w) (fun V => by rfl) (fun V => by rfl) ?_; simp only [Act.put, List.setIfInBounds_toArray, List.set_cons_succ, List.set_cons_zero])
                | (refine f_call (by first | exact cls_free _ | exact cls_row _ _ _ _ | exact cls_fill _ _ _ _ _ | exact cls_butC _ _ | exact cls_butD _ _ _ _ _ _ _) (fun V => by rfl) 25 _ _ rfl (enters_of Try.func25 rfl rfl) _ _ (fun V w hb hk => SC.out w hb) (fun V => by rfl) ?_; simp only [Act.put, List.setIfInBounds_toArray, List.set_cons_succ, List.set_cons_zero])
                | (refine f_call (by first | exact cls_free _ | exact cls_row _ _ _ _ | exact cls_fill _ _ _ _ _ | exact cls_butC _ _ | exact cls_butD _ _ _ _ _ _ _) (fun V => by rfl) 26 _ _ rfl (enters_of Try.func26 rfl rfl) _ _ (fun V w hb hk => SS.out w hb) (fun V => by rfl) ?_; simp only [Act.put, List.setIfInBounds_toArray, List.set_cons_succ, List.set_cons_zero])
                | (refine f_call (by first | exact cls_free _ | exact cls_row _ _ _ _ | exact cls_fill _ _ _ _ _ | exact cls_butC _ _ | exact cls_butD _ _ _ _ _ _ _) (fun V => by rfl) 13 _ _ rfl (enters_of Try.func13 rfl rfl) _ _ (fun V w hb hk => RS9.out w hb) (fun V => by rfl) ?_; simp only [Act.put, List.setIfInBounds_toArray, List.set_cons_succ, List.set_cons_zero])
                | (refine f_call (by first | exact cls_free _ | exact cls_row _ _ _ _ | exact cls_fill _ _ _ _ _ | exact cls_butC _ _ | exact cls_butD _ _ _ _ _ _ _) (fun V => by rfl) 27 _ _ rfl (enters_of Try.func27 rfl rfl) _ _ (fun V w hb hk => SA.out w hb) (fun V => by rfl) ?_; simp only [Act.put, List.setIfInBounds_toArray, List.set_cons_succ, List.set_cons_zero])
                | (refine f_call (by first | exact cls_free _ | exact cls_row _ _ _ _ | exact cls_fill _ _ _ _ _ | exact cls_butC _ _ | exact cls_butD _ _ _ _ _ _ _) (fun V => by rfl) 14 _ _ rfl (enters_of Try.func14 rfl rfl) _ _ (fun V w hb hk => RA.out w hb) (fun V => by rfl) ?_; simp only [Act.put, List.setIfInBounds_toArray, List.set_cons_succ, List.set_cons_zero])
                | (refine f_call (by first | exact cls_free _ | exact cls_row _ _ _ _ | exact cls_fill _ _ _ _ _ | exact cls_butC _ _ | exact cls_butD _ _ _ _ _ _ _) (fun V => by rfl) 15 _ _ rfl (enters_of Try.func15 rfl rfl) _ _ (fun V w hb hk => RM.out w (HV7.out.on hb)) (fun V => by rfl) ?_; simp only [Act.put, List.setIfInBounds_toArray, List.set_cons_succ, List.set_cons_zero])
                | (refine f_call (by first | exact cls_free _ | exact cls_row _ _ _ _ | exact cls_fill _ _ _ _ _ | exact cls_butC _ _ | exact cls_butD _ _ _ _ _ _ _) (fun V => by rfl) 9 _ _ rfl (enters_of Try.func9 rfl rfl) _ _ (fun V w hb hk => RR.out w (HV7.out.on hb)) (fun V => by rfl) ?_; simp only [Act.put, List.setIfInBounds_toArray, List.set_cons_succ, List.set_cons_zero])
                | (refine f_call (by first | exact cls_free _ | exact cls_row _ _ _ _ | exact cls_fill _ _ _ _ _ | exact cls_butC _ _ | exact cls_butD _ _ _ _ _ _ _) (fun V => by rfl) 10 _ _ rfl (enters_of Try.func10 rfl rfl) _ _ (fun V w hb hk => LV.out w) (fun V => by rfl) ?_; simp only [Act.put, List.setIfInBounds_toArray, List.set_cons_succ, List.set_cons_zero])
          | (refine f_quiet (by first | exact cls_free _ | exact cls_row _ _ _ _ | exact cls_fill _ _ _ _ _ | exact cls_butC _ _ | exact cls_butD _ _ _ _ _ _ _) (fun V => by rfl) (fun V => ⟨_, rfl, by simp⟩) ?_; apply Exists.intro; refine And.intro (fun V w hw K hK => ?_) ?_; ((try simp only [Act.put, List.setIfInBounds_toArray, List.set_cons_succ, List.set_cons_zero] at hK); go_big_quiet_op; exact hK); simp only [Act.put, List.setIfInBounds_toArray, List.set_cons_succ, List.set_cons_zero]))
        refine f_nil ?_
        intro V w' hq2 hkn
        clear hkn
        have B8 := Lib.hid (B7.out.trans (hq2.mono B7.out.size))
        clear hq2
        go_wp2
        go_ret
        exact ⟨rfl, B8.out⟩
end Go.Proofs.Ytejkpjaaefobnaa
