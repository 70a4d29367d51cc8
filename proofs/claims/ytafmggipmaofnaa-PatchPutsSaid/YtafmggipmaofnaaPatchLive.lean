/- Layer 8: the page's example; the reference's Apply. -/
import Derived.Test.YtafmggipmaofnaaPatchDiff
import Derived.Test.YtafmggipmaofnaaPatchApply
namespace Go.Proofs.Ytafmggipmaofnaa
set_option maxRecDepth 20000
open Go.RowKit

set_option maxHeartbeats 2000000 in
theorem refApply_any (p0 : List UInt8) (l : List Rn) (vp vr : Value) (w : World) (hl : p0.length = 512) (hp : SV w vp (bys p0)) (hr : RS w vr l) (hs : Sane l) :
    Calls Try.prog 15 #[vp, vr] w fun e w' => ∃ v, e = .returned (.tuple #[v, .int .i64 (applyR p0 l).2]) ∧ SV w' v (bys (applyR p0 l).1) ∧ Below w.heap.size w w' := by
  obtain ⟨Al, cl, rfl, l1, l2, _, _⟩ := id hr
  have l3 := hr.bd.2.2
  have HL := Lib.hid hr
  have HS := Lib.hid hs
  have HG : applyR p0 l = applyR p0 (l.drop 0) := by rw [List.drop_zero]
  generalize applyR p0 l = G at *
  obtain ⟨out, code⟩ := G
  have hp0 := hp
  clear hr hs
  go_enter Try.func15, Try.ntmps15
  go_wp2
  go_loopw [0, 6] (fun v i wr => ∃ (k : Nat) (p : List UInt8), k ≤ l.length ∧ i = .int .i64 k ∧ p.length = 512 ∧ (out, code) = applyR p (l.drop k) ∧ SV wr v (bys p) ∧ Below w.heap.size w wr) (fun _ i _ => l.length - (intOf i).toNat)
  case atStart => exact ⟨0, p0, by omega, rfl, hl, HG, hp0, Below.refl _ _⟩
  case round =>
    obtain ⟨k, p, hk, rfl, hpl, hap, hsv, hB⟩ := hrel
    clear hp hp0 HG
    by_cases hlt : k < l.length
    · obtain ⟨bl, ol, r, D, rfl, hr, cr1, cr2, cr3⟩ := RS.at HL.out hlt
      replace cr1 := Keeps.below hB _ _ cr1
      replace cr2 := Keeps.below hB _ _ cr2
      have hsr := HS.out r (List.mem_of_getElem? hr)
      have hst := apply_step p hr
      obtain ⟨Ad, cd, rfl, _⟩ := id cr3
      rw [bys_len] at cr2 cr3
      have CR3 := Lib.hid (cr3.keep (Keeps.below hB))
      clear cr3
      have CW := Lib.hid (fun w' => rwithin8_any r Ad r.d.length cd w' rfl hsr.1 hsr.2)
      unfold rv at CW
      cases hw : wthn r with
      | false =>
        rw [hw] at hst CW
        rw [hst] at hap
        simp only [Bool.false_eq_true, if_false, Prod.mk.injEq] at hap
        obtain ⟨rfl, rfl⟩ := hap
        clear hst
        replace hB := Lib.hid hB
        go_wp2_with (first
          | (go_at_call 26; refine (CW.out _).mono ?_; rintro e w1 ⟨rfl, b1⟩; have B1 := Lib.hid b1; clear b1)
          | (go_at_call 27; refine (rzeros_any 512 _ (by omega)).mono ?_; rintro e w4 ⟨v4, rfl, o4, b4⟩; have O4 := Lib.hid o4; have B4 := Lib.hid b4; clear o4 b4))
        go_ret2
        exact ⟨_, rfl, O4.out.sv, hB.out.trans ((bthen B1.out B4.out).mono hB.out.size)⟩
      | true =>
        have hwi := (wthn_iff r).1 hw
        rw [hw] at hst CW
        rw [hst] at hap
        simp only [if_true] at hap
        have hq : r.p.toNat + r.d.length ≤ 512 := by omega
        have hpl2 : (putAt p r.p.toNat r.d).length = 512 := by rw [putAt_len (by omega), hpl]
        clear hst
        replace hB := Lib.hid hB
        replace hap := Lib.hid hap
        replace hsv := Lib.hid hsv
        go_wp2_with (go_at_call 26; refine (CW.out _).mono ?_; rintro e w1 ⟨rfl, b1⟩; have B1 := Lib.hid b1; clear b1)
        have hsv1 := Lib.hid (hsv.out.keep (Keeps.below B1.out))
        have CP : ∀ w', Below w1.heap.size w1 w' → Calls Try.prog 28 #[u0, .int .i64 r.p, .slice Ad r.d.length cd] w' fun e w'' => ∃ v, e = .returned v ∧ fSV (bys (putAt p r.p.toNat r.d)) v w'' ∧ Below w'.heap.size w' w'' := fun w' h => by
          have := rput_any u0 (.slice Ad r.d.length cd) p r.d r.p.toNat w' (by omega) (hsv1.out.keep (Keeps.below h)) ((CR3.out.keep (Keeps.below B1.out)).keep (Keeps.below h)) (by omega)
          rw [show ((r.p.toNat : Nat) : Int) = r.p by omega] at this
          exact this.mono fun e w'' ⟨v, h1, h2, h3⟩ => ⟨v, h1, h2.sv, h3⟩
        replace cr1 := Keeps.below B1.out _ _ cr1
        replace cr2 := Keeps.below B1.out _ _ cr2
        refine wp_region_facts 12 [] [31] (by kernel_rfl) (by kernel_rfl) (by kernel_rfl) (free_draw w1) ?_
        simp only [List.take_succ_cons, List.take_zero, List.drop_succ_cons, List.drop_zero, List.zipIdx_cons, List.zipIdx_nil, Nat.zero_add, Nat.reduceAdd]
        repeat (show wpF _ _ _ _ _ _ (_ :: _) _ _; first
          | (refine f_skip (fun V => by rfl) ?_; simp only [Act.put, List.setIfInBounds_toArray, List.set_cons_succ, List.set_cons_zero])
            
                | (refine f_ix_sl (by first | exact cls_free _ | exact cls_row _ _ _ _ | exact cls_fill _ _ _ _ _ | exact cls_butC _ _ | exact cls_butD _ _ _ _ _ _ _) (fun V => by rfl) 25 (.tmp 21) _ rfl _ _ _ _ (fun V => by rfl) 56 _ (k) _ _ (fun V => by rfl) Try.underlying25 (by kernel_rfl) (by omega) (by omega) ?_; simp only [Act.put, List.setIfInBounds_toArray, List.set_cons_succ, List.set_cons_zero])
                | (refine f_ix_sl (by first | exact cls_free _ | exact cls_row _ _ _ _ | exact cls_fill _ _ _ _ _ | exact cls_butC _ _ | exact cls_butD _ _ _ _ _ _ _) (fun V => by rfl) 25 (.tmp 26) _ rfl _ _ _ _ (fun V => by rfl) 56 _ (k) _ _ (fun V => by rfl) Try.underlying25 (by kernel_rfl) (by omega) (by omega) ?_; simp only [Act.put, List.setIfInBounds_toArray, List.set_cons_succ, List.set_cons_zero])
                | (refine f_load_cell (by first | exact cls_free _ | exact cls_row _ _ _ _ | exact cls_fill _ _ _ _ _ | exact cls_butC _ _ | exact cls_butD _ _ _ _ _ _ _) (fun V => by rfl) _ _ rfl _ (fun V => by rfl) _ (fun w hb => (Keeps.below hb) _ _ cr1) _ Try.underlying3 rfl ?_; simp only [Act.put, List.setIfInBounds_toArray, List.set_cons_succ, List.set_cons_zero])
                | (refine f_load_cell (by first | exact cls_free _ | exact cls_row _ _ _ _ | exact cls_fill _ _ _ _ _ | exact cls_butC _ _ | exact cls_butD _ _ _ _ _ _ _) (fun V => by rfl) _ _ rfl _ (fun V => by rfl) _ (fun w hb => (Keeps.below hb) _ _ cr2) _ Try.underlying32 rfl ?_; simp only [Act.put, List.setIfInBounds_toArray, List.set_cons_succ, List.set_cons_zero])
                | (refine f_callF (by first | exact cls_free _ | exact cls_row _ _ _ _ | exact cls_fill _ _ _ _ _ | exact cls_butC _ _ | exact cls_butD _ _ _ _ _ _ _) (fSV (bys (putAt p r.p.toNat r.d))) (stays_sv _) (fun V => by rfl) (by decide) 28 _ _ rfl (enters_of Try.func28 rfl rfl) _ (fun V w hb hk => CP w hb) (fun V => by rfl) ?_; simp only [Act.put, List.setIfInBounds_toArray, List.set_cons_succ, List.set_cons_zero, keyOf, Option.getD_some])
          | (refine f_quiet (by first | exact cls_free _ | exact cls_row _ _ _ _ | exact cls_fill _ _ _ _ _ | exact cls_butC _ _ | exact cls_butD _ _ _ _ _ _ _) (fun V => by rfl) (fun V => ⟨_, rfl, by simp⟩) ?_; apply Exists.intro; refine And.intro (fun V w hw K hK => ?_) ?_; ((try simp only [Act.put, List.setIfInBounds_toArray, List.set_cons_succ, List.set_cons_zero] at hK); go_big_quiet_op; exact hK); simp only [Act.put, List.setIfInBounds_toArray, List.set_cons_succ, List.set_cons_zero]))
        refine f_nil ?_
        intro V w3 hq3 hkn
        have hsv3 : fSV (bys (putAt p r.p.toNat r.d)) (V 11) w3 := all_slot hkn 31 rfl
        have B3 := Lib.hid (hB.out.trans ((bthen B1.out hq3).mono hB.out.size))
        clear hkn hq3 CP
        go_wp2
        go_roundw
        case rel => exact ⟨k + 1, _, by omega, by go_num, hpl2, hap.out, hsv3, B3.out⟩
        case measure => simp [intOf]; omega
    · obtain rfl : k = l.length := by omega
      rw [List.drop_length] at hap
      simp only [applyR, Prod.mk.injEq] at hap
      obtain ⟨rfl, rfl⟩ := hap
      go_wp2
      go_ret2
      exact ⟨_, rfl, hsv, hB⟩
/-! The page's example -/
theorem ab_set (l : List UInt8) (i : Nat) (b : UInt8) : (ab l).setIfInBounds i (.int .u8 b.toNat) = ab (l.set i b) := by
  simp [ab, bys, List.map_set]
/-- A byte of an array is written. -/
theorem wpList_store_at {P : Program} {ops : Array Oper} {rest : List Oper} {o : Oper} {a : Act} {w : World} {Q : Exit → Act → World → Prop} (hgd : o.guard = none) (ty : TypeId) (x y : Operand) (ho : o.op = .store ty x y)
    (g i : Nat) (hx : a.eval x = .pointer (some ⟨g, i, none⟩)) (b : UInt8) (hy : a.eval y = .int .u8 b.toNat) (t : TypeId) (l : List UInt8) (hi : i < l.length) (hg : Whole w g t (ab l)) (hs : (P.info? ty).map (·.size) = some 1)
    (h : ∀ w', Hid (Whole w' g t (ab (l.set i b))) → Hid (But g w w') → wpList P ops Q rest (a.put o.dst undef) w') : wpList P ops Q (o :: rest) a w :=
  wpList_plain hgd fun K hK => by
    have hc : w.cell? ⟨g, i, none⟩ = some (.int .u8 l[i].toNat) := (hg.cell i).trans (ab_get l i hi)
    have hf := hg.free i
    have hw : Whole (w.setCell ⟨g, i, none⟩ (.int .u8 b.toNat)) g t (ab (l.set i b)) := by
      have := hg.put i (.int .u8 b.toNat)
      rwa [ab_set] at this
    have h2 := hK _ _ (h _ (Lib.hid hw) (Lib.hid (But.set g w i (.int .u8 b.toNat))))
    cases hq : P.info? ty with
    | none => simp [hq] at hs
    | some inf =>
      have hs' : inf.size = 1 := by simpa [hq] using hs
      have h3 : (sizeOf ty).run P w = .ok 1 w := by simp [sizeOf, typeInfo, hq, hs']
      have h4 : (storeCells ⟨g, i, none⟩ [Value.int .u8 b.toNat]).run P w = .ok () (w.setCell ⟨g, i, none⟩ (.int .u8 b.toNat)) := by
        simp [storeCells, run_store P w ⟨g, i, none⟩ (.int .u8 b.toNat) .plain rfl, hc, hf, Addr.add]
      unfold Oper.wp execOp
      simp only [ho, hx, hy, Instr.storeAt, Instr.sureAddr, Sem.run_bind, Sem.run_pure, Result.andThen_ok, storeVar, h3, Value.cells, List.size_toArray, List.length_cons, List.length_nil, Nat.zero_add, ne_eq, not_true_eq_false, if_false, h4]
      exact h2
theorem live_runs : ∃ q : List UInt8, q = (((page0 1).set 40 1).set 45 2).set 51 3 ∧ q.length = 512 ∧ ∃ r s : Rn, diffR (page0 1) q = [r, s] ∧ r.p = 40 ∧ r.d.length = 6 ∧ s.p = 51 := by
  have hp := page0_len 1
  refine ⟨_, rfl, by simp [hp], ?_⟩
  have h0 : (page0 1)[40]? = some 0 ∧ (page0 1)[45]? = some 0 ∧ (page0 1)[51]? = some 0 := by decide +kernel
  obtain ⟨h1, h2, h3⟩ := h0
  generalize page0 1 = p at *
  have hu : ∀ i, unlike p (((p.set 40 1).set 45 2).set 51 3) i = decide (i = 40 ∨ i = 45 ∨ i = 51) := by
    intro i
    unfold unlike
    apply decide_eq_decide.2
    rw [List.getElem?_set, List.getElem?_set, List.getElem?_set]
    simp only [List.length_set, hp]
    by_cases e1 : 51 = i
    · subst e1; simp [h3]
    · by_cases e2 : 45 = i
      · subst e2; simp [h2]
      · by_cases e3 : 40 = i
        · subst e3; simp [h1]
        · simp [e1, e2, e3]
          omega
  have hun : unlTo p (((p.set 40 1).set 45 2).set 51 3) 512 = [40, 45, 51] := by
    unfold unlTo
    rw [List.filter_congr (fun i _ => hu i)]
    decide +kernel
  have hd : dif [40, 45, 51] = [(51, 52), (40, 46)] := by decide +kernel
  refine ⟨⟨(40 : Nat), midL (((p.set 40 1).set 45 2).set 51 3) 40 6⟩, ⟨(51 : Nat), midL (((p.set 40 1).set 45 2).set 51 3) 51 1⟩, ?_, rfl, mid_len (by simp [hp]), rfl⟩
  unfold diffR
  rw [hun, hd]
  rfl

set_option maxHeartbeats 2000000 in
theorem live8_any (w : World) : Calls Try.prog 13 #[] w fun e w' => e = .returned (.bool true) ∧ Below w.heap.size w w' := by
  have hz := (zero_of_info Try.zinfo24).1
  have PN := Lib.hid (fun w => pnew_any 1 w)
  have hp := page0_len 1
  obtain ⟨q, hq, hql, r, s, hd, r1, r2, s1⟩ := live_runs
  have DF := Lib.hid (fun w => diff_any (page0 1) q hp hql w)
  rw [hd] at DF
  have HQ := Lib.hid hq
  clear hd hq
  generalize page0 1 = p at *
  go_enter Try.func13, Try.ntmps13
  go_wp2_with fail
  refine (PN.out _).mono ?_
  rintro e w1 ⟨rfl, b1⟩
  have B1 := Lib.hid b1
  clear b1
  go_wp2_with (first
    | ((refine wpList_store_ab rfl _ (.tmp 1) (.tmp 4) rfl (w1.heap.size) rfl (p) rfl _ _ (hp) (z512) (z512_len) (Whole.made w1 _ _) (by kernel_rfl) ?_); intro w2 p2 e2; rw [World.setRow_alloc_new] at e2; have E2 := Lib.hid e2; clear e2)
    | ((refine wpList_store_ab rfl _ (.tmp 2) (.tmp 5) rfl (w2.heap.size) rfl (p) rfl _ _ (hp) (z512) (z512_len) (Whole.made w2 _ _) (by kernel_rfl) ?_); intro w3 p3 e3; rw [World.setRow_alloc_new] at e3; have E3 := Lib.hid e3; clear e3)
    | (refine wpList_store_at rfl _ (.tmp 6) _ rfl w2.heap.size 40 rfl 1 rfl _ p (by omega) p3.out (by kernel_rfl) ?_; intro w4 p4 d4)
    | (refine wpList_store_at rfl _ (.tmp 7) _ rfl w2.heap.size 45 rfl 2 rfl _ (p.set 40 1) (by simp; omega) p4.out (by kernel_rfl) ?_; intro w5 p5 d5)
    | (refine wpList_store_at rfl _ (.tmp 8) _ rfl w2.heap.size 51 rfl 3 rfl _ ((p.set 40 1).set 45 2) (by simp; omega) p5.out (by kernel_rfl) ?_; intro w6 p6 d6; have hn := p2.out.lt; have q1 : Hid (Whole w6 w2.heap.size 24 (ab q)) := Lib.hid (by rw [HQ.out]; exact p6.out); have q2 : Hid (Whole w6 w1.heap.size 24 (ab p)) := Lib.hid ((((show Whole w3 w1.heap.size 24 (ab p) by rw [E3.out]; exact p2.out.later _).but d4.out (by omega)).but d5.out (by omega)).but d6.out (by omega)))
    | ((refine wpList_load_ab rfl _ (.tmp 1) rfl (w1.heap.size) rfl _ _ _ (p) (hp) (q2.out) Try.underlying24 (by kernel_rfl) ?_))
    | ((refine wpList_load_ab rfl _ (.tmp 1) rfl (w1.heap.size) rfl _ _ _ (p) (hp) (p2.out) Try.underlying24 (by kernel_rfl) ?_))
    | ((refine wpList_load_ab rfl _ (.tmp 2) rfl (w2.heap.size) rfl _ _ _ (q) (hql) (q1.out) Try.underlying24 (by kernel_rfl) ?_))
    | fail)
  have BQ : Hid (Below w.heap.size w w6) := Lib.hid (by
    have h1 : Below w.heap.size w w2 := by rw [E2.out]; exact B1.out.alloc B1.out.size _
    have h2 : Below w.heap.size w w3 := by rw [E3.out]; exact h1.alloc h1.size _
    exact But.below (But.below (But.below h2 d4.out h1.size h2.size) d5.out h1.size (Nat.le_trans h2.size d4.out.size)) d6.out h1.size (Nat.le_trans (Nat.le_trans h2.size d4.out.size) d5.out.size))
  refine (DF.out _).mono ?_
  rintro e w5 ⟨v, rfl, hrs, b5⟩
  have B5 := Lib.hid (BQ.out.trans (b5.mono BQ.out.size))
  clear b5
  obtain ⟨A, c, rfl, g1, g2, _, _⟩ := id hrs
  obtain ⟨b0, o0, r', D, rfl, hr', c1, c2, c3⟩ := hrs.at (k := 0) (by simp)
  obtain ⟨b1, o1, s', E, e1, hs', k1, k2, k3⟩ := hrs.at (k := 1) (by simp)
  simp only [List.getElem?_cons_zero, List.getElem?_cons_succ, Option.some.injEq] at hr' hs'
  subst hr' hs'
  injection e1 with e1
  injection e1 with e1 e2
  subst e1 e2
  obtain ⟨Ad, cd, rfl, _⟩ := c3
  rw [bys_len, r2] at c2
  rw [r1] at c1
  rw [s1] at k1
  simp only [Nat.zero_mul, Nat.one_mul, Nat.add_zero] at c1 c2 k1
  clear DF PN HQ hrs
  go_wp2
  go_ret
  exact ⟨rfl, B5.out⟩
end Go.Proofs.Ytafmggipmaofnaa
