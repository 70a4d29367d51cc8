/- Layer 8: Apply: the program's and the reference's. -/
import Derived.Test.YtafmggipmaofnaaPatchCheck
import Derived.Test.YtafmggipmaofnaaPage
import Derived.Test.YtafmggipmaofnaaPageRef
namespace Go.Proofs.Ytafmggipmaofnaa
set_option maxRecDepth 20000
open Go.RowKit

theorem results_abc {P : Program} {fn : Func} {p q : Tmp} {ty : TypeId} (h : fn.results = #[.cell p ty, .tmp q]) (tmps : Array Value) (w : World) (g : Nat) (t e : TypeId) (n : Nat) (l : List UInt8) (hl : l.length = n)
    (hp : tmps.getD p undef = .pointer (some ⟨g, 0, none⟩)) (hg : Whole w g t (ab l)) (hu : P.underlying ty = some (.array n e)) (hi : (P.info? ty).map (·.size) = some n) (v : Value) (hv : tmps.getD q undef = v) :
    (results fn tmps).run P w = .ok (.tuple #[.agg (ab l), v]) w :=
  results_cell_tmp h tmps w g t (ab l) (0, 0) _ hp hg hu rfl (by rw [ab_size, hl]; exact hi) v hv
set_option maxHeartbeats 4000000 in
theorem apply_any (p0 : List UInt8) (l : List Rn) (vr : Value) (w : World) (hl : p0.length = 512) (hr : RS w vr l) (hs : Sane l) :
    Calls Try.prog 7 #[.agg (ab p0), vr] w fun e w' => e = .returned (.tuple #[.agg (ab (applyR p0 l).1), .int .i64 (applyR p0 l).2]) ∧ Below w.heap.size w w' := by
  have hz := (zero_of_info Try.zinfo24).1
  have hbd : ∀ w, (Instr.build 24 #[]).run Try.prog w = .ok (.agg (ab z512)) w := fun w => run_build w _ _ _ (by kernel_rfl)
  obtain ⟨Al, cl, rfl, l1, l2, _, _⟩ := id hr
  have l3 := hr.bd.2.2
  have HL := Lib.hid hr
  have HS := Lib.hid hs
  have hal := apply_len l p0 hl
  have HG : applyR p0 l = applyR p0 (l.drop 0) := by rw [List.drop_zero]
  generalize applyR p0 l = G at *
  obtain ⟨out, code⟩ := G
  simp only at hal ⊢
  clear hr hs
  go_enter Try.func7, Try.ntmps7
  go_wp2
  have p1 : Whole _ w.heap.size 24 (ab p0) := (Whole.made w 24 (ab p0)).later (.cells (ab z512) 24)
  have p2 := Whole.second w (.cells (ab p0) 24) 24 (ab z512)
  have B2 := two_more (Below.refl w.heap.size w) (.cells (ab p0) 24) (.cells (ab z512) 24)
  generalize (w.alloc (.cells (ab p0) 24)).alloc (.cells (ab z512) 24) = w2 at *
  generalize Value.agg (ab p0) = vp
  go_loopw [10] (fun i wr => ∃ (k : Nat) (p : List UInt8), k ≤ l.length ∧ i = .int .i64 k ∧ p.length = 512 ∧ (out, code) = applyR p (l.drop k) ∧ Whole wr w.heap.size 24 (ab p) ∧ Whole wr (w.heap.size + 1) 24 (ab z512) ∧ Below w.heap.size w wr) (fun i _ => l.length - (intOf i).toNat)
  case atStart => exact ⟨0, p0, by omega, rfl, hl, HG, p1, p2, B2⟩
  case round =>
    obtain ⟨k, p, hk, rfl, hp, hap, hwp, hwr, hB⟩ := hrel
    clear p1 p2 B2 HG
    have hsz := hwr.lt
    by_cases hlt : k < l.length
    · obtain ⟨bl, ol, r, D, rfl, hr, cr1, cr2, cr3⟩ := RS.at HL.out hlt
      replace cr1 := Keeps.below hB _ _ cr1
      replace cr2 := Keeps.below hB _ _ cr2
      have hsr := HS.out r (List.mem_of_getElem? hr)
      have hst := apply_step p hr
      obtain ⟨Ad, cd, rfl, _⟩ := id cr3
      rw [bys_len] at cr2 cr3
      have CR3 := Lib.hid cr3
      clear cr3
      have CW := Lib.hid (fun w' => within8_any r Ad r.d.length cd w' rfl hsr.1 hsr.2)
      unfold rv at CW
      have hB1 := hB.alloc hB.size (.cells #[.int .i64 r.p, .slice Ad r.d.length cd] 56)
      replace hwp := hwp.later (.cells #[.int .i64 r.p, .slice Ad r.d.length cd] 56)
      replace hwr := hwr.later (.cells #[.int .i64 r.p, .slice Ad r.d.length cd] 56)
      cases hw : wthn r with
      | false =>
        rw [hw] at hst CW
        rw [hst] at hap
        simp only [Bool.false_eq_true, if_false, Prod.mk.injEq] at hap
        obtain ⟨rfl, rfl⟩ := hap
        clear hst
        replace hwp := Lib.hid hwp
        replace hwr := Lib.hid hwr
        replace hB1 := Lib.hid hB1
        go_wp2_with (first
          | (go_at_call 24; refine (CW.out _).mono ?_; rintro e w1 ⟨rfl, b1⟩; have B1 := Lib.hid b1; have hwr1 := Lib.hid (hwr.out.on b1); clear b1)
          | ((refine wpList_store_ab rfl _ (.tmp 4) (.tmp 17) rfl (w.heap.size + 1) rfl (z512) rfl _ _ (z512_len) (z512) (z512_len) (hwr1.out) (by kernel_rfl) ?_); intro w4 p4 e4; have b4 := Lib.hid e4; clear e4))
        refine bodyPost_ret (v := .tuple #[.agg (ab z512), .int .i64 2]) ?_ rfl ⟨rfl, by rw [b4.out]; exact below_setRow (hB1.out.trans (B1.out.mono hB1.out.size)) (Nat.le_succ _) _⟩
        exact results_abc rfl _ _ (w.heap.size + 1) _ _ _ z512 z512_len rfl p4.out Try.underlying24 (by kernel_rfl) _ rfl
      | true =>
        have hwi := (wthn_iff r).1 hw
        rw [hw] at hst CW
        rw [hst] at hap
        simp only [if_true] at hap
        have hpn := Lib.hid (show r.p = (r.p.toNat : Int) by omega)
        have hq : r.p.toNat + r.d.length ≤ 512 := by omega
        have hpl : (putAt p r.p.toNat r.d).length = 512 := by rw [putAt_len (by omega), hp]
        have HLn := Lib.hid (show putAt p r.p.toNat r.d = putAt p r.p.toNat (r.d.take (512 - r.p.toNat)) by rw [List.take_of_length_le (by omega)])
        clear hst
        replace hwp := Lib.hid hwp
        replace hwr := Lib.hid hwr
        replace hB1 := Lib.hid hB1
        replace hap := Lib.hid hap
        go_wp2_with (go_at_call 24; refine (CW.out _).mono ?_; rintro e w1 ⟨rfl, b1⟩; have B1 := Lib.hid b1; clear b1)
        have hw7 := (Whole.made wr 56 #[.int .i64 r.p, .slice Ad r.d.length cd]).on B1.out
        have hwp1 := hwp.out.on B1.out
        have hwr1 := hwr.out.on B1.out
        have BB1 := Lib.hid (hB1.out.trans (B1.out.mono hB1.out.size))
        refine wp_region_facts 6 [5] [23] (by kernel_rfl) (by kernel_rfl) (by kernel_rfl) (fill_draw hwp1 (putAt p r.p.toNat r.d)) ?_
        simp only [List.take_succ_cons, List.take_zero, List.drop_succ_cons, List.drop_zero, List.zipIdx_cons, List.zipIdx_nil, Nat.zero_add, Nat.reduceAdd]
        repeat (show wpF _ _ _ _ _ _ (_ :: _) _ _; first
          | (refine f_skip (fun V => by rfl) ?_; simp only [Act.put, List.setIfInBounds_toArray, List.set_cons_succ, List.set_cons_zero])
            
                | (refine f_load_cell (by first | exact cls_free _ | exact cls_row _ _ _ _ | exact cls_fill _ _ _ _ _ | exact cls_butC _ _ | exact cls_butD _ _ _ _ _ _ _) (fun V => by rfl) _ _ rfl _ (fun V => by rfl) _ (fun w hb => ((hw7.but hb.1 (by omega)).cell 0).trans rfl) _ Try.underlying3 rfl ?_; simp only [Act.put, List.setIfInBounds_toArray, List.set_cons_succ, List.set_cons_zero])
                | (refine f_load_cell (by first | exact cls_free _ | exact cls_row _ _ _ _ | exact cls_fill _ _ _ _ _ | exact cls_butC _ _ | exact cls_butD _ _ _ _ _ _ _) (fun V => by rfl) _ _ rfl _ (fun V => by rfl) _ (fun w hb => ((hw7.but hb.1 (by omega)).cell 1).trans rfl) _ Try.underlying32 rfl ?_; simp only [Act.put, List.setIfInBounds_toArray, List.set_cons_succ, List.set_cons_zero])
                | (refine f_cut_arr (by first | exact cls_free _ | exact cls_row _ _ _ _ | exact cls_fill _ _ _ _ _ | exact cls_butC _ _ | exact cls_butD _ _ _ _ _ _ _) (fun V => by rfl) 24 _ _ rfl (w.heap.size) (fun V => by rfl) 5 _ Try.underlying24 (by kernel_rfl) _ _ (r.p.toNat) (fun V => by rfl) (hpn.out) (by omega) ?_; simp only [Act.put, List.setIfInBounds_toArray, List.set_cons_succ, List.set_cons_zero])
                | (refine f_copy_at (fun V => by rfl) (by decide) (by decide) (.tmp 20) (.tmp 22) 32 32 rfl 5 Try.underlying32 (by kernel_rfl) _ (r.p.toNat) (512 - r.p.toNat) _ (fun V => by rfl) _ (fun V => by rfl) (r.d) (hp) (by omega) (HLn.out) (fun V w hb hk => CR3.out.keep (Keeps.below (But.below BB1.out hb.1 (Nat.le_refl _) BB1.out.size))) ?_; simp only [Act.put, List.setIfInBounds_toArray, List.set_cons_succ, List.set_cons_zero, keyOf, Option.getD_some])
          | (refine f_quiet (by first | exact cls_free _ | exact cls_row _ _ _ _ | exact cls_fill _ _ _ _ _ | exact cls_butC _ _ | exact cls_butD _ _ _ _ _ _ _) (fun V => by rfl) (fun V => ⟨_, rfl, by simp⟩) ?_; apply Exists.intro; refine And.intro (fun V w hw K hK => ?_) ?_; ((try simp only [Act.put, List.setIfInBounds_toArray, List.set_cons_succ, List.set_cons_zero] at hK); go_big_quiet_op; exact hK); simp only [Act.put, List.setIfInBounds_toArray, List.set_cons_succ, List.set_cons_zero]))
        refine f_nil ?_
        intro V w3 hq3 hkn
        have hwr3 := all_slot hkn 23 rfl
        simp only at hwr3
        have B3 := But.below BB1.out hq3.1 (Nat.le_refl _) BB1.out.size
        have p3 := hwr1.but hq3.1 (by omega)
        clear hkn hq3
        go_wp2
        go_roundw
        case rel => exact ⟨k + 1, _, by omega, by go_num, hpl, hap.out, hwr3, p3, B3⟩
        case measure => simp [intOf]; omega
    · obtain rfl : k = l.length := by omega
      rw [List.drop_length] at hap
      simp only [applyR, Prod.mk.injEq] at hap
      obtain ⟨rfl, rfl⟩ := hap
      replace hwp := Lib.hid hwp
      replace hwr := Lib.hid hwr
      replace hB := Lib.hid hB
      go_wp2_with (first
        | ((refine wpList_load_ab rfl _ (.tmp 2) rfl (w.heap.size) rfl _ _ _ (out) (hal) (hwp.out) Try.underlying24 (by kernel_rfl) ?_))
        | ((refine wpList_store_ab rfl _ (.tmp 4) (.tmp 25) rfl (w.heap.size + 1) rfl (out) rfl _ _ (hal) (z512) (z512_len) (hwr.out) (by kernel_rfl) ?_); intro w4 p4 e4; have b4 := Lib.hid e4; clear e4))
      refine bodyPost_ret (v := .tuple #[.agg (ab out), .int .i64 0]) ?_ rfl ⟨rfl, by rw [b4.out]; exact below_setRow hB.out (Nat.le_succ _) _⟩
      exact results_abc rfl _ _ (w.heap.size + 1) _ _ _ out hal rfl p4.out Try.underlying24 (by kernel_rfl) _ rfl
end Go.Proofs.Ytafmggipmaofnaa
