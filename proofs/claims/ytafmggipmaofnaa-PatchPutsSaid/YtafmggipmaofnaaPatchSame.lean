/- Layer 8: two lists of runs, the same ones? the reference's and the program's; more than is asked? -/
import Derived.Test.YtafmggipmaofnaaPatch
import Derived.Test.YtafmggipmaofnaaCell
import Derived.Test.YtafmggipmaofnaaBeRef
namespace Go.Proofs.Ytafmggipmaofnaa
set_option maxRecDepth 20000
open Go.RowKit

theorem take_more {α : Type} {l m : List α} {k : Nat} {x y : α} (h : l.take k = m.take k) (hl : l[k]? = some x) (hm : m[k]? = some y) (e : x = y) : l.take (k + 1) = m.take (k + 1) := by
  rw [List.take_add_one, List.take_add_one, h, hl, hm, e]
theorem take_ne {α : Type} {l m : List α} {k : Nat} {x y : α} (hl : l[k]? = some x) (hm : m[k]? = some y) (e : x ≠ y) : l ≠ m := by
  rintro rfl
  rw [hl] at hm
  exact e (by injection hm)
theorem rn_ne_p {r s : Rn} (h : r.p ≠ s.p) : r ≠ s := fun e => h (by rw [e])
theorem rn_ne_d {r s : Rn} (h : r.d ≠ s.d) : r ≠ s := fun e => h (by rw [e])
theorem rn_eq {r s : Rn} (h : r.p = s.p) (k : r.d = s.d) : r = s := by cases r; cases s; simp at h k; subst h k; rfl

set_option maxHeartbeats 2000000 in
/-- The reference's SameRuns. -/
theorem sameRuns_any (vl vm : Value) (l m : List Rn) (w : World) (hl : RS w vl l) (hm : RS w vm m) :
    Calls Try.prog 8 #[vl, vm] w fun e w' => e = .returned (.bool (decide (l = m))) ∧ Below w.heap.size w w' := by
  obtain ⟨Al, cl, rfl, l1, l2, _, _⟩ := id hl
  obtain ⟨Am, cm, rfl, m1, m2, _, _⟩ := id hm
  have l3 := hl.bd.2.2
  have m3 := hm.bd.2.2
  by_cases hlen : l.length = m.length
  · have HL := Lib.hid hl
    have HM := Lib.hid hm
    have hne : ((l.length : Int) != (m.length : Int)) = false := by simp [hlen]
    clear hl hm
    go_enter Try.func8, Try.ntmps8
    go_wp2_with (show wpList _ _ _ (Oper.mk _ (.binOp .neq _ (.tmp 7) (.tmp 9) _) _ _ _ _ :: _) _ _; refine wpList_bin rfl .neq 3 _ (.tmp 7) (.tmp 9) rfl _ _ (.bool false) rfl rfl (run_neq_i _ _ _ _ false (hne) _) (guard_neq_i _ _ _ _ _ _ _) ?_)
    go_loopw [5] (fun i wr => ∃ k : Nat, k ≤ l.length ∧ i = .int .i64 k ∧ l.take k = m.take k ∧ Below w.heap.size w wr) (fun i _ => l.length - (intOf i).toNat)
    case atStart => exact ⟨0, by omega, rfl, by simp, Below.refl _ _⟩
    case round =>
      obtain ⟨k, hk, rfl, htk, hB⟩ := hrel
      by_cases hlt : k < l.length
      · obtain ⟨bl, ol, r, D, rfl, hr, cr1, cr2, cr3⟩ := RS.at (HL.out.keep (Keeps.below hB)) hlt
        obtain ⟨bm, om, s, E, rfl, hs, cs1, cs2, cs3⟩ := RS.at (HM.out.keep (Keeps.below hB)) (k := k) (by omega)
        by_cases hp : r.p = s.p
        · have hpe : (r.p != s.p) = false := by simp [hp]
          by_cases hd : r.d = s.d
          · have hdd : (r.d == s.d) = true := by simp [hd]
            go_wp2_with fail
            refine wp_region_facts 25 [] [] (by kernel_rfl) (by kernel_rfl) (by kernel_rfl) (free_draw wr) ?_
            simp only [List.take_succ_cons, List.take_zero, List.drop_succ_cons, List.drop_zero, List.zipIdx_cons, List.zipIdx_nil, Nat.zero_add, Nat.reduceAdd]
            repeat (show wpF _ _ _ _ _ _ (_ :: _) _ _; first
              | (refine f_skip (fun V => by rfl) ?_; simp only [Act.put, List.setIfInBounds_toArray, List.set_cons_succ, List.set_cons_zero])
                
                        | (refine f_ix_sl (by first | exact cls_free _ | exact cls_row _ _ _ _ | exact cls_fill _ _ _ _ _ | exact cls_butC _ _ | exact cls_butD _ _ _ _ _ _ _) (fun V => by rfl) 25 (.tmp 17) _ rfl _ _ _ _ (fun V => by rfl) 56 _ (k) _ _ (fun V => by rfl) Try.underlying25 (by kernel_rfl) (by omega) (by omega) ?_; simp only [Act.put, List.setIfInBounds_toArray, List.set_cons_succ, List.set_cons_zero])
                        | (refine f_ix_sl (by first | exact cls_free _ | exact cls_row _ _ _ _ | exact cls_fill _ _ _ _ _ | exact cls_butC _ _ | exact cls_butD _ _ _ _ _ _ _) (fun V => by rfl) 25 (.tmp 22) _ rfl _ _ _ _ (fun V => by rfl) 56 _ (k) _ _ (fun V => by rfl) Try.underlying25 (by kernel_rfl) (by omega) (by omega) ?_; simp only [Act.put, List.setIfInBounds_toArray, List.set_cons_succ, List.set_cons_zero])
                        | (refine f_ix_sl (by first | exact cls_free _ | exact cls_row _ _ _ _ | exact cls_fill _ _ _ _ _ | exact cls_butC _ _ | exact cls_butD _ _ _ _ _ _ _) (fun V => by rfl) 25 (.tmp 29) _ rfl _ _ _ _ (fun V => by rfl) 56 _ (k) _ _ (fun V => by rfl) Try.underlying25 (by kernel_rfl) (by omega) (by omega) ?_; simp only [Act.put, List.setIfInBounds_toArray, List.set_cons_succ, List.set_cons_zero])
                        | (refine f_ix_sl (by first | exact cls_free _ | exact cls_row _ _ _ _ | exact cls_fill _ _ _ _ _ | exact cls_butC _ _ | exact cls_butD _ _ _ _ _ _ _) (fun V => by rfl) 25 (.tmp 34) _ rfl _ _ _ _ (fun V => by rfl) 56 _ (k) _ _ (fun V => by rfl) Try.underlying25 (by kernel_rfl) (by omega) (by omega) ?_; simp only [Act.put, List.setIfInBounds_toArray, List.set_cons_succ, List.set_cons_zero])
                        | (refine f_load_cell (by first | exact cls_free _ | exact cls_row _ _ _ _ | exact cls_fill _ _ _ _ _ | exact cls_butC _ _ | exact cls_butD _ _ _ _ _ _ _) (fun V => by rfl) _ _ rfl _ (fun V => by rfl) _ (fun w hb => (Keeps.below hb) _ _ cr1) _ Try.underlying3 rfl ?_; simp only [Act.put, List.setIfInBounds_toArray, List.set_cons_succ, List.set_cons_zero])
                        | (refine f_load_cell (by first | exact cls_free _ | exact cls_row _ _ _ _ | exact cls_fill _ _ _ _ _ | exact cls_butC _ _ | exact cls_butD _ _ _ _ _ _ _) (fun V => by rfl) _ _ rfl _ (fun V => by rfl) _ (fun w hb => (Keeps.below hb) _ _ cs1) _ Try.underlying3 rfl ?_; simp only [Act.put, List.setIfInBounds_toArray, List.set_cons_succ, List.set_cons_zero])
                        | (refine f_load_cell (by first | exact cls_free _ | exact cls_row _ _ _ _ | exact cls_fill _ _ _ _ _ | exact cls_butC _ _ | exact cls_butD _ _ _ _ _ _ _) (fun V => by rfl) _ _ rfl _ (fun V => by rfl) _ (fun w hb => (Keeps.below hb) _ _ cr2) _ Try.underlying32 rfl ?_; simp only [Act.put, List.setIfInBounds_toArray, List.set_cons_succ, List.set_cons_zero])
                        | (refine f_load_cell (by first | exact cls_free _ | exact cls_row _ _ _ _ | exact cls_fill _ _ _ _ _ | exact cls_butC _ _ | exact cls_butD _ _ _ _ _ _ _) (fun V => by rfl) _ _ rfl _ (fun V => by rfl) _ (fun w hb => (Keeps.below hb) _ _ cs2) _ Try.underlying32 rfl ?_; simp only [Act.put, List.setIfInBounds_toArray, List.set_cons_succ, List.set_cons_zero])
                        | (refine f_binop (by first | exact cls_free _ | exact cls_row _ _ _ _ | exact cls_fill _ _ _ _ _ | exact cls_butC _ _ | exact cls_butD _ _ _ _ _ _ _) (fun V => by rfl) _ _ _ _ _ rfl _ _ _ (fun w => run_neq_i _ _ _ _ false (hpe) w) (fun w => guard_neq_i _ _ _ _ _ _ w) (fun V => by rfl) (fun V => by rfl) ?_; simp only [Act.put, List.setIfInBounds_toArray, List.set_cons_succ, List.set_cons_zero])
                        | (refine f_call (by first | exact cls_free _ | exact cls_row _ _ _ _ | exact cls_fill _ _ _ _ _ | exact cls_butC _ _ | exact cls_butD _ _ _ _ _ _ _) (fun V => by rfl) 11 _ _ rfl (enters_of Try.func11 rfl rfl) _ _ (fun V w hb hk => (same_any D E r.d s.d w (cr3.keep (Keeps.below hb)) (cs3.keep (Keeps.below hb))).mono fun e w1 ⟨h1, h2⟩ => ⟨by rw [h1, hdd], h2 ▸ Below.refl _ _⟩) (fun V => by rfl) ?_; simp only [Act.put, List.setIfInBounds_toArray, List.set_cons_succ, List.set_cons_zero])
              | (refine f_quiet (by first | exact cls_free _ | exact cls_row _ _ _ _ | exact cls_fill _ _ _ _ _ | exact cls_butC _ _ | exact cls_butD _ _ _ _ _ _ _) (fun V => by rfl) (fun V => ⟨_, rfl, by simp⟩) ?_; apply Exists.intro; refine And.intro (fun V w hw K hK => ?_) ?_; ((try simp only [Act.put, List.setIfInBounds_toArray, List.set_cons_succ, List.set_cons_zero] at hK); go_big_quiet_op; exact hK); simp only [Act.put, List.setIfInBounds_toArray, List.set_cons_succ, List.set_cons_zero]))
            refine f_nil ?_
            intro V w' hq hkn
            go_wp2
            go_roundw
            case rel => exact ⟨k + 1, by omega, by go_num, take_more htk hr hs (rn_eq hp hd), hB.trans (hq.mono hB.size)⟩
            case measure => simp [intOf]; omega
          · have hdd : (r.d == s.d) = false := by simp [hd]
            have hno : decide (l = m) = false := decide_eq_false (take_ne hr hs (rn_ne_d hd))
            go_wp2_with fail
            refine wp_region_facts 25 [] [] (by kernel_rfl) (by kernel_rfl) (by kernel_rfl) (free_draw wr) ?_
            simp only [List.take_succ_cons, List.take_zero, List.drop_succ_cons, List.drop_zero, List.zipIdx_cons, List.zipIdx_nil, Nat.zero_add, Nat.reduceAdd]
            repeat (show wpF _ _ _ _ _ _ (_ :: _) _ _; first
              | (refine f_skip (fun V => by rfl) ?_; simp only [Act.put, List.setIfInBounds_toArray, List.set_cons_succ, List.set_cons_zero])
                
                        | (refine f_ix_sl (by first | exact cls_free _ | exact cls_row _ _ _ _ | exact cls_fill _ _ _ _ _ | exact cls_butC _ _ | exact cls_butD _ _ _ _ _ _ _) (fun V => by rfl) 25 (.tmp 17) _ rfl _ _ _ _ (fun V => by rfl) 56 _ (k) _ _ (fun V => by rfl) Try.underlying25 (by kernel_rfl) (by omega) (by omega) ?_; simp only [Act.put, List.setIfInBounds_toArray, List.set_cons_succ, List.set_cons_zero])
                        | (refine f_ix_sl (by first | exact cls_free _ | exact cls_row _ _ _ _ | exact cls_fill _ _ _ _ _ | exact cls_butC _ _ | exact cls_butD _ _ _ _ _ _ _) (fun V => by rfl) 25 (.tmp 22) _ rfl _ _ _ _ (fun V => by rfl) 56 _ (k) _ _ (fun V => by rfl) Try.underlying25 (by kernel_rfl) (by omega) (by omega) ?_; simp only [Act.put, List.setIfInBounds_toArray, List.set_cons_succ, List.set_cons_zero])
                        | (refine f_ix_sl (by first | exact cls_free _ | exact cls_row _ _ _ _ | exact cls_fill _ _ _ _ _ | exact cls_butC _ _ | exact cls_butD _ _ _ _ _ _ _) (fun V => by rfl) 25 (.tmp 29) _ rfl _ _ _ _ (fun V => by rfl) 56 _ (k) _ _ (fun V => by rfl) Try.underlying25 (by kernel_rfl) (by omega) (by omega) ?_; simp only [Act.put, List.setIfInBounds_toArray, List.set_cons_succ, List.set_cons_zero])
                        | (refine f_ix_sl (by first | exact cls_free _ | exact cls_row _ _ _ _ | exact cls_fill _ _ _ _ _ | exact cls_butC _ _ | exact cls_butD _ _ _ _ _ _ _) (fun V => by rfl) 25 (.tmp 34) _ rfl _ _ _ _ (fun V => by rfl) 56 _ (k) _ _ (fun V => by rfl) Try.underlying25 (by kernel_rfl) (by omega) (by omega) ?_; simp only [Act.put, List.setIfInBounds_toArray, List.set_cons_succ, List.set_cons_zero])
                        | (refine f_load_cell (by first | exact cls_free _ | exact cls_row _ _ _ _ | exact cls_fill _ _ _ _ _ | exact cls_butC _ _ | exact cls_butD _ _ _ _ _ _ _) (fun V => by rfl) _ _ rfl _ (fun V => by rfl) _ (fun w hb => (Keeps.below hb) _ _ cr1) _ Try.underlying3 rfl ?_; simp only [Act.put, List.setIfInBounds_toArray, List.set_cons_succ, List.set_cons_zero])
                        | (refine f_load_cell (by first | exact cls_free _ | exact cls_row _ _ _ _ | exact cls_fill _ _ _ _ _ | exact cls_butC _ _ | exact cls_butD _ _ _ _ _ _ _) (fun V => by rfl) _ _ rfl _ (fun V => by rfl) _ (fun w hb => (Keeps.below hb) _ _ cs1) _ Try.underlying3 rfl ?_; simp only [Act.put, List.setIfInBounds_toArray, List.set_cons_succ, List.set_cons_zero])
                        | (refine f_load_cell (by first | exact cls_free _ | exact cls_row _ _ _ _ | exact cls_fill _ _ _ _ _ | exact cls_butC _ _ | exact cls_butD _ _ _ _ _ _ _) (fun V => by rfl) _ _ rfl _ (fun V => by rfl) _ (fun w hb => (Keeps.below hb) _ _ cr2) _ Try.underlying32 rfl ?_; simp only [Act.put, List.setIfInBounds_toArray, List.set_cons_succ, List.set_cons_zero])
                        | (refine f_load_cell (by first | exact cls_free _ | exact cls_row _ _ _ _ | exact cls_fill _ _ _ _ _ | exact cls_butC _ _ | exact cls_butD _ _ _ _ _ _ _) (fun V => by rfl) _ _ rfl _ (fun V => by rfl) _ (fun w hb => (Keeps.below hb) _ _ cs2) _ Try.underlying32 rfl ?_; simp only [Act.put, List.setIfInBounds_toArray, List.set_cons_succ, List.set_cons_zero])
                        | (refine f_binop (by first | exact cls_free _ | exact cls_row _ _ _ _ | exact cls_fill _ _ _ _ _ | exact cls_butC _ _ | exact cls_butD _ _ _ _ _ _ _) (fun V => by rfl) _ _ _ _ _ rfl _ _ _ (fun w => run_neq_i _ _ _ _ false (hpe) w) (fun w => guard_neq_i _ _ _ _ _ _ w) (fun V => by rfl) (fun V => by rfl) ?_; simp only [Act.put, List.setIfInBounds_toArray, List.set_cons_succ, List.set_cons_zero])
                        | (refine f_call (by first | exact cls_free _ | exact cls_row _ _ _ _ | exact cls_fill _ _ _ _ _ | exact cls_butC _ _ | exact cls_butD _ _ _ _ _ _ _) (fun V => by rfl) 11 _ _ rfl (enters_of Try.func11 rfl rfl) _ _ (fun V w hb hk => (same_any D E r.d s.d w (cr3.keep (Keeps.below hb)) (cs3.keep (Keeps.below hb))).mono fun e w1 ⟨h1, h2⟩ => ⟨by rw [h1, hdd], h2 ▸ Below.refl _ _⟩) (fun V => by rfl) ?_; simp only [Act.put, List.setIfInBounds_toArray, List.set_cons_succ, List.set_cons_zero])
              | (refine f_quiet (by first | exact cls_free _ | exact cls_row _ _ _ _ | exact cls_fill _ _ _ _ _ | exact cls_butC _ _ | exact cls_butD _ _ _ _ _ _ _) (fun V => by rfl) (fun V => ⟨_, rfl, by simp⟩) ?_; apply Exists.intro; refine And.intro (fun V w hw K hK => ?_) ?_; ((try simp only [Act.put, List.setIfInBounds_toArray, List.set_cons_succ, List.set_cons_zero] at hK); go_big_quiet_op; exact hK); simp only [Act.put, List.setIfInBounds_toArray, List.set_cons_succ, List.set_cons_zero]))
            refine f_nil ?_
            intro V w' hq hkn
            go_wp2
            go_ret
            exact ⟨(by rw [hno]; rfl), hB.trans (hq.mono hB.size)⟩
        · have hpe : (r.p != s.p) = true := by simp [hp]
          have hno : decide (l = m) = false := decide_eq_false (take_ne hr hs (rn_ne_p hp))
          go_wp2_with fail
          refine wp_region_facts 25 [] [] (by kernel_rfl) (by kernel_rfl) (by kernel_rfl) (free_draw wr) ?_
          simp only [List.take_succ_cons, List.take_zero, List.drop_succ_cons, List.drop_zero, List.zipIdx_cons, List.zipIdx_nil, Nat.zero_add, Nat.reduceAdd]
          repeat (show wpF _ _ _ _ _ _ (_ :: _) _ _; first
            | (refine f_skip (fun V => by rfl) ?_; simp only [Act.put, List.setIfInBounds_toArray, List.set_cons_succ, List.set_cons_zero])
              
                    | (refine f_ix_sl (by first | exact cls_free _ | exact cls_row _ _ _ _ | exact cls_fill _ _ _ _ _ | exact cls_butC _ _ | exact cls_butD _ _ _ _ _ _ _) (fun V => by rfl) 25 (.tmp 17) _ rfl _ _ _ _ (fun V => by rfl) 56 _ (k) _ _ (fun V => by rfl) Try.underlying25 (by kernel_rfl) (by omega) (by omega) ?_; simp only [Act.put, List.setIfInBounds_toArray, List.set_cons_succ, List.set_cons_zero])
                    | (refine f_ix_sl (by first | exact cls_free _ | exact cls_row _ _ _ _ | exact cls_fill _ _ _ _ _ | exact cls_butC _ _ | exact cls_butD _ _ _ _ _ _ _) (fun V => by rfl) 25 (.tmp 22) _ rfl _ _ _ _ (fun V => by rfl) 56 _ (k) _ _ (fun V => by rfl) Try.underlying25 (by kernel_rfl) (by omega) (by omega) ?_; simp only [Act.put, List.setIfInBounds_toArray, List.set_cons_succ, List.set_cons_zero])
                    | (refine f_load_cell (by first | exact cls_free _ | exact cls_row _ _ _ _ | exact cls_fill _ _ _ _ _ | exact cls_butC _ _ | exact cls_butD _ _ _ _ _ _ _) (fun V => by rfl) _ _ rfl _ (fun V => by rfl) _ (fun w hb => (Keeps.below hb) _ _ cr1) _ Try.underlying3 rfl ?_; simp only [Act.put, List.setIfInBounds_toArray, List.set_cons_succ, List.set_cons_zero])
                    | (refine f_load_cell (by first | exact cls_free _ | exact cls_row _ _ _ _ | exact cls_fill _ _ _ _ _ | exact cls_butC _ _ | exact cls_butD _ _ _ _ _ _ _) (fun V => by rfl) _ _ rfl _ (fun V => by rfl) _ (fun w hb => (Keeps.below hb) _ _ cs1) _ Try.underlying3 rfl ?_; simp only [Act.put, List.setIfInBounds_toArray, List.set_cons_succ, List.set_cons_zero])
                    | (refine f_binop (by first | exact cls_free _ | exact cls_row _ _ _ _ | exact cls_fill _ _ _ _ _ | exact cls_butC _ _ | exact cls_butD _ _ _ _ _ _ _) (fun V => by rfl) _ _ _ _ _ rfl _ _ _ (fun w => run_neq_i _ _ _ _ true (hpe) w) (fun w => guard_neq_i _ _ _ _ _ _ w) (fun V => by rfl) (fun V => by rfl) ?_; simp only [Act.put, List.setIfInBounds_toArray, List.set_cons_succ, List.set_cons_zero])
            | (refine f_quiet (by first | exact cls_free _ | exact cls_row _ _ _ _ | exact cls_fill _ _ _ _ _ | exact cls_butC _ _ | exact cls_butD _ _ _ _ _ _ _) (fun V => by rfl) (fun V => ⟨_, rfl, by simp⟩) ?_; apply Exists.intro; refine And.intro (fun V w hw K hK => ?_) ?_; ((try simp only [Act.put, List.setIfInBounds_toArray, List.set_cons_succ, List.set_cons_zero] at hK); go_big_quiet_op; exact hK); simp only [Act.put, List.setIfInBounds_toArray, List.set_cons_succ, List.set_cons_zero]))
          refine f_nil ?_
          intro V w' hq hkn
          go_wp2
          go_ret
          exact ⟨(by rw [hno]; rfl), hB.trans (hq.mono hB.size)⟩
      · obtain rfl : k = l.length := by omega
        have hyes : decide (l = m) = true := decide_eq_true (by rw [List.take_length, hlen, List.take_length] at htk; exact htk)
        go_wp2
        go_ret
        exact ⟨(by rw [hyes]; rfl), hB⟩
  · have hno : decide (l = m) = false := decide_eq_false fun e => hlen (by rw [e])
    have hne : ((l.length : Int) != (m.length : Int)) = true := by simp; omega
    clear hl hm
    go_enter Try.func8, Try.ntmps8
    go_wp2_with (show wpList _ _ _ (Oper.mk _ (.binOp .neq _ (.tmp 7) (.tmp 9) _) _ _ _ _ :: _) _ _; refine wpList_bin rfl .neq 3 _ (.tmp 7) (.tmp 9) rfl _ _ (.bool true) rfl rfl (run_neq_i _ _ _ _ true (hne) _) (guard_neq_i _ _ _ _ _ _ _) ?_)
    go_ret
    exact ⟨(by rw [hno]; rfl), Below.refl _ _⟩

set_option maxHeartbeats 2000000 in
/-- The program's comparison of two runs. -/
theorem sameRun_any (r s : Rn) (D E : Value) (w : World) (hD : SV w D (bys r.d)) (hE : SV w E (bys s.d)) :
    Calls Try.prog 34 #[rv D r, rv E s] w fun e w' => e = .returned (.bool (decide (r = s))) ∧ Below w.heap.size w w' := by
  obtain ⟨Ad, cd, rfl, _⟩ := id hD
  obtain ⟨Ae, ce, rfl, _⟩ := id hE
  have CE : ∀ w', Below w.heap.size w w' → Calls Try.prog 43 #[.slice Ad r.d.length cd, .slice Ae s.d.length ce] w' fun e w1 => e = .returned (.bool (r.d == s.d)) ∧ w' = w1 := fun w' h => by
    have := bequal_any _ _ r.d s.d w' (hD.keep (Keeps.below h)) (hE.keep (Keeps.below h))
    rw [bys_len, bys_len] at this
    exact this
  rw [bys_len, bys_len]
  clear hD hE
  unfold rv
  by_cases hp : r.p = s.p
  · have hpe : (r.p == s.p) = true := by simp [hp]
    by_cases hd : r.d = s.d
    · have hdd : (r.d == s.d) = true := by simp [hd]
      have hyes : decide (r = s) = true := decide_eq_true (rn_eq hp hd)
      rw [hyes]
      rw [hdd] at CE
      replace CE := Lib.hid CE
      clear hyes hdd hd
      generalize r.p = rp at *
      generalize r.d.length = rn at *
      generalize s.p = sp at *
      generalize s.d.length = sn at *
      go_enter Try.func34, Try.ntmps34
      go_wp2_with (first
        | (show wpList _ _ _ (Oper.mk _ (.binOp .eql _ (.tmp 6) (.tmp 8) _) _ _ _ _ :: _) _ _; refine wpList_bin rfl .eql 3 _ (.tmp 6) (.tmp 8) rfl _ _ (.bool true) rfl rfl (run_eql_i _ _ _ _ true (hpe) _) (guard_eql_i _ _ _ _ _ _ _) ?_)
        | (go_at_call 43; refine (CE.out _ (two_more (Below.refl _ _) _ _)).mono ?_; rintro e w1 ⟨rfl, rfl⟩))
      go_ret
      exact ⟨rfl, two_more (Below.refl _ _) _ _⟩
    · have hdd : (r.d == s.d) = false := by simp [hd]
      have hno : decide (r = s) = false := decide_eq_false (rn_ne_d hd)
      rw [hno]
      rw [hdd] at CE
      replace CE := Lib.hid CE
      clear hno hdd hd
      generalize r.p = rp at *
      generalize r.d.length = rn at *
      generalize s.p = sp at *
      generalize s.d.length = sn at *
      go_enter Try.func34, Try.ntmps34
      go_wp2_with (first
        | (show wpList _ _ _ (Oper.mk _ (.binOp .eql _ (.tmp 6) (.tmp 8) _) _ _ _ _ :: _) _ _; refine wpList_bin rfl .eql 3 _ (.tmp 6) (.tmp 8) rfl _ _ (.bool true) rfl rfl (run_eql_i _ _ _ _ true (hpe) _) (guard_eql_i _ _ _ _ _ _ _) ?_)
        | (go_at_call 43; refine (CE.out _ (two_more (Below.refl _ _) _ _)).mono ?_; rintro e w1 ⟨rfl, rfl⟩))
      go_ret
      exact ⟨rfl, two_more (Below.refl _ _) _ _⟩
  · have hpe : (r.p == s.p) = false := by simp [hp]
    have hno : decide (r = s) = false := decide_eq_false (rn_ne_p hp)
    rw [hno]
    clear CE hno
    generalize r.p = rp at *
    generalize r.d.length = rn at *
    generalize s.p = sp at *
    generalize s.d.length = sn at *
    go_enter Try.func34, Try.ntmps34
    go_wp2_with (show wpList _ _ _ (Oper.mk _ (.binOp .eql _ (.tmp 6) (.tmp 8) _) _ _ _ _ :: _) _ _; refine wpList_bin rfl .eql 3 _ (.tmp 6) (.tmp 8) rfl _ _ (.bool false) rfl rfl (run_eql_i _ _ _ _ false (hpe) _) (guard_eql_i _ _ _ _ _ _ _) ?_)
    go_ret
    exact ⟨rfl, two_more (Below.refl _ _) _ _⟩
end Go.Proofs.Ytafmggipmaofnaa
