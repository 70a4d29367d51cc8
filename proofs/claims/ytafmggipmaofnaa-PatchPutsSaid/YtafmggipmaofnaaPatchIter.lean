/- Layer 8: the iterator of the places at which two pages are unlike. -/
import Derived.RangeFuncNested
import Derived.RangeFuncBound
import Derived.RangeFuncCalls
import Derived.RangeFuncLeaves
import Derived.RangeFuncBox
import Derived.Shelf.Abstract
import Derived.Shelf.RegionOpen
import Derived.TacticsInMore
import Derived.LoopNIn
import Derived.LoopIn
import Derived.WalkSpells
import Derived.Test.YtafmggipmaofnaaPatchMem
import Derived.Test.YtafmggipmaofnaaRange
import Derived.Test.YtafmggipmaofnaaChecked
namespace Go.Proofs.Ytafmggipmaofnaa
set_option maxRecDepth 20000
open Go.RowKit Go.Shelf

attribute [local go_sem] Oper.semAt_some

theorem unlike_at {a b : List UInt8} {i : Nat} (ha : i < a.length) (hb : i < b.length) : (a[i] = b[i] ↔ a[i]? = b[i]?) := by
  rw [List.getElem?_eq_getElem ha, List.getElem?_eq_getElem hb]
  simp

theorem unlTo_pre (a b : List UInt8) (n m : Nat) (h : n ≤ m) : unlTo a b n <+: unlTo a b m := by
  obtain ⟨d, rfl⟩ := Nat.exists_eq_add_of_le h
  induction d with
  | zero => exact List.prefix_refl _
  | succ d ih => rw [← Nat.add_assoc, unlTo_succ]; exact (ih (by omega)).trans (List.prefix_append _ _)

set_option maxRecDepth 100000 in
set_option maxHeartbeats 2000000 in
theorem unl_in (n : Nat) (Ba Bb : Nat) (a b : List UInt8) (ha : a.length = 512) (hb : b.length = 512) :
    Iter Fence.wide n Try.prog 39 #[.pointer (some ⟨Ba, 0, none⟩), .pointer (some ⟨Bb, 0, none⟩)] (fun y : Nat => #[.int .i64 y]) (fun X => Whole X Ba 24 (ab a) ∧ Whole X Bb 24 (ab b))
      (fun pre => pre <+: unlTo a b 512) (fun xs => xs = unlTo a b 512) := by
  intro l J W hJc hJk hY h0
  have hA := (hJc _ _ h0).1
  have hB := (hJc _ _ h0).2
  simp only [List.append_toArray, List.cons_append, List.nil_append]
  refine callsIn_of_wp Try.func39 rfl trivial ?_ rfl
  simp only [Try.ntmps39, List.size_toArray, List.length_cons, List.length_nil, Nat.reduceAdd, Nat.reduceSub, Array.replicate_succ, Array.replicate_zero, List.push_toArray, List.append_toArray, List.nil_append, List.cons_append]
  gi_wp2
  gi_loopw [4] (fun i wr => ∃ k : Nat, k ≤ 500 ∧ i = .int .i64 (12 + k) ∧ J (unlTo a b (12 + k)) wr ∧ Whole wr Ba 24 (ab a) ∧ Whole wr Bb 24 (ab b))
    (fun i _ => (512 - intOf i).toNat)
  case atStart => exact ⟨0, by omega, rfl, by rw [unlTo_12]; exact h0, hA, hB⟩
  case round =>
    obtain ⟨k, hk, rfl, hJ, hwa, hwb⟩ := hrel
    by_cases hlt : k < 500
    · have la : 12 + k < a.length := by omega
      have lb : 12 + k < b.length := by omega
      have ca := ab_get a (12 + k) la
      have cb := ab_get b (12 + k) lb
      have HU := Lib.hid (unlTo_succ a b (12 + k))
      by_cases heq : a[12 + k] = b[12 + k]
      · have hun : unlike a b (12 + k) = false := decide_eq_false fun h => h.2 ((unlike_at la lb).1 heq)
        have hneq : ((a[12 + k].toNat : Int) != (b[12 + k].toNat : Int)) = false := by rw [heq]; simp
        gi_wp2_with fail
        refine wpIn_region_facts (by first | exact wideF_wide | exact wideF_round _) 13 [] [] (by kernel_rfl) (by kernel_rfl) (by kernel_rfl) (by kernel_rfl) (free_draw wr) ?_
        simp only [List.take_succ_cons, List.take_zero, List.drop_succ_cons, List.drop_zero, List.zipIdx_cons, List.zipIdx_nil, Nat.zero_add, Nat.reduceAdd]
        repeat (show wpF _ _ _ _ _ _ (_ :: _) _ _; first
          | (refine f_skip (fun V => by rfl) ?_; simp only [Act.put, List.setIfInBounds_toArray, List.set_cons_succ, List.set_cons_zero])
            
            | (refine f_ix_arr (by first | exact cls_free _ | exact cls_row _ _ _ _ | exact cls_fill _ _ _ _ _ | exact cls_butC _ _ | exact cls_butD _ _ _ _ _ _ _) (fun V => by rfl) 24 _ _ rfl (Ba) (fun V => by rfl) 5 _ _ (12 + k) _ _ (fun V => by rfl) Try.underlying24 (by kernel_rfl) (by omega) (by omega) ?_; simp only [Act.put, List.setIfInBounds_toArray, List.set_cons_succ, List.set_cons_zero])
            | (refine f_ix_arr (by first | exact cls_free _ | exact cls_row _ _ _ _ | exact cls_fill _ _ _ _ _ | exact cls_butC _ _ | exact cls_butD _ _ _ _ _ _ _) (fun V => by rfl) 24 _ _ rfl (Bb) (fun V => by rfl) 5 _ _ (12 + k) _ _ (fun V => by rfl) Try.underlying24 (by kernel_rfl) (by omega) (by omega) ?_; simp only [Act.put, List.setIfInBounds_toArray, List.set_cons_succ, List.set_cons_zero])
            | (refine f_load_cell (by first | exact cls_free _ | exact cls_row _ _ _ _ | exact cls_fill _ _ _ _ _ | exact cls_butC _ _ | exact cls_butD _ _ _ _ _ _ _) (fun V => by rfl) _ _ rfl _ (fun V => by rfl) _ (fun w hb => ((hwa.on hb).cell _).trans ca) _ Try.underlying5 rfl ?_; simp only [Act.put, List.setIfInBounds_toArray, List.set_cons_succ, List.set_cons_zero])
            | (refine f_load_cell (by first | exact cls_free _ | exact cls_row _ _ _ _ | exact cls_fill _ _ _ _ _ | exact cls_butC _ _ | exact cls_butD _ _ _ _ _ _ _) (fun V => by rfl) _ _ rfl _ (fun V => by rfl) _ (fun w hb => ((hwb.on hb).cell _).trans cb) _ Try.underlying5 rfl ?_; simp only [Act.put, List.setIfInBounds_toArray, List.set_cons_succ, List.set_cons_zero])
            | (refine f_binop (by first | exact cls_free _ | exact cls_row _ _ _ _ | exact cls_fill _ _ _ _ _ | exact cls_butC _ _ | exact cls_butD _ _ _ _ _ _ _) (fun V => by rfl) _ _ _ _ _ rfl _ _ _ (fun w => run_neq_i _ _ _ _ false (hneq) w) (fun w => guard_neq_i _ _ _ _ _ _ w) (fun V => by rfl) (fun V => by rfl) ?_; simp only [Act.put, List.setIfInBounds_toArray, List.set_cons_succ, List.set_cons_zero])
          | (refine f_quiet (by first | exact cls_free _ | exact cls_row _ _ _ _ | exact cls_fill _ _ _ _ _ | exact cls_butC _ _ | exact cls_butD _ _ _ _ _ _ _) (fun V => by rfl) (fun V => ⟨_, rfl, by simp⟩) ?_; apply Exists.intro; refine And.intro (fun V w hw K hK => ?_) ?_; ((try simp only [Act.put, List.setIfInBounds_toArray, List.set_cons_succ, List.set_cons_zero] at hK); go_big_quiet_op; exact hK); simp only [Act.put, List.setIfInBounds_toArray, List.set_cons_succ, List.set_cons_zero]))
        refine f_nil ?_
        intro V w' hq hkn
        gi_wp2
        go_roundw
        case rel => exact ⟨k + 1, by omega, by go_num, by rw [← Nat.add_assoc, HU.out, hun]; simpa using hJk _ _ _ hJ hq, hwa.on hq, hwb.on hq⟩
        case measure => simp [intOf]; omega
      · have hun : unlike a b (12 + k) = true := decide_eq_true ⟨by omega, fun h => heq ((unlike_at la lb).2 h)⟩
        have hneq : ((a[12 + k].toNat : Int) != (b[12 + k].toNat : Int)) = true := by
          simp only [bne_iff_ne, ne_eq]
          intro h
          exact heq (UInt8.toNat_inj.1 (by omega))
        gi_wp2_with fail
        refine wpIn_region_facts (by first | exact wideF_wide | exact wideF_round _) 10 [] [] (by kernel_rfl) (by kernel_rfl) (by kernel_rfl) (by kernel_rfl) (free_draw wr) ?_
        simp only [List.take_succ_cons, List.take_zero, List.drop_succ_cons, List.drop_zero, List.zipIdx_cons, List.zipIdx_nil, Nat.zero_add, Nat.reduceAdd]
        repeat (show wpF _ _ _ _ _ _ (_ :: _) _ _; first
          | (refine f_skip (fun V => by rfl) ?_; simp only [Act.put, List.setIfInBounds_toArray, List.set_cons_succ, List.set_cons_zero])
            
            | (refine f_ix_arr (by first | exact cls_free _ | exact cls_row _ _ _ _ | exact cls_fill _ _ _ _ _ | exact cls_butC _ _ | exact cls_butD _ _ _ _ _ _ _) (fun V => by rfl) 24 _ _ rfl (Ba) (fun V => by rfl) 5 _ _ (12 + k) _ _ (fun V => by rfl) Try.underlying24 (by kernel_rfl) (by omega) (by omega) ?_; simp only [Act.put, List.setIfInBounds_toArray, List.set_cons_succ, List.set_cons_zero])
            | (refine f_ix_arr (by first | exact cls_free _ | exact cls_row _ _ _ _ | exact cls_fill _ _ _ _ _ | exact cls_butC _ _ | exact cls_butD _ _ _ _ _ _ _) (fun V => by rfl) 24 _ _ rfl (Bb) (fun V => by rfl) 5 _ _ (12 + k) _ _ (fun V => by rfl) Try.underlying24 (by kernel_rfl) (by omega) (by omega) ?_; simp only [Act.put, List.setIfInBounds_toArray, List.set_cons_succ, List.set_cons_zero])
            | (refine f_load_cell (by first | exact cls_free _ | exact cls_row _ _ _ _ | exact cls_fill _ _ _ _ _ | exact cls_butC _ _ | exact cls_butD _ _ _ _ _ _ _) (fun V => by rfl) _ _ rfl _ (fun V => by rfl) _ (fun w hb => ((hwa.on hb).cell _).trans ca) _ Try.underlying5 rfl ?_; simp only [Act.put, List.setIfInBounds_toArray, List.set_cons_succ, List.set_cons_zero])
            | (refine f_load_cell (by first | exact cls_free _ | exact cls_row _ _ _ _ | exact cls_fill _ _ _ _ _ | exact cls_butC _ _ | exact cls_butD _ _ _ _ _ _ _) (fun V => by rfl) _ _ rfl _ (fun V => by rfl) _ (fun w hb => ((hwb.on hb).cell _).trans cb) _ Try.underlying5 rfl ?_; simp only [Act.put, List.setIfInBounds_toArray, List.set_cons_succ, List.set_cons_zero])
            | (refine f_binop (by first | exact cls_free _ | exact cls_row _ _ _ _ | exact cls_fill _ _ _ _ _ | exact cls_butC _ _ | exact cls_butD _ _ _ _ _ _ _) (fun V => by rfl) _ _ _ _ _ rfl _ _ _ (fun w => run_neq_i _ _ _ _ true (hneq) w) (fun w => guard_neq_i _ _ _ _ _ _ w) (fun V => by rfl) (fun V => by rfl) ?_; simp only [Act.put, List.setIfInBounds_toArray, List.set_cons_succ, List.set_cons_zero])
          | (refine f_quiet (by first | exact cls_free _ | exact cls_row _ _ _ _ | exact cls_fill _ _ _ _ _ | exact cls_butC _ _ | exact cls_butD _ _ _ _ _ _ _) (fun V => by rfl) (fun V => ⟨_, rfl, by simp⟩) ?_; apply Exists.intro; refine And.intro (fun V w hw K hK => ?_) ?_; ((try simp only [Act.put, List.setIfInBounds_toArray, List.set_cons_succ, List.set_cons_zero] at hK); go_big_quiet_op; exact hK); simp only [Act.put, List.setIfInBounds_toArray, List.set_cons_succ, List.set_cons_zero]))
        refine f_nil ?_
        intro V w' hq hkn
        have HG := Lib.hid (show unlTo a b (12 + k) ++ [12 + k] = unlTo a b (12 + (k + 1)) by rw [← Nat.add_assoc, HU.out, hun]; rfl)
        obtain ⟨fn, tmps, assign, body, hy, hR⟩ := hY _ (12 + k) w' (hJk _ _ _ hJ hq) (by rw [HG.out]; exact unlTo_pre a b (12 + (k + 1)) 512 (by omega))
        rw [show ((12 + k : Nat) : Int) = 12 + (k : Int) by omega] at hy
        replace hneq := Lib.hid hneq
        replace heq := Lib.hid heq
        replace hun := Lib.hid hun
        replace ca := Lib.hid ca
        replace cb := Lib.hid cb
        gi_wp2
        refine ⟨fun h => (by cases h), hR.mono ?_⟩
        rintro e W3 ⟨rfl, hJ3⟩
        have h3 := hJc _ _ hJ3
        gi_wp2
        go_roundw
        case rel => exact ⟨k + 1, by omega, by go_num, by rw [← HG.out]; exact hJ3, h3.1, h3.2⟩
        case measure => simp [intOf]; omega
    · obtain rfl : k = 500 := by omega
      gi_wp2
      go_end0
      exact ⟨⟨_, rfl⟩, _, rfl, hJ⟩

theorem unl_make (n : Nat) (a b : List UInt8) (w : World) :
    CallsIn Fence.wide n Try.prog 22 #[.agg (ab a), .agg (ab b)] w fun e w' => e = .returned (.func (.func 39) #[] #[.pointer (some ⟨w.heap.size, 0, none⟩), .pointer (some ⟨w.heap.size + 1, 0, none⟩)]) ∧
      w' = (w.alloc (.cells (ab a) 24)).alloc (.cells (ab b) 24) := by
  refine callsIn_of_wp Try.func22 rfl trivial ?_ rfl
  simp only [Try.ntmps22, List.size_toArray, List.length_cons, List.length_nil, Nat.reduceAdd, Nat.reduceSub, Array.replicate_succ, Array.replicate_zero, List.push_toArray, List.append_toArray, List.nil_append, List.cons_append]
  gi_wp2
  go_ret
  exact ⟨rfl, rfl⟩
end Go.Proofs.Ytafmggipmaofnaa
