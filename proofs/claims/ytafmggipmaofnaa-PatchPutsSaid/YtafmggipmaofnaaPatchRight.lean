/- Layer 8: whether a patch may be: the reference's. -/
import Derived.Test.YtafmggipmaofnaaPatchCheck
import Derived.Test.YtafmggipmaofnaaPatchSame
namespace Go.Proofs.Ytafmggipmaofnaa
set_option maxRecDepth 20000
open Go.RowKit

section
variable {P : Program}
theorem run_gtr8 (t : TypeId) (k : IntKind) (i j : Int) (b : Bool) (h : decide (j < i) = b) (w : World) : (binOp .gtr t (.int k i) (.int k j)).run P w = .ok (.bool b) w := by
  subst h
  simp [binOp_gtr]
theorem grd_gtr8 (t : TypeId) (s u : Operand) (x y : Value) (w : World) : (eqGuard .gtr t s u x y).run P w = .ok () w := by simp [eqGuard_gtr]
theorem run_leq8 (t : TypeId) (k : IntKind) (i j : Int) (b : Bool) (h : decide (i ≤ j) = b) (w : World) : (binOp .leq t (.int k i) (.int k j)).run P w = .ok (.bool b) w := by
  subst h
  simp [binOp_leq]
theorem grd_leq8 (t : TypeId) (s u : Operand) (x y : Value) (w : World) : (eqGuard .leq t s u x y).run P w = .ok () w := by simp [eqGuard_leq]
end

set_option maxHeartbeats 4000000 in
theorem right8_any (x : Pt) (vr : Value) (w : World) (hpg : i64 x.pg) (hr : RS w vr x.rs) (hs : Sane x.rs) :
    Calls Try.prog 18 #[pv vr x] w fun e w' => e = .returned (.bool (okP8 x)) ∧ Below w.heap.size w w' := by
  obtain ⟨pg, fr, l⟩ := x
  have HY := Lib.hid (@ck8_yes ⟨pg, fr, l⟩)
  have HN := Lib.hid (@ck8_no ⟨pg, fr, l⟩)
  generalize okP8 ⟨pg, fr, l⟩ = g at *
  simp only at hpg hr hs
  obtain ⟨Al, cl, rfl, l1, l2, _, _⟩ := id hr
  have l3 := hr.bd.2.2
  unfold pv
  unfold i64 at hpg
  simp only
  by_cases c1 : pg < 0
  · obtain rfl : g = false := HN.out (by simp only; omega)
    clear hr hs
    go_enter Try.func18, Try.ntmps18
    go_wp2
    go_ret
    exact ⟨rfl, (Below.refl _ _).alloc (Nat.le_refl _) _⟩
  by_cases c2 : 65535 < pg
  · obtain rfl : g = false := HN.out (by simp only; omega)
    clear hr hs
    go_enter Try.func18, Try.ntmps18
    go_wp2
    go_ret
    exact ⟨rfl, (Below.refl _ _).alloc (Nat.le_refl _) _⟩
  by_cases c3 : 500 < l.length
  · obtain rfl : g = false := HN.out (by simp only; omega)
    clear hr hs
    go_enter Try.func18, Try.ntmps18
    go_wp2
    go_ret
    exact ⟨rfl, (Below.refl _ _).alloc (Nat.le_refl _) _⟩
  have HL := Lib.hid hr
  have HS := Lib.hid hs
  clear hr hs
  go_enter Try.func18, Try.ntmps18
  go_wp2
  go_loopw [3] (fun i wr => ∃ k : Nat, k ≤ l.length ∧ i = .int .i64 k ∧ okRuns 0 l = okRuns (bh l k) (l.drop k) ∧ (∀ j r, j < k → l[j]? = some r → wthn r = true) ∧ Below w.heap.size w wr ∧ Whole wr w.heap.size 37 #[.int .i64 pg, .bool fr, .slice Al l.length cl]) (fun i _ => l.length - (intOf i).toNat)
  case atStart => exact ⟨0, by omega, rfl, rfl, fun j r h => by omega, (Below.refl _ _).alloc (Nat.le_refl _) _, Whole.made w _ _⟩
  case round =>
    obtain ⟨k, hk, rfl, hok, hall, hB, hbw⟩ := hrel
    have hbb := bh_bd hall
    have hbx : wr.cell? ⟨w.heap.size, 2, none⟩ = some (.slice Al l.length cl) := hbw.cell 2
    replace hbw := Lib.hid hbw
    by_cases hlt : k < l.length
    · obtain ⟨bl, ol, r, D, rfl, hr, cr1, cr2, cr3⟩ := RS.at (HL.out.keep (Keeps.below hB)) hlt
      have hsr := HS.out r (List.mem_of_getElem? hr)
      have hst := ok_step hr
      have hall2 : wthn r = true → ∀ j s, j < k + 1 → l[j]? = some s → wthn s = true := fun hw j s hj hs => by
        rcases Nat.lt_or_ge j k with h | h
        · exact hall j s h hs
        · have : j = k := by omega
          subst this
          rw [hr] at hs
          injection hs with hs
          rw [← hs]
          exact hw
      obtain ⟨Ad, cd, rfl, _⟩ := cr3
      rw [bys_len] at cr2
      have hrg := range2 cr1 cr2
      have CW := Lib.hid (fun w' => rwithin8_any r Ad r.d.length cd w' rfl hsr.1 hsr.2)
      unfold rv at CW
      cases hw : wthn r with
      | false =>
        rw [hw] at hst CW
        rw [hst] at hok
        obtain rfl : g = false := HN.out (fun h => by have h1 : okRuns 0 l = true := h.2.2.2; rw [hok] at h1; simp at h1)
        skip
        go_wp2_with fail
        refine wp_region_facts 36 [] [] (by kernel_rfl) (by kernel_rfl) (by kernel_rfl) (free_draw wr) ?_
        simp only [List.take_succ_cons, List.take_zero, List.drop_succ_cons, List.drop_zero, List.zipIdx_cons, List.zipIdx_nil, Nat.zero_add, Nat.reduceAdd]
        repeat (show wpF _ _ _ _ _ _ (_ :: _) _ _; first
          | (refine f_skip (fun V => by rfl) ?_; simp only [Act.put, List.setIfInBounds_toArray, List.set_cons_succ, List.set_cons_zero])
            
            | (refine f_load_cell (by first | exact cls_free _ | exact cls_row _ _ _ _ | exact cls_fill _ _ _ _ _ | exact cls_butC _ _ | exact cls_butD _ _ _ _ _ _ _) (fun V => by rfl) _ _ rfl _ (fun V => by rfl) _ (fun w hb => (Keeps.below hb) _ _ hbx) _ Try.underlying25 rfl ?_; simp only [Act.put, List.setIfInBounds_toArray, List.set_cons_succ, List.set_cons_zero])
            | (refine f_ix_sl (by first | exact cls_free _ | exact cls_row _ _ _ _ | exact cls_fill _ _ _ _ _ | exact cls_butC _ _ | exact cls_butD _ _ _ _ _ _ _) (fun V => by rfl) 25 (.tmp 26) _ rfl _ _ _ _ (fun V => by rfl) 56 _ (k) _ _ (fun V => by rfl) Try.underlying25 (by kernel_rfl) (by omega) (by omega) ?_; simp only [Act.put, List.setIfInBounds_toArray, List.set_cons_succ, List.set_cons_zero])
            | (refine f_load_mid (by first | exact cls_free _ | exact cls_row _ _ _ _ | exact cls_fill _ _ _ _ _ | exact cls_butC _ _ | exact cls_butD _ _ _ _ _ _ _) (fun V => by rfl) 56 _ rfl _ _ (fun V => by rfl) [.int .i64 r.p, .slice Ad r.d.length cd] _ (fun w hb => fun j v hv => (Keeps.below hb) _ _ (hrg j v hv)) Try.underlying56 rfl (by kernel_rfl) ?_; simp only [Act.put, List.setIfInBounds_toArray, List.set_cons_succ, List.set_cons_zero])
            | (refine f_call (by first | exact cls_free _ | exact cls_row _ _ _ _ | exact cls_fill _ _ _ _ _ | exact cls_butC _ _ | exact cls_butD _ _ _ _ _ _ _) (fun V => by rfl) 26 _ _ rfl (enters_of Try.func26 rfl rfl) _ _ (fun V w hb hk => CW.out w) (fun V => by rfl) ?_; simp only [Act.put, List.setIfInBounds_toArray, List.set_cons_succ, List.set_cons_zero])
          | (refine f_quiet (by first | exact cls_free _ | exact cls_row _ _ _ _ | exact cls_fill _ _ _ _ _ | exact cls_butC _ _ | exact cls_butD _ _ _ _ _ _ _) (fun V => by rfl) (fun V => ⟨_, rfl, by simp⟩) ?_; apply Exists.intro; refine And.intro (fun V w hw K hK => ?_) ?_; ((try simp only [Act.put, List.setIfInBounds_toArray, List.set_cons_succ, List.set_cons_zero] at hK); go_big_quiet_op; exact hK); simp only [Act.put, List.setIfInBounds_toArray, List.set_cons_succ, List.set_cons_zero]))
        refine f_nil ?_
        intro V w' hq hkn
        go_wp2
        go_ret
        exact ⟨rfl, hB.trans (hq.mono hB.size)⟩
      | true =>
        have hwi := (wthn_iff r).1 hw
        rw [hw] at hst CW
        cases k with
        | zero =>
          have hb : bh l 0 < r.p := by show (0 : Int) < r.p; omega
          rw [decide_eq_true hb, Bool.true_and, Bool.true_and] at hst
          have hg0 : decide ((0 : Int) < ((0 : Nat) : Int)) = false := rfl
          go_wp2_with fail
          refine wp_region_facts 36 [] [] (by kernel_rfl) (by kernel_rfl) (by kernel_rfl) (free_draw wr) ?_
          simp only [List.take_succ_cons, List.take_zero, List.drop_succ_cons, List.drop_zero, List.zipIdx_cons, List.zipIdx_nil, Nat.zero_add, Nat.reduceAdd]
          repeat (show wpF _ _ _ _ _ _ (_ :: _) _ _; first
            | (refine f_skip (fun V => by rfl) ?_; simp only [Act.put, List.setIfInBounds_toArray, List.set_cons_succ, List.set_cons_zero])
              
                    | (refine f_load_cell (by first | exact cls_free _ | exact cls_row _ _ _ _ | exact cls_fill _ _ _ _ _ | exact cls_butC _ _ | exact cls_butD _ _ _ _ _ _ _) (fun V => by rfl) _ _ rfl _ (fun V => by rfl) _ (fun w hb => (Keeps.below hb) _ _ hbx) _ Try.underlying25 rfl ?_; simp only [Act.put, List.setIfInBounds_toArray, List.set_cons_succ, List.set_cons_zero])
                    | (refine f_ix_sl (by first | exact cls_free _ | exact cls_row _ _ _ _ | exact cls_fill _ _ _ _ _ | exact cls_butC _ _ | exact cls_butD _ _ _ _ _ _ _) (fun V => by rfl) 25 (.tmp 26) _ rfl _ _ _ _ (fun V => by rfl) 56 _ (0) _ _ (fun V => by rfl) Try.underlying25 (by kernel_rfl) (by omega) (by omega) ?_; simp only [Act.put, List.setIfInBounds_toArray, List.set_cons_succ, List.set_cons_zero])
                    | (refine f_load_mid (by first | exact cls_free _ | exact cls_row _ _ _ _ | exact cls_fill _ _ _ _ _ | exact cls_butC _ _ | exact cls_butD _ _ _ _ _ _ _) (fun V => by rfl) 56 _ rfl _ _ (fun V => by rfl) [.int .i64 r.p, .slice Ad r.d.length cd] _ (fun w hb => fun j v hv => (Keeps.below hb) _ _ (hrg j v hv)) Try.underlying56 rfl (by kernel_rfl) ?_; simp only [Act.put, List.setIfInBounds_toArray, List.set_cons_succ, List.set_cons_zero])
                    | (refine f_binop (by first | exact cls_free _ | exact cls_row _ _ _ _ | exact cls_fill _ _ _ _ _ | exact cls_butC _ _ | exact cls_butD _ _ _ _ _ _ _) (fun V => by rfl) _ _ _ _ _ rfl _ _ _ (fun w => run_gtr8 _ _ _ _ false hg0 w) (fun w => grd_gtr8 _ _ _ _ _ w) (fun V => by rfl) (fun V => by rfl) ?_; simp only [Act.put, List.setIfInBounds_toArray, List.set_cons_succ, List.set_cons_zero])
                    | (refine f_call (by first | exact cls_free _ | exact cls_row _ _ _ _ | exact cls_fill _ _ _ _ _ | exact cls_butC _ _ | exact cls_butD _ _ _ _ _ _ _) (fun V => by rfl) 26 _ _ rfl (enters_of Try.func26 rfl rfl) _ _ (fun V w hb hk => CW.out w) (fun V => by rfl) ?_; simp only [Act.put, List.setIfInBounds_toArray, List.set_cons_succ, List.set_cons_zero])
            | (refine f_quiet (by first | exact cls_free _ | exact cls_row _ _ _ _ | exact cls_fill _ _ _ _ _ | exact cls_butC _ _ | exact cls_butD _ _ _ _ _ _ _) (fun V => by rfl) (fun V => ⟨_, rfl, by simp⟩) ?_; apply Exists.intro; refine And.intro (fun V w hw K hK => ?_) ?_; ((try simp only [Act.put, List.setIfInBounds_toArray, List.set_cons_succ, List.set_cons_zero] at hK); go_big_quiet_op; exact hK); simp only [Act.put, List.setIfInBounds_toArray, List.set_cons_succ, List.set_cons_zero]))
          refine f_nil ?_
          intro V w' hq hkn
          go_wp2
          go_roundw
          case rel => exact ⟨1, by omega, by go_num, by rw [hok, hst], hall2 hw, hB.trans (hq.mono hB.size), hbw.out.on hq⟩
          case measure => simp [intOf]; omega
        | succ j =>
          obtain ⟨bl', ol', r', D', e1, hr', cp1, cp2, cp3⟩ := RS.at (HL.out.keep (Keeps.below hB)) (k := j) (by omega)
          injection e1 with e1
          injection e1 with e1 e2
          subst e1 e2
          have hw' := (wthn_iff r').1 (hall j r' (by omega) hr')
          have hbe : bh l (j + 1) = r'.p + r'.d.length := by simp only [bh, hr']
          obtain ⟨Ap, cp, rfl, _⟩ := cp3
          rw [bys_len] at cp2
          rw [hbe] at hst hbb hok
          have hg0 : decide ((0 : Int) < (j : Int) + 1) = true := decide_eq_true (by omega)
          by_cases hb : r'.p + r'.d.length < r.p
          · have hl : decide (r.p ≤ r'.p + r'.d.length) = false := decide_eq_false (by omega)
            rw [decide_eq_true hb, Bool.true_and, Bool.true_and] at hst
            skip
            go_wp2_with fail
            refine wp_region_facts 36 [] [] (by kernel_rfl) (by kernel_rfl) (by kernel_rfl) (free_draw wr) ?_
            simp only [List.take_succ_cons, List.take_zero, List.drop_succ_cons, List.drop_zero, List.zipIdx_cons, List.zipIdx_nil, Nat.zero_add, Nat.reduceAdd]
            repeat (show wpF _ _ _ _ _ _ (_ :: _) _ _; first
              | (refine f_skip (fun V => by rfl) ?_; simp only [Act.put, List.setIfInBounds_toArray, List.set_cons_succ, List.set_cons_zero])
                
                | (refine f_load_cell (by first | exact cls_free _ | exact cls_row _ _ _ _ | exact cls_fill _ _ _ _ _ | exact cls_butC _ _ | exact cls_butD _ _ _ _ _ _ _) (fun V => by rfl) _ _ rfl _ (fun V => by rfl) _ (fun w hb => (Keeps.below hb) _ _ hbx) _ Try.underlying25 rfl ?_; simp only [Act.put, List.setIfInBounds_toArray, List.set_cons_succ, List.set_cons_zero])
                | (refine f_ix_sl (by first | exact cls_free _ | exact cls_row _ _ _ _ | exact cls_fill _ _ _ _ _ | exact cls_butC _ _ | exact cls_butD _ _ _ _ _ _ _) (fun V => by rfl) 25 (.tmp 26) _ rfl _ _ _ _ (fun V => by rfl) 56 _ (j + 1) _ _ (fun V => by rfl) Try.underlying25 (by kernel_rfl) (by omega) (by omega) ?_; simp only [Act.put, List.setIfInBounds_toArray, List.set_cons_succ, List.set_cons_zero])
                | (refine f_ix_sl (by first | exact cls_free _ | exact cls_row _ _ _ _ | exact cls_fill _ _ _ _ _ | exact cls_butC _ _ | exact cls_butD _ _ _ _ _ _ _) (fun V => by rfl) 25 (.tmp 37) _ rfl _ _ _ _ (fun V => by rfl) 56 _ (j + 1) _ _ (fun V => by rfl) Try.underlying25 (by kernel_rfl) (by omega) (by omega) ?_; simp only [Act.put, List.setIfInBounds_toArray, List.set_cons_succ, List.set_cons_zero])
                | (refine f_ix_sl (by first | exact cls_free _ | exact cls_row _ _ _ _ | exact cls_fill _ _ _ _ _ | exact cls_butC _ _ | exact cls_butD _ _ _ _ _ _ _) (fun V => by rfl) 25 (.tmp 43) _ rfl _ _ _ _ (fun V => by rfl) 56 _ (j) _ _ (fun V => by rfl) Try.underlying25 (by kernel_rfl) (by omega) (by omega) ?_; simp only [Act.put, List.setIfInBounds_toArray, List.set_cons_succ, List.set_cons_zero])
                | (refine f_ix_sl (by first | exact cls_free _ | exact cls_row _ _ _ _ | exact cls_fill _ _ _ _ _ | exact cls_butC _ _ | exact cls_butD _ _ _ _ _ _ _) (fun V => by rfl) 25 (.tmp 50) _ rfl _ _ _ _ (fun V => by rfl) 56 _ (j) _ _ (fun V => by rfl) Try.underlying25 (by kernel_rfl) (by omega) (by omega) ?_; simp only [Act.put, List.setIfInBounds_toArray, List.set_cons_succ, List.set_cons_zero])
                | (refine f_load_mid (by first | exact cls_free _ | exact cls_row _ _ _ _ | exact cls_fill _ _ _ _ _ | exact cls_butC _ _ | exact cls_butD _ _ _ _ _ _ _) (fun V => by rfl) 56 _ rfl _ _ (fun V => by rfl) [.int .i64 r.p, .slice Ad r.d.length cd] _ (fun w hb => fun j v hv => (Keeps.below hb) _ _ (hrg j v hv)) Try.underlying56 rfl (by kernel_rfl) ?_; simp only [Act.put, List.setIfInBounds_toArray, List.set_cons_succ, List.set_cons_zero])
                | (refine f_load_cell (by first | exact cls_free _ | exact cls_row _ _ _ _ | exact cls_fill _ _ _ _ _ | exact cls_butC _ _ | exact cls_butD _ _ _ _ _ _ _) (fun V => by rfl) _ _ rfl _ (fun V => by rfl) _ (fun w hb => (Keeps.below hb) _ _ cr1) _ Try.underlying3 rfl ?_; simp only [Act.put, List.setIfInBounds_toArray, List.set_cons_succ, List.set_cons_zero])
                | (refine f_load_cell (by first | exact cls_free _ | exact cls_row _ _ _ _ | exact cls_fill _ _ _ _ _ | exact cls_butC _ _ | exact cls_butD _ _ _ _ _ _ _) (fun V => by rfl) _ _ rfl _ (fun V => by rfl) _ (fun w hb => (Keeps.below hb) _ _ cp1) _ Try.underlying3 rfl ?_; simp only [Act.put, List.setIfInBounds_toArray, List.set_cons_succ, List.set_cons_zero])
                | (refine f_load_cell (by first | exact cls_free _ | exact cls_row _ _ _ _ | exact cls_fill _ _ _ _ _ | exact cls_butC _ _ | exact cls_butD _ _ _ _ _ _ _) (fun V => by rfl) _ _ rfl _ (fun V => by rfl) _ (fun w hb => (Keeps.below hb) _ _ cp2) _ Try.underlying32 rfl ?_; simp only [Act.put, List.setIfInBounds_toArray, List.set_cons_succ, List.set_cons_zero])
                | (refine f_binop (by first | exact cls_free _ | exact cls_row _ _ _ _ | exact cls_fill _ _ _ _ _ | exact cls_butC _ _ | exact cls_butD _ _ _ _ _ _ _) (fun V => by rfl) _ _ _ _ _ rfl _ _ _ (fun w => run_gtr8 _ _ _ _ true hg0 w) (fun w => grd_gtr8 _ _ _ _ _ w) (fun V => by rfl) (fun V => by rfl) ?_; simp only [Act.put, List.setIfInBounds_toArray, List.set_cons_succ, List.set_cons_zero])
                | (refine f_binop (by first | exact cls_free _ | exact cls_row _ _ _ _ | exact cls_fill _ _ _ _ _ | exact cls_butC _ _ | exact cls_butD _ _ _ _ _ _ _) (fun V => by rfl) _ _ _ _ _ rfl _ _ _ (fun w => run_leq8 _ _ _ _ false hl w) (fun w => grd_leq8 _ _ _ _ _ w) (fun V => by rfl) (fun V => by rfl) ?_; simp only [Act.put, List.setIfInBounds_toArray, List.set_cons_succ, List.set_cons_zero])
                | (refine f_call (by first | exact cls_free _ | exact cls_row _ _ _ _ | exact cls_fill _ _ _ _ _ | exact cls_butC _ _ | exact cls_butD _ _ _ _ _ _ _) (fun V => by rfl) 26 _ _ rfl (enters_of Try.func26 rfl rfl) _ _ (fun V w hb hk => CW.out w) (fun V => by rfl) ?_; simp only [Act.put, List.setIfInBounds_toArray, List.set_cons_succ, List.set_cons_zero])
              | (refine f_quiet (by first | exact cls_free _ | exact cls_row _ _ _ _ | exact cls_fill _ _ _ _ _ | exact cls_butC _ _ | exact cls_butD _ _ _ _ _ _ _) (fun V => by rfl) (fun V => ⟨_, rfl, by simp⟩) ?_; apply Exists.intro; refine And.intro (fun V w hw K hK => ?_) ?_; ((try simp only [Act.put, List.setIfInBounds_toArray, List.set_cons_succ, List.set_cons_zero] at hK); go_big_quiet_op; exact hK); simp only [Act.put, List.setIfInBounds_toArray, List.set_cons_succ, List.set_cons_zero]))
            refine f_nil ?_
            intro V w' hq hkn
            go_wp2
            go_roundw
            case rel => exact ⟨j + 1 + 1, by omega, by go_num, by rw [hok, hst], hall2 hw, hB.trans (hq.mono hB.size), hbw.out.on hq⟩
            case measure => simp [intOf]; omega
          · have hl : decide (r.p ≤ r'.p + r'.d.length) = true := decide_eq_true (by omega)
            rw [decide_eq_false hb] at hst
            rw [hst] at hok
            obtain rfl : g = false := HN.out (fun h => by have h1 : okRuns 0 l = true := h.2.2.2; rw [hok] at h1; simp at h1)
            skip
            go_wp2_with fail
            refine wp_region_facts 36 [] [] (by kernel_rfl) (by kernel_rfl) (by kernel_rfl) (free_draw wr) ?_
            simp only [List.take_succ_cons, List.take_zero, List.drop_succ_cons, List.drop_zero, List.zipIdx_cons, List.zipIdx_nil, Nat.zero_add, Nat.reduceAdd]
            repeat (show wpF _ _ _ _ _ _ (_ :: _) _ _; first
              | (refine f_skip (fun V => by rfl) ?_; simp only [Act.put, List.setIfInBounds_toArray, List.set_cons_succ, List.set_cons_zero])
                
                | (refine f_load_cell (by first | exact cls_free _ | exact cls_row _ _ _ _ | exact cls_fill _ _ _ _ _ | exact cls_butC _ _ | exact cls_butD _ _ _ _ _ _ _) (fun V => by rfl) _ _ rfl _ (fun V => by rfl) _ (fun w hb => (Keeps.below hb) _ _ hbx) _ Try.underlying25 rfl ?_; simp only [Act.put, List.setIfInBounds_toArray, List.set_cons_succ, List.set_cons_zero])
                | (refine f_ix_sl (by first | exact cls_free _ | exact cls_row _ _ _ _ | exact cls_fill _ _ _ _ _ | exact cls_butC _ _ | exact cls_butD _ _ _ _ _ _ _) (fun V => by rfl) 25 (.tmp 26) _ rfl _ _ _ _ (fun V => by rfl) 56 _ (j + 1) _ _ (fun V => by rfl) Try.underlying25 (by kernel_rfl) (by omega) (by omega) ?_; simp only [Act.put, List.setIfInBounds_toArray, List.set_cons_succ, List.set_cons_zero])
                | (refine f_ix_sl (by first | exact cls_free _ | exact cls_row _ _ _ _ | exact cls_fill _ _ _ _ _ | exact cls_butC _ _ | exact cls_butD _ _ _ _ _ _ _) (fun V => by rfl) 25 (.tmp 37) _ rfl _ _ _ _ (fun V => by rfl) 56 _ (j + 1) _ _ (fun V => by rfl) Try.underlying25 (by kernel_rfl) (by omega) (by omega) ?_; simp only [Act.put, List.setIfInBounds_toArray, List.set_cons_succ, List.set_cons_zero])
                | (refine f_ix_sl (by first | exact cls_free _ | exact cls_row _ _ _ _ | exact cls_fill _ _ _ _ _ | exact cls_butC _ _ | exact cls_butD _ _ _ _ _ _ _) (fun V => by rfl) 25 (.tmp 43) _ rfl _ _ _ _ (fun V => by rfl) 56 _ (j) _ _ (fun V => by rfl) Try.underlying25 (by kernel_rfl) (by omega) (by omega) ?_; simp only [Act.put, List.setIfInBounds_toArray, List.set_cons_succ, List.set_cons_zero])
                | (refine f_ix_sl (by first | exact cls_free _ | exact cls_row _ _ _ _ | exact cls_fill _ _ _ _ _ | exact cls_butC _ _ | exact cls_butD _ _ _ _ _ _ _) (fun V => by rfl) 25 (.tmp 50) _ rfl _ _ _ _ (fun V => by rfl) 56 _ (j) _ _ (fun V => by rfl) Try.underlying25 (by kernel_rfl) (by omega) (by omega) ?_; simp only [Act.put, List.setIfInBounds_toArray, List.set_cons_succ, List.set_cons_zero])
                | (refine f_load_mid (by first | exact cls_free _ | exact cls_row _ _ _ _ | exact cls_fill _ _ _ _ _ | exact cls_butC _ _ | exact cls_butD _ _ _ _ _ _ _) (fun V => by rfl) 56 _ rfl _ _ (fun V => by rfl) [.int .i64 r.p, .slice Ad r.d.length cd] _ (fun w hb => fun j v hv => (Keeps.below hb) _ _ (hrg j v hv)) Try.underlying56 rfl (by kernel_rfl) ?_; simp only [Act.put, List.setIfInBounds_toArray, List.set_cons_succ, List.set_cons_zero])
                | (refine f_load_cell (by first | exact cls_free _ | exact cls_row _ _ _ _ | exact cls_fill _ _ _ _ _ | exact cls_butC _ _ | exact cls_butD _ _ _ _ _ _ _) (fun V => by rfl) _ _ rfl _ (fun V => by rfl) _ (fun w hb => (Keeps.below hb) _ _ cr1) _ Try.underlying3 rfl ?_; simp only [Act.put, List.setIfInBounds_toArray, List.set_cons_succ, List.set_cons_zero])
                | (refine f_load_cell (by first | exact cls_free _ | exact cls_row _ _ _ _ | exact cls_fill _ _ _ _ _ | exact cls_butC _ _ | exact cls_butD _ _ _ _ _ _ _) (fun V => by rfl) _ _ rfl _ (fun V => by rfl) _ (fun w hb => (Keeps.below hb) _ _ cp1) _ Try.underlying3 rfl ?_; simp only [Act.put, List.setIfInBounds_toArray, List.set_cons_succ, List.set_cons_zero])
                | (refine f_load_cell (by first | exact cls_free _ | exact cls_row _ _ _ _ | exact cls_fill _ _ _ _ _ | exact cls_butC _ _ | exact cls_butD _ _ _ _ _ _ _) (fun V => by rfl) _ _ rfl _ (fun V => by rfl) _ (fun w hb => (Keeps.below hb) _ _ cp2) _ Try.underlying32 rfl ?_; simp only [Act.put, List.setIfInBounds_toArray, List.set_cons_succ, List.set_cons_zero])
                | (refine f_binop (by first | exact cls_free _ | exact cls_row _ _ _ _ | exact cls_fill _ _ _ _ _ | exact cls_butC _ _ | exact cls_butD _ _ _ _ _ _ _) (fun V => by rfl) _ _ _ _ _ rfl _ _ _ (fun w => run_gtr8 _ _ _ _ true hg0 w) (fun w => grd_gtr8 _ _ _ _ _ w) (fun V => by rfl) (fun V => by rfl) ?_; simp only [Act.put, List.setIfInBounds_toArray, List.set_cons_succ, List.set_cons_zero])
                | (refine f_binop (by first | exact cls_free _ | exact cls_row _ _ _ _ | exact cls_fill _ _ _ _ _ | exact cls_butC _ _ | exact cls_butD _ _ _ _ _ _ _) (fun V => by rfl) _ _ _ _ _ rfl _ _ _ (fun w => run_leq8 _ _ _ _ true hl w) (fun w => grd_leq8 _ _ _ _ _ w) (fun V => by rfl) (fun V => by rfl) ?_; simp only [Act.put, List.setIfInBounds_toArray, List.set_cons_succ, List.set_cons_zero])
                | (refine f_call (by first | exact cls_free _ | exact cls_row _ _ _ _ | exact cls_fill _ _ _ _ _ | exact cls_butC _ _ | exact cls_butD _ _ _ _ _ _ _) (fun V => by rfl) 26 _ _ rfl (enters_of Try.func26 rfl rfl) _ _ (fun V w hb hk => CW.out w) (fun V => by rfl) ?_; simp only [Act.put, List.setIfInBounds_toArray, List.set_cons_succ, List.set_cons_zero])
              | (refine f_quiet (by first | exact cls_free _ | exact cls_row _ _ _ _ | exact cls_fill _ _ _ _ _ | exact cls_butC _ _ | exact cls_butD _ _ _ _ _ _ _) (fun V => by rfl) (fun V => ⟨_, rfl, by simp⟩) ?_; apply Exists.intro; refine And.intro (fun V w hw K hK => ?_) ?_; ((try simp only [Act.put, List.setIfInBounds_toArray, List.set_cons_succ, List.set_cons_zero] at hK); go_big_quiet_op; exact hK); simp only [Act.put, List.setIfInBounds_toArray, List.set_cons_succ, List.set_cons_zero]))
            refine f_nil ?_
            intro V w' hq hkn
            go_wp2
            go_ret
            exact ⟨rfl, hB.trans (hq.mono hB.size)⟩
    · obtain rfl : k = l.length := by omega
      have hyes : okRuns 0 l = true := by rw [hok, List.drop_length]; rfl
      obtain rfl : g = true := HY.out ⟨by omega, by omega, by omega, hyes⟩
      go_wp2
      go_ret
      exact ⟨rfl, hB⟩
end Go.Proofs.Ytafmggipmaofnaa
