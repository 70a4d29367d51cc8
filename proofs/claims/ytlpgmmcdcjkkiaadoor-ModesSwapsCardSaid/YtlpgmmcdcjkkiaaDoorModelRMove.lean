/- The reference's move: what becomes of a counter. -/
import Derived.Test.YtlpgmmcdcjkkiaaDoorModelRPut
import Derived.Test.YtlpgmmcdcjkkiaaDoorWideRef
namespace Go.Proofs.YtlpgmmcdcjkkiaaDoor
set_option maxRecDepth 20000
open Go.RowKit Go.Sort

theorem le_two (n : Nat) : n ≤ n + 1 + 1 := by omega
theorem Tryd.inum : (Tryd.prog.info? 96).map (fun i => (i.zero, i.size, i.bytes)) = some (some (.agg #[.int .i64 0, .int .i64 0]), 2, 16) := by kernel_rfl
theorem Tryd.znum : ∀ w, (zeroValue 96).run Tryd.prog w = .ok (.agg #[.int .i64 0, .int .i64 0]) w := by
  obtain ⟨i, hi, hz0, hz1, hz2⟩ := info_parts Tryd.inum
  intro w
  simp [zeroValue, typeInfo, hi, hz0]
theorem rmove9_no (D : Value) (A : Option Addr) (n m : Nat) (x : Ox) (c : Cl) (w : World) (h : c.k ≠ 2) :
    Calls Tryd.prog 52 #[ov D x, cv (.slice A n m) c] w fun e w' => e = .returned (.tuple #[cv (.slice A n m) c, .int .i64 6]) ∧ Below w.heap.size w w' := by
  have hk : (c.k != 2) = true := by simpa using h
  clear h
  unfold ov kst cv
  go_enter Tryd.func52, Tryd.ntmps52
  go_wp2
  refine bodyPost_ret (v := .tuple #[.agg #[.int .i64 c.k, .slice A n m, .int .i64 c.lo, .int .i64 c.hi, .int .i64 c.v], .int .i64 6]) ?_ rfl ⟨rfl, three_more (Below.refl _ _) _ _ _⟩
  exact results_cell_tmp rfl _ _ (w.heap.size + 1 + 1) _ _ (0, 0) _ rfl (Whole.third w _ _ _ _) Tryd.underlying36 rfl (by kernel_rfl) _ rfl
/-- What becomes of a counter that is to have the value n. -/
def movC (c : Cl) (n : Int) : Cl × Int := if inB c.lo c.hi n then (⟨c.k, c.d, c.lo, c.hi, n⟩, 0) else (c, 8)
theorem mov_low {c : Cl} {n : Int} (h : n < c.lo) : movC c n = (c, 8) := by
  have : inB c.lo c.hi n = false := by simp [inB]; intro h2; omega
  simp [movC, this]
theorem mov_high {c : Cl} {n : Int} (h : c.hi < n) : movC c n = (c, 8) := by
  have : inB c.lo c.hi n = false := by simp [inB]; intro h2; omega
  simp [movC, this]
theorem mov_in {c : Cl} {n : Int} (h1 : ¬ n < c.lo) (h2 : ¬ c.hi < n) : movC c n = (⟨c.k, c.d, c.lo, c.hi, n⟩, 0) := by
  have : inB c.lo c.hi n = true := by simp [inB]; omega
  simp [movC, this]
set_option maxHeartbeats 4000000 in
theorem rmove9_add (D : Value) (A : Option Addr) (n m : Nat) (d : Int) (k xb b : List UInt8) (xlo xhi xn lo hi v : Int) (w : World) (hd : ¬ d = 5) (hlo64 : in64 lo) (hhi64 : in64 hi) (hv64 : in64 v) (hx64 : in64 xn) :
    Calls Tryd.prog 52 #[ov D ⟨d, k, xb, xlo, xhi, xn⟩, cv (.slice A n m) ⟨2, b, lo, hi, v⟩] w fun e w' => e = .returned (.tuple #[cv (.slice A n m) (movC ⟨2, b, lo, hi, v⟩ (v + xn)).1, .int .i64 (movC ⟨2, b, lo, hi, v⟩ (v + xn)).2]) ∧ Below w.heap.size w w' := by
  have hd5 : (d == 5) = false := by simpa using hd
  clear hd
  have LO := fun w => refOf_any lo w hlo64
  have HI := fun w => refOf_any hi w hhi64
  have OV := fun w => refOf_any v w hv64
  have OX := fun w => refOf_any xn w hx64
  have JN := fun w => refJoin_any v xn w (inNum64 hv64) (inNum64 hx64)
  have TK := fun w => refTake_any v xn w (inNum64 hv64) (inNum64 hx64)
  unfold num at LO HI OV OX JN TK
  replace LO := Lib.hid LO
  replace HI := Lib.hid HI
  replace OV := Lib.hid OV
  replace OX := Lib.hid OX
  replace JN := Lib.hid JN
  replace TK := Lib.hid TK
  have hz := Lib.hid Tryd.znum
  unfold ov kst cv
  dsimp only
  go_enter Tryd.func52, Tryd.ntmps52
  go_wp2
  have p2 := Lib.hid (((Whole.made w 24 #[.int .i64 d, .string ⟨k.toArray⟩, D, .int .i64 xlo, .int .i64 xhi, .int .i64 xn]).later (.cells #[.int .i64 2, .slice A n m, .int .i64 lo, .int .i64 hi, .int .i64 v] 36)).later (.cells #[.int .i64 0, .slice none 0 0, .int .i64 0, .int .i64 0, .int .i64 0] 36))
  have p3 := Lib.hid ((Whole.second w (.cells #[.int .i64 d, .string ⟨k.toArray⟩, D, .int .i64 xlo, .int .i64 xhi, .int .i64 xn] 24) 36 #[.int .i64 2, .slice A n m, .int .i64 lo, .int .i64 hi, .int .i64 v]).later (.cells #[.int .i64 0, .slice none 0 0, .int .i64 0, .int .i64 0, .int .i64 0] 36))
  have p4 := Lib.hid (Whole.third w (.cells #[.int .i64 d, .string ⟨k.toArray⟩, D, .int .i64 xlo, .int .i64 xhi, .int .i64 xn] 24) (.cells #[.int .i64 2, .slice A n m, .int .i64 lo, .int .i64 hi, .int .i64 v] 36) 36 #[.int .i64 0, .slice none 0 0, .int .i64 0, .int .i64 0, .int .i64 0])
  have B1 := Lib.hid (three_more (Below.refl _ w) (.cells #[.int .i64 d, .string ⟨k.toArray⟩, D, .int .i64 xlo, .int .i64 xhi, .int .i64 xn] 24) (.cells #[.int .i64 2, .slice A n m, .int .i64 lo, .int .i64 hi, .int .i64 v] 36) (.cells #[.int .i64 0, .slice none 0 0, .int .i64 0, .int .i64 0, .int .i64 0] 36))
  generalize ((w.alloc (.cells #[.int .i64 d, .string ⟨k.toArray⟩, D, .int .i64 xlo, .int .i64 xhi, .int .i64 xn] 24)).alloc (.cells #[.int .i64 2, .slice A n m, .int .i64 lo, .int .i64 hi, .int .i64 v] 36)).alloc (.cells #[.int .i64 0, .slice none 0 0, .int .i64 0, .int .i64 0, .int .i64 0] 36) = w1 at *
  have hlt4 := p4.out.lt
  refine wp_region_facts 8 [] [6] (by kernel_rfl) (by kernel_rfl) (by kernel_rfl) (free_draw w1) ?_
  simp only [List.take_succ_cons, List.take_zero, List.drop_succ_cons, List.drop_zero, List.zipIdx_cons, List.zipIdx_nil, Nat.zero_add, Nat.reduceAdd]
  repeat (show wpF _ _ _ _ _ _ (_ :: _) _ _; first
    | (refine f_skip (fun V => by rfl) ?_; simp only [Act.put, List.setIfInBounds_toArray, List.set_cons_succ, List.set_cons_zero])
      
    | (refine f_load_cell (by first | exact cls_free _ | exact cls_row _ _ _ _ | exact cls_fill _ _ _ _ _ | exact cls_butC _ _ | exact cls_butD _ _ _ _ _ _ _) (fun V => by rfl) _ _ rfl _ (fun V => by rfl) _ (fun w hb => (p3.out.on hb).cell 4) _ Tryd.underlying3 rfl ?_; simp only [Act.put, List.setIfInBounds_toArray, List.set_cons_succ, List.set_cons_zero])
    | (refine f_load_cell (by first | exact cls_free _ | exact cls_row _ _ _ _ | exact cls_fill _ _ _ _ _ | exact cls_butC _ _ | exact cls_butD _ _ _ _ _ _ _) (fun V => by rfl) _ _ rfl _ (fun V => by rfl) _ (fun w hb => (p2.out.on hb).cell 5) _ Tryd.underlying3 rfl ?_; simp only [Act.put, List.setIfInBounds_toArray, List.set_cons_succ, List.set_cons_zero])
    | (refine f_call (by first | exact cls_free _ | exact cls_row _ _ _ _ | exact cls_fill _ _ _ _ _ | exact cls_butC _ _ | exact cls_butD _ _ _ _ _ _ _) (fun V => by rfl) 78 _ _ rfl (enters_of Tryd.func78 rfl rfl) _ _ (fun V w hb hk => OV.out w) (fun V => by rfl) ?_; simp only [Act.put, List.setIfInBounds_toArray, List.set_cons_succ, List.set_cons_zero])
    | (refine f_call (by first | exact cls_free _ | exact cls_row _ _ _ _ | exact cls_fill _ _ _ _ _ | exact cls_butC _ _ | exact cls_butD _ _ _ _ _ _ _) (fun V => by rfl) 78 _ _ rfl (enters_of Tryd.func78 rfl rfl) _ _ (fun V w hb hk => OX.out w) (fun V => by rfl) ?_; simp only [Act.put, List.setIfInBounds_toArray, List.set_cons_succ, List.set_cons_zero])
    | (refine f_call (by first | exact cls_free _ | exact cls_row _ _ _ _ | exact cls_fill _ _ _ _ _ | exact cls_butC _ _ | exact cls_butD _ _ _ _ _ _ _) (fun V => by rfl) 77 _ _ rfl (enters_of Tryd.func77 rfl rfl) _ _ (fun V w hb hk => JN.out w) (fun V => by rfl) ?_; simp only [Act.put, List.setIfInBounds_toArray, List.set_cons_succ, List.set_cons_zero])
    | (refine f_alloc (by first | exact cls_free _ | exact cls_row _ _ _ _ | exact cls_fill _ _ _ _ _ | exact cls_butC _ _ | exact cls_butD _ _ _ _ _ _ _) 96 rfl (fun V => by rfl) (by decide) w1.heap.size (fun w hb => Below.size hb) #[.int .i64 0, .int .i64 0] (hz.out) ?_; simp only [Act.put, List.setIfInBounds_toArray, List.set_cons_succ, List.set_cons_zero, keyOf, Option.getD_some])
    | (refine f_quiet (by first | exact cls_free _ | exact cls_row _ _ _ _ | exact cls_fill _ _ _ _ _ | exact cls_butC _ _ | exact cls_butD _ _ _ _ _ _ _) (fun V => by rfl) (fun V => ⟨_, rfl, by simp⟩) ?_; apply Exists.intro; refine And.intro (fun V w hw K hK => ?_) ?_; ((try simp only [Act.put, List.setIfInBounds_toArray, List.set_cons_succ, List.set_cons_zero] at hK); go_big_quiet_op; exact hK); simp only [Act.put, List.setIfInBounds_toArray, List.set_cons_succ, List.set_cons_zero]))
  refine f_nil ?_
  intro V w2 hq hkn
  obtain ⟨g6, hg, hW, hgB⟩ := all_slot hkn 6 rfl
  rw [hg]
  clear hkn hg V
  replace p2 := Lib.hid (p2.out.on hq)
  replace p3 := Lib.hid (p3.out.on hq)
  replace p4 := Lib.hid (p4.out.on hq)
  have hB2 := Lib.hid (B1.out.trans (hq.mono B1.out.size))
  replace hW := Lib.hid hW
  have h26 := Lib.hid (show w.heap.size ≠ g6 by omega)
  have h36 := Lib.hid (show w.heap.size + 1 ≠ g6 by omega)
  have h46 := Lib.hid (show w.heap.size + 1 + 1 ≠ g6 by omega)
  have hle6 := Lib.hid (show w.heap.size ≤ g6 by omega)
  clear hq hgB hlt4
  go_wp2_with ((show wpList _ _ _ (Oper.mk _ (.store _ (.tmp 6) _) _ _ _ _ :: _) _ _; refine wpList_store_row rfl _ (.tmp 6) (.tmp 19) rfl (g6) _ rfl rfl _ _ (hW.out) (by kernel_rfl) rfl (by simp [Value.oneCell']) ?_); generalize hS : World.setRow w2 g6 _ = w3; have hbt : But g6 w2 w3 := hS ▸ but_setRow _ _ _; have p6 : Hid (Whole w3 g6 96 #[.int .i64 ((v + xn) / 4294967296), .int .i64 ((v + xn) % 4294967296)]) := Lib.hid (hS ▸ setRow_heap _ _ _ _ _ _ hW.out); replace p2 := Lib.hid (p2.out.but hbt h26.out); replace p3 := Lib.hid (p3.out.but hbt h36.out); replace p4 := Lib.hid (p4.out.but hbt h46.out); have B5 : Hid (Below w.heap.size w w3) := Lib.hid (hS ▸ below_setRow hB2.out hle6.out _); clear hS hbt hW hB2; have y0 : w3.cell? ⟨w.heap.size, 0, none⟩ = some (.int .i64 d) := p2.out.cell 0)
  clear hz JN OV OX TK h26 h36 h46 hle6
  by_cases hlo : v + xn < lo
  · have hmov := Lib.hid (mov_low (c := ⟨2, b, lo, hi, v⟩) hlo)
    have LL := fun w => refLess_any (v + xn) lo w
    unfold num at LL
    rw [decide_eq_true hlo] at LL
    replace LL := Lib.hid LL
    clear hlo
    refine wp_region_facts 12 [] [] (by kernel_rfl) (by kernel_rfl) (by kernel_rfl) (free_draw w3) ?_
    simp only [List.take_succ_cons, List.take_zero, List.drop_succ_cons, List.drop_zero, List.zipIdx_cons, List.zipIdx_nil, Nat.zero_add, Nat.reduceAdd]
    repeat (show wpF _ _ _ _ _ _ (_ :: _) _ _; first
      | (refine f_skip (fun V => by rfl) ?_; simp only [Act.put, List.setIfInBounds_toArray, List.set_cons_succ, List.set_cons_zero])
        
        | (refine f_load_row (by first | exact cls_free _ | exact cls_row _ _ _ _ | exact cls_fill _ _ _ _ _ | exact cls_butC _ _ | exact cls_butD _ _ _ _ _ _ _) (fun V => by rfl) _ _ rfl _ (fun V => by rfl) _ _ _ (fun w hb => p6.out.on hb) Tryd.underlying96 rfl (by kernel_rfl) ?_; simp only [Act.put, List.setIfInBounds_toArray, List.set_cons_succ, List.set_cons_zero])
        | (refine f_load_cell (by first | exact cls_free _ | exact cls_row _ _ _ _ | exact cls_fill _ _ _ _ _ | exact cls_butC _ _ | exact cls_butD _ _ _ _ _ _ _) (fun V => by rfl) _ _ rfl _ (fun V => by rfl) _ (fun w hb => (p3.out.on hb).cell 2) _ Tryd.underlying3 rfl ?_; simp only [Act.put, List.setIfInBounds_toArray, List.set_cons_succ, List.set_cons_zero])
        | (refine f_call (by first | exact cls_free _ | exact cls_row _ _ _ _ | exact cls_fill _ _ _ _ _ | exact cls_butC _ _ | exact cls_butD _ _ _ _ _ _ _) (fun V => by rfl) 78 _ _ rfl (enters_of Tryd.func78 rfl rfl) _ _ (fun V w hb hk => LO.out w) (fun V => by rfl) ?_; simp only [Act.put, List.setIfInBounds_toArray, List.set_cons_succ, List.set_cons_zero])
        | (refine f_call (by first | exact cls_free _ | exact cls_row _ _ _ _ | exact cls_fill _ _ _ _ _ | exact cls_butC _ _ | exact cls_butD _ _ _ _ _ _ _) (fun V => by rfl) 80 _ _ rfl (enters_of Tryd.func80 rfl rfl) _ _ (fun V w hb hk => LL.out w) (fun V => by rfl) ?_; simp only [Act.put, List.setIfInBounds_toArray, List.set_cons_succ, List.set_cons_zero])
      | (refine f_quiet (by first | exact cls_free _ | exact cls_row _ _ _ _ | exact cls_fill _ _ _ _ _ | exact cls_butC _ _ | exact cls_butD _ _ _ _ _ _ _) (fun V => by rfl) (fun V => ⟨_, rfl, by simp⟩) ?_; apply Exists.intro; refine And.intro (fun V w hw K hK => ?_) ?_; ((try simp only [Act.put, List.setIfInBounds_toArray, List.set_cons_succ, List.set_cons_zero] at hK); go_big_quiet_op; exact hK); simp only [Act.put, List.setIfInBounds_toArray, List.set_cons_succ, List.set_cons_zero]))
    refine f_nil ?_
    intro V w7 hq hkn
    clear hkn
    replace p3 := Lib.hid (p3.out.on hq)
    replace p4 := Lib.hid (p4.out.on hq)
    have B7 := Lib.hid (B5.out.trans (hq.mono B5.out.size))
    clear hq
    go_wp2_with (first
      | (show wpList _ _ _ (Oper.mk _ (.load _ (.tmp 3)) _ _ _ _ :: _) _ _; refine wpList_load_row rfl 36 (.tmp 3) rfl (w.heap.size + 1) rfl _ _ _ _ (p3.out) Tryd.underlying36 rfl (by kernel_rfl) ?_)
      | (show wpList _ _ _ (Oper.mk _ (.store _ (.tmp 4) _) _ _ _ _ :: _) _ _; refine wpList_store_row rfl _ (.tmp 4) (.tmp 42) rfl (w.heap.size + 1 + 1) _ rfl rfl _ _ (p4.out) (by kernel_rfl) rfl (by simp [Value.oneCell']) ?_))
    refine bodyPost_ret (v := .tuple #[.agg #[.int .i64 2, .slice A n m, .int .i64 lo, .int .i64 hi, .int .i64 v], .int .i64 8]) ?_ rfl ⟨by rw [hmov.out], below_setRow B7.out (le_two _) _⟩
    exact results_cell_tmp rfl _ _ (w.heap.size + 1 + 1) _ _ (0, 0) _ rfl (setRow_heap _ _ _ _ _ _ p4.out) Tryd.underlying36 rfl (by kernel_rfl) _ rfl
  · by_cases hhi : hi < v + xn
    · have hmov := Lib.hid (mov_high (c := ⟨2, b, lo, hi, v⟩) hhi)
      have LL := fun w => refLess_any (v + xn) lo w
      have LH := fun w => refLess_any hi (v + xn) w
      unfold num at LL LH
      rw [decide_eq_false hlo] at LL
      rw [decide_eq_true hhi] at LH
      replace LL := Lib.hid LL
      replace LH := Lib.hid LH
      clear hlo hhi
      refine wp_region_facts 12 [] [] (by kernel_rfl) (by kernel_rfl) (by kernel_rfl) (free_draw w3) ?_
      simp only [List.take_succ_cons, List.take_zero, List.drop_succ_cons, List.drop_zero, List.zipIdx_cons, List.zipIdx_nil, Nat.zero_add, Nat.reduceAdd]
      repeat (show wpF _ _ _ _ _ _ (_ :: _) _ _; first
        | (refine f_skip (fun V => by rfl) ?_; simp only [Act.put, List.setIfInBounds_toArray, List.set_cons_succ, List.set_cons_zero])
          
            | (refine f_load_row (by first | exact cls_free _ | exact cls_row _ _ _ _ | exact cls_fill _ _ _ _ _ | exact cls_butC _ _ | exact cls_butD _ _ _ _ _ _ _) (fun V => by rfl) _ _ rfl _ (fun V => by rfl) _ _ _ (fun w hb => p6.out.on hb) Tryd.underlying96 rfl (by kernel_rfl) ?_; simp only [Act.put, List.setIfInBounds_toArray, List.set_cons_succ, List.set_cons_zero])
            | (refine f_load_cell (by first | exact cls_free _ | exact cls_row _ _ _ _ | exact cls_fill _ _ _ _ _ | exact cls_butC _ _ | exact cls_butD _ _ _ _ _ _ _) (fun V => by rfl) _ _ rfl _ (fun V => by rfl) _ (fun w hb => (p3.out.on hb).cell 2) _ Tryd.underlying3 rfl ?_; simp only [Act.put, List.setIfInBounds_toArray, List.set_cons_succ, List.set_cons_zero])
            | (refine f_load_cell (by first | exact cls_free _ | exact cls_row _ _ _ _ | exact cls_fill _ _ _ _ _ | exact cls_butC _ _ | exact cls_butD _ _ _ _ _ _ _) (fun V => by rfl) _ _ rfl _ (fun V => by rfl) _ (fun w hb => (p3.out.on hb).cell 3) _ Tryd.underlying3 rfl ?_; simp only [Act.put, List.setIfInBounds_toArray, List.set_cons_succ, List.set_cons_zero])
            | (refine f_call (by first | exact cls_free _ | exact cls_row _ _ _ _ | exact cls_fill _ _ _ _ _ | exact cls_butC _ _ | exact cls_butD _ _ _ _ _ _ _) (fun V => by rfl) 78 _ _ rfl (enters_of Tryd.func78 rfl rfl) _ _ (fun V w hb hk => LO.out w) (fun V => by rfl) ?_; simp only [Act.put, List.setIfInBounds_toArray, List.set_cons_succ, List.set_cons_zero])
            | (refine f_call (by first | exact cls_free _ | exact cls_row _ _ _ _ | exact cls_fill _ _ _ _ _ | exact cls_butC _ _ | exact cls_butD _ _ _ _ _ _ _) (fun V => by rfl) 78 _ _ rfl (enters_of Tryd.func78 rfl rfl) _ _ (fun V w hb hk => HI.out w) (fun V => by rfl) ?_; simp only [Act.put, List.setIfInBounds_toArray, List.set_cons_succ, List.set_cons_zero])
            | (refine f_call (by first | exact cls_free _ | exact cls_row _ _ _ _ | exact cls_fill _ _ _ _ _ | exact cls_butC _ _ | exact cls_butD _ _ _ _ _ _ _) (fun V => by rfl) 80 _ _ rfl (enters_of Tryd.func80 rfl rfl) _ _ (fun V w hb hk => LL.out w) (fun V => by rfl) ?_; simp only [Act.put, List.setIfInBounds_toArray, List.set_cons_succ, List.set_cons_zero])
            | (refine f_call (by first | exact cls_free _ | exact cls_row _ _ _ _ | exact cls_fill _ _ _ _ _ | exact cls_butC _ _ | exact cls_butD _ _ _ _ _ _ _) (fun V => by rfl) 80 _ _ rfl (enters_of Tryd.func80 rfl rfl) _ _ (fun V w hb hk => LH.out w) (fun V => by rfl) ?_; simp only [Act.put, List.setIfInBounds_toArray, List.set_cons_succ, List.set_cons_zero])
        | (refine f_quiet (by first | exact cls_free _ | exact cls_row _ _ _ _ | exact cls_fill _ _ _ _ _ | exact cls_butC _ _ | exact cls_butD _ _ _ _ _ _ _) (fun V => by rfl) (fun V => ⟨_, rfl, by simp⟩) ?_; apply Exists.intro; refine And.intro (fun V w hw K hK => ?_) ?_; ((try simp only [Act.put, List.setIfInBounds_toArray, List.set_cons_succ, List.set_cons_zero] at hK); go_big_quiet_op; exact hK); simp only [Act.put, List.setIfInBounds_toArray, List.set_cons_succ, List.set_cons_zero]))
      refine f_nil ?_
      intro V w7 hq hkn
      clear hkn
      replace p3 := Lib.hid (p3.out.on hq)
      replace p4 := Lib.hid (p4.out.on hq)
      have B7 := Lib.hid (B5.out.trans (hq.mono B5.out.size))
      clear hq
      go_wp2_with (first
        | (show wpList _ _ _ (Oper.mk _ (.load _ (.tmp 3)) _ _ _ _ :: _) _ _; refine wpList_load_row rfl 36 (.tmp 3) rfl (w.heap.size + 1) rfl _ _ _ _ (p3.out) Tryd.underlying36 rfl (by kernel_rfl) ?_)
        | (show wpList _ _ _ (Oper.mk _ (.store _ (.tmp 4) _) _ _ _ _ :: _) _ _; refine wpList_store_row rfl _ (.tmp 4) (.tmp 42) rfl (w.heap.size + 1 + 1) _ rfl rfl _ _ (p4.out) (by kernel_rfl) rfl (by simp [Value.oneCell']) ?_))
      refine bodyPost_ret (v := .tuple #[.agg #[.int .i64 2, .slice A n m, .int .i64 lo, .int .i64 hi, .int .i64 v], .int .i64 8]) ?_ rfl ⟨by rw [hmov.out], below_setRow B7.out (le_two _) _⟩
      exact results_cell_tmp rfl _ _ (w.heap.size + 1 + 1) _ _ (0, 0) _ rfl (setRow_heap _ _ _ _ _ _ p4.out) Tryd.underlying36 rfl (by kernel_rfl) _ rfl
    · have hmov := Lib.hid (mov_in (c := ⟨2, b, lo, hi, v⟩) hlo hhi)
      have LL := fun w => refLess_any (v + xn) lo w
      have LH := fun w => refLess_any hi (v + xn) w
      unfold num at LL LH
      rw [decide_eq_false hlo] at LL
      rw [decide_eq_false hhi] at LH
      have hn64 : in64 (v + xn) := ⟨by have := hlo64.1; omega, by have := hhi64.2; omega⟩
      have IT := fun w => refInt_any (v + xn) w (inNum64 hn64)
      rw [(fit_yes hn64).1, (fit_yes hn64).2] at IT
      unfold num at IT
      replace LL := Lib.hid LL
      replace LH := Lib.hid LH
      replace IT := Lib.hid IT
      clear hlo hhi hn64
      refine wp_region_facts 12 [] [] (by kernel_rfl) (by kernel_rfl) (by kernel_rfl) (free_draw w3) ?_
      simp only [List.take_succ_cons, List.take_zero, List.drop_succ_cons, List.drop_zero, List.zipIdx_cons, List.zipIdx_nil, Nat.zero_add, Nat.reduceAdd]
      repeat (show wpF _ _ _ _ _ _ (_ :: _) _ _; first
        | (refine f_skip (fun V => by rfl) ?_; simp only [Act.put, List.setIfInBounds_toArray, List.set_cons_succ, List.set_cons_zero])
          
            | (refine f_load_row (by first | exact cls_free _ | exact cls_row _ _ _ _ | exact cls_fill _ _ _ _ _ | exact cls_butC _ _ | exact cls_butD _ _ _ _ _ _ _) (fun V => by rfl) _ _ rfl _ (fun V => by rfl) _ _ _ (fun w hb => p6.out.on hb) Tryd.underlying96 rfl (by kernel_rfl) ?_; simp only [Act.put, List.setIfInBounds_toArray, List.set_cons_succ, List.set_cons_zero])
            | (refine f_load_cell (by first | exact cls_free _ | exact cls_row _ _ _ _ | exact cls_fill _ _ _ _ _ | exact cls_butC _ _ | exact cls_butD _ _ _ _ _ _ _) (fun V => by rfl) _ _ rfl _ (fun V => by rfl) _ (fun w hb => (p3.out.on hb).cell 2) _ Tryd.underlying3 rfl ?_; simp only [Act.put, List.setIfInBounds_toArray, List.set_cons_succ, List.set_cons_zero])
            | (refine f_load_cell (by first | exact cls_free _ | exact cls_row _ _ _ _ | exact cls_fill _ _ _ _ _ | exact cls_butC _ _ | exact cls_butD _ _ _ _ _ _ _) (fun V => by rfl) _ _ rfl _ (fun V => by rfl) _ (fun w hb => (p3.out.on hb).cell 3) _ Tryd.underlying3 rfl ?_; simp only [Act.put, List.setIfInBounds_toArray, List.set_cons_succ, List.set_cons_zero])
            | (refine f_call (by first | exact cls_free _ | exact cls_row _ _ _ _ | exact cls_fill _ _ _ _ _ | exact cls_butC _ _ | exact cls_butD _ _ _ _ _ _ _) (fun V => by rfl) 78 _ _ rfl (enters_of Tryd.func78 rfl rfl) _ _ (fun V w hb hk => LO.out w) (fun V => by rfl) ?_; simp only [Act.put, List.setIfInBounds_toArray, List.set_cons_succ, List.set_cons_zero])
            | (refine f_call (by first | exact cls_free _ | exact cls_row _ _ _ _ | exact cls_fill _ _ _ _ _ | exact cls_butC _ _ | exact cls_butD _ _ _ _ _ _ _) (fun V => by rfl) 78 _ _ rfl (enters_of Tryd.func78 rfl rfl) _ _ (fun V w hb hk => HI.out w) (fun V => by rfl) ?_; simp only [Act.put, List.setIfInBounds_toArray, List.set_cons_succ, List.set_cons_zero])
            | (refine f_call (by first | exact cls_free _ | exact cls_row _ _ _ _ | exact cls_fill _ _ _ _ _ | exact cls_butC _ _ | exact cls_butD _ _ _ _ _ _ _) (fun V => by rfl) 80 _ _ rfl (enters_of Tryd.func80 rfl rfl) _ _ (fun V w hb hk => LL.out w) (fun V => by rfl) ?_; simp only [Act.put, List.setIfInBounds_toArray, List.set_cons_succ, List.set_cons_zero])
            | (refine f_call (by first | exact cls_free _ | exact cls_row _ _ _ _ | exact cls_fill _ _ _ _ _ | exact cls_butC _ _ | exact cls_butD _ _ _ _ _ _ _) (fun V => by rfl) 80 _ _ rfl (enters_of Tryd.func80 rfl rfl) _ _ (fun V w hb hk => LH.out w) (fun V => by rfl) ?_; simp only [Act.put, List.setIfInBounds_toArray, List.set_cons_succ, List.set_cons_zero])
        | (refine f_quiet (by first | exact cls_free _ | exact cls_row _ _ _ _ | exact cls_fill _ _ _ _ _ | exact cls_butC _ _ | exact cls_butD _ _ _ _ _ _ _) (fun V => by rfl) (fun V => ⟨_, rfl, by simp⟩) ?_; apply Exists.intro; refine And.intro (fun V w hw K hK => ?_) ?_; ((try simp only [Act.put, List.setIfInBounds_toArray, List.set_cons_succ, List.set_cons_zero] at hK); go_big_quiet_op; exact hK); simp only [Act.put, List.setIfInBounds_toArray, List.set_cons_succ, List.set_cons_zero]))
      refine f_nil ?_
      intro V w7 hq hkn
      clear hkn
      replace p3 := Lib.hid (p3.out.on hq)
      replace p4 := Lib.hid (p4.out.on hq)
      replace p6 := Lib.hid (p6.out.on hq)
      have B7 := Lib.hid (B5.out.trans (hq.mono B5.out.size))
      clear hq
      go_wp2_with (show wpList _ _ _ (Oper.mk _ (.load _ (.tmp 6)) _ _ _ _ :: _) _ _; refine wpList_load_row rfl 96 (.tmp 6) rfl (g6) rfl _ _ _ _ (p6.out) Tryd.underlying96 rfl (by kernel_rfl) ?_)
      refine (IT.out _).mono ?_
      rintro e w8 ⟨rfl, b8⟩
      replace p3 := Lib.hid (p3.out.on b8)
      replace p4 := Lib.hid (p4.out.on b8)
      have B8 := Lib.hid (B7.out.trans (b8.mono B7.out.size))
      clear b8
      have z4 : w8.cell? ⟨w.heap.size + 1, 4, none⟩ = some (.int .i64 v) := p3.out.cell 4
      have f4 := p3.out.free 4
      go_wp2_with (first
        | (show wpList _ _ _ (Oper.mk _ (.load _ (.tmp 3)) _ _ _ _ :: _) _ _; refine wpList_load_row rfl 36 (.tmp 3) rfl (w.heap.size + 1) rfl _ _ _ _ (show Whole _ _ _ #[.int .i64 2, .slice A n m, .int .i64 lo, .int .i64 hi, .int .i64 (v + xn)] from p3.out.put 4 _) Tryd.underlying36 rfl (by kernel_rfl) ?_)
        | (show wpList _ _ _ (Oper.mk _ (.store _ (.tmp 4) _) _ _ _ _ :: _) _ _; refine wpList_store_row rfl _ (.tmp 4) (.tmp 50) rfl (w.heap.size + 1 + 1) _ rfl rfl _ _ (p4.out.apart (Nat.ne_of_gt (Nat.lt_succ_self _)) _) (by kernel_rfl) rfl (by simp [Value.oneCell']) ?_))
      refine bodyPost_ret (v := .tuple #[.agg #[.int .i64 2, .slice A n m, .int .i64 lo, .int .i64 hi, .int .i64 (v + xn)], .int .i64 0]) ?_ rfl ⟨by rw [hmov.out], below_setRow (B8.out.setCell (p := ⟨w.heap.size + 1, 4, none⟩) (Nat.le_succ _) _) (le_two _) _⟩
      exact results_cell_tmp rfl _ _ (w.heap.size + 1 + 1) _ _ (0, 0) _ rfl (setRow_heap _ _ _ _ _ _ (p4.out.apart (Nat.ne_of_gt (Nat.lt_succ_self _)) _)) Tryd.underlying36 rfl (by kernel_rfl) _ rfl
set_option maxHeartbeats 4000000 in
theorem rmove9_sub (D : Value) (A : Option Addr) (n m : Nat) (k xb b : List UInt8) (xlo xhi xn lo hi v : Int) (w : World) (hlo64 : in64 lo) (hhi64 : in64 hi) (hv64 : in64 v) (hx64 : in64 xn) :
    Calls Tryd.prog 52 #[ov D ⟨5, k, xb, xlo, xhi, xn⟩, cv (.slice A n m) ⟨2, b, lo, hi, v⟩] w fun e w' => e = .returned (.tuple #[cv (.slice A n m) (movC ⟨2, b, lo, hi, v⟩ (v - xn)).1, .int .i64 (movC ⟨2, b, lo, hi, v⟩ (v - xn)).2]) ∧ Below w.heap.size w w' := by
  obtain ⟨d, hd⟩ : ∃ d : Int, d = 5 := ⟨5, rfl⟩
  rw [← hd]
  have hd5 : (d == 5) = true := by simpa using hd
  clear hd
  have LO := fun w => refOf_any lo w hlo64
  have HI := fun w => refOf_any hi w hhi64
  have OV := fun w => refOf_any v w hv64
  have OX := fun w => refOf_any xn w hx64
  have JN := fun w => refJoin_any v xn w (inNum64 hv64) (inNum64 hx64)
  have TK := fun w => refTake_any v xn w (inNum64 hv64) (inNum64 hx64)
  unfold num at LO HI OV OX JN TK
  replace LO := Lib.hid LO
  replace HI := Lib.hid HI
  replace OV := Lib.hid OV
  replace OX := Lib.hid OX
  replace JN := Lib.hid JN
  replace TK := Lib.hid TK
  have hz := Lib.hid Tryd.znum
  unfold ov kst cv
  dsimp only
  go_enter Tryd.func52, Tryd.ntmps52
  go_wp2
  have p2 := Lib.hid (((Whole.made w 24 #[.int .i64 d, .string ⟨k.toArray⟩, D, .int .i64 xlo, .int .i64 xhi, .int .i64 xn]).later (.cells #[.int .i64 2, .slice A n m, .int .i64 lo, .int .i64 hi, .int .i64 v] 36)).later (.cells #[.int .i64 0, .slice none 0 0, .int .i64 0, .int .i64 0, .int .i64 0] 36))
  have p3 := Lib.hid ((Whole.second w (.cells #[.int .i64 d, .string ⟨k.toArray⟩, D, .int .i64 xlo, .int .i64 xhi, .int .i64 xn] 24) 36 #[.int .i64 2, .slice A n m, .int .i64 lo, .int .i64 hi, .int .i64 v]).later (.cells #[.int .i64 0, .slice none 0 0, .int .i64 0, .int .i64 0, .int .i64 0] 36))
  have p4 := Lib.hid (Whole.third w (.cells #[.int .i64 d, .string ⟨k.toArray⟩, D, .int .i64 xlo, .int .i64 xhi, .int .i64 xn] 24) (.cells #[.int .i64 2, .slice A n m, .int .i64 lo, .int .i64 hi, .int .i64 v] 36) 36 #[.int .i64 0, .slice none 0 0, .int .i64 0, .int .i64 0, .int .i64 0])
  have B1 := Lib.hid (three_more (Below.refl _ w) (.cells #[.int .i64 d, .string ⟨k.toArray⟩, D, .int .i64 xlo, .int .i64 xhi, .int .i64 xn] 24) (.cells #[.int .i64 2, .slice A n m, .int .i64 lo, .int .i64 hi, .int .i64 v] 36) (.cells #[.int .i64 0, .slice none 0 0, .int .i64 0, .int .i64 0, .int .i64 0] 36))
  generalize ((w.alloc (.cells #[.int .i64 d, .string ⟨k.toArray⟩, D, .int .i64 xlo, .int .i64 xhi, .int .i64 xn] 24)).alloc (.cells #[.int .i64 2, .slice A n m, .int .i64 lo, .int .i64 hi, .int .i64 v] 36)).alloc (.cells #[.int .i64 0, .slice none 0 0, .int .i64 0, .int .i64 0, .int .i64 0] 36) = w1 at *
  have hlt4 := p4.out.lt
  refine wp_region_facts 8 [] [6] (by kernel_rfl) (by kernel_rfl) (by kernel_rfl) (free_draw w1) ?_
  simp only [List.take_succ_cons, List.take_zero, List.drop_succ_cons, List.drop_zero, List.zipIdx_cons, List.zipIdx_nil, Nat.zero_add, Nat.reduceAdd]
  repeat (show wpF _ _ _ _ _ _ (_ :: _) _ _; first
    | (refine f_skip (fun V => by rfl) ?_; simp only [Act.put, List.setIfInBounds_toArray, List.set_cons_succ, List.set_cons_zero])
      
    | (refine f_load_cell (by first | exact cls_free _ | exact cls_row _ _ _ _ | exact cls_fill _ _ _ _ _ | exact cls_butC _ _ | exact cls_butD _ _ _ _ _ _ _) (fun V => by rfl) _ _ rfl _ (fun V => by rfl) _ (fun w hb => (p3.out.on hb).cell 4) _ Tryd.underlying3 rfl ?_; simp only [Act.put, List.setIfInBounds_toArray, List.set_cons_succ, List.set_cons_zero])
    | (refine f_load_cell (by first | exact cls_free _ | exact cls_row _ _ _ _ | exact cls_fill _ _ _ _ _ | exact cls_butC _ _ | exact cls_butD _ _ _ _ _ _ _) (fun V => by rfl) _ _ rfl _ (fun V => by rfl) _ (fun w hb => (p2.out.on hb).cell 5) _ Tryd.underlying3 rfl ?_; simp only [Act.put, List.setIfInBounds_toArray, List.set_cons_succ, List.set_cons_zero])
    | (refine f_call (by first | exact cls_free _ | exact cls_row _ _ _ _ | exact cls_fill _ _ _ _ _ | exact cls_butC _ _ | exact cls_butD _ _ _ _ _ _ _) (fun V => by rfl) 78 _ _ rfl (enters_of Tryd.func78 rfl rfl) _ _ (fun V w hb hk => OV.out w) (fun V => by rfl) ?_; simp only [Act.put, List.setIfInBounds_toArray, List.set_cons_succ, List.set_cons_zero])
    | (refine f_call (by first | exact cls_free _ | exact cls_row _ _ _ _ | exact cls_fill _ _ _ _ _ | exact cls_butC _ _ | exact cls_butD _ _ _ _ _ _ _) (fun V => by rfl) 78 _ _ rfl (enters_of Tryd.func78 rfl rfl) _ _ (fun V w hb hk => OX.out w) (fun V => by rfl) ?_; simp only [Act.put, List.setIfInBounds_toArray, List.set_cons_succ, List.set_cons_zero])
    | (refine f_call (by first | exact cls_free _ | exact cls_row _ _ _ _ | exact cls_fill _ _ _ _ _ | exact cls_butC _ _ | exact cls_butD _ _ _ _ _ _ _) (fun V => by rfl) 77 _ _ rfl (enters_of Tryd.func77 rfl rfl) _ _ (fun V w hb hk => JN.out w) (fun V => by rfl) ?_; simp only [Act.put, List.setIfInBounds_toArray, List.set_cons_succ, List.set_cons_zero])
    | (refine f_alloc (by first | exact cls_free _ | exact cls_row _ _ _ _ | exact cls_fill _ _ _ _ _ | exact cls_butC _ _ | exact cls_butD _ _ _ _ _ _ _) 96 rfl (fun V => by rfl) (by decide) w1.heap.size (fun w hb => Below.size hb) #[.int .i64 0, .int .i64 0] (hz.out) ?_; simp only [Act.put, List.setIfInBounds_toArray, List.set_cons_succ, List.set_cons_zero, keyOf, Option.getD_some])
    | (refine f_quiet (by first | exact cls_free _ | exact cls_row _ _ _ _ | exact cls_fill _ _ _ _ _ | exact cls_butC _ _ | exact cls_butD _ _ _ _ _ _ _) (fun V => by rfl) (fun V => ⟨_, rfl, by simp⟩) ?_; apply Exists.intro; refine And.intro (fun V w hw K hK => ?_) ?_; ((try simp only [Act.put, List.setIfInBounds_toArray, List.set_cons_succ, List.set_cons_zero] at hK); go_big_quiet_op; exact hK); simp only [Act.put, List.setIfInBounds_toArray, List.set_cons_succ, List.set_cons_zero]))
  refine f_nil ?_
  intro V w2 hq hkn
  obtain ⟨g6, hg, hW, hgB⟩ := all_slot hkn 6 rfl
  rw [hg]
  clear hkn hg V
  replace p2 := Lib.hid (p2.out.on hq)
  replace p3 := Lib.hid (p3.out.on hq)
  replace p4 := Lib.hid (p4.out.on hq)
  have hB2 := Lib.hid (B1.out.trans (hq.mono B1.out.size))
  replace hW := Lib.hid hW
  have h26 := Lib.hid (show w.heap.size ≠ g6 by omega)
  have h36 := Lib.hid (show w.heap.size + 1 ≠ g6 by omega)
  have h46 := Lib.hid (show w.heap.size + 1 + 1 ≠ g6 by omega)
  have hle6 := Lib.hid (show w.heap.size ≤ g6 by omega)
  clear hq hgB hlt4
  go_wp2_with ((show wpList _ _ _ (Oper.mk _ (.store _ (.tmp 6) _) _ _ _ _ :: _) _ _; refine wpList_store_row rfl _ (.tmp 6) (.tmp 19) rfl (g6) _ rfl rfl _ _ (hW.out) (by kernel_rfl) rfl (by simp [Value.oneCell']) ?_); generalize hS : World.setRow w2 g6 _ = wa; have hbt : But g6 w2 wa := hS ▸ but_setRow _ _ _; have p6 : Hid (Whole wa g6 96 #[.int .i64 ((v + xn) / 4294967296), .int .i64 ((v + xn) % 4294967296)]) := Lib.hid (hS ▸ setRow_heap _ _ _ _ _ _ hW.out); replace p2 := Lib.hid (p2.out.but hbt h26.out); replace p3 := Lib.hid (p3.out.but hbt h36.out); replace p4 := Lib.hid (p4.out.but hbt h46.out); have B5 : Hid (Below w.heap.size w wa) := Lib.hid (hS ▸ below_setRow hB2.out hle6.out _); clear hS hbt hW hB2; have y0 : wa.cell? ⟨w.heap.size, 0, none⟩ = some (.int .i64 d) := p2.out.cell 0)
  clear hz JN
  refine wp_region_facts 7 [] [] (by kernel_rfl) (by kernel_rfl) (by kernel_rfl) (free_draw wa) ?_
  simp only [List.take_succ_cons, List.take_zero, List.drop_succ_cons, List.drop_zero, List.zipIdx_cons, List.zipIdx_nil, Nat.zero_add, Nat.reduceAdd]
  repeat (show wpF _ _ _ _ _ _ (_ :: _) _ _; first
    | (refine f_skip (fun V => by rfl) ?_; simp only [Act.put, List.setIfInBounds_toArray, List.set_cons_succ, List.set_cons_zero])
      
    | (refine f_load_cell (by first | exact cls_free _ | exact cls_row _ _ _ _ | exact cls_fill _ _ _ _ _ | exact cls_butC _ _ | exact cls_butD _ _ _ _ _ _ _) (fun V => by rfl) _ _ rfl _ (fun V => by rfl) _ (fun w hb => (p3.out.on hb).cell 4) _ Tryd.underlying3 rfl ?_; simp only [Act.put, List.setIfInBounds_toArray, List.set_cons_succ, List.set_cons_zero])
    | (refine f_load_cell (by first | exact cls_free _ | exact cls_row _ _ _ _ | exact cls_fill _ _ _ _ _ | exact cls_butC _ _ | exact cls_butD _ _ _ _ _ _ _) (fun V => by rfl) _ _ rfl _ (fun V => by rfl) _ (fun w hb => (p2.out.on hb).cell 5) _ Tryd.underlying3 rfl ?_; simp only [Act.put, List.setIfInBounds_toArray, List.set_cons_succ, List.set_cons_zero])
    | (refine f_call (by first | exact cls_free _ | exact cls_row _ _ _ _ | exact cls_fill _ _ _ _ _ | exact cls_butC _ _ | exact cls_butD _ _ _ _ _ _ _) (fun V => by rfl) 78 _ _ rfl (enters_of Tryd.func78 rfl rfl) _ _ (fun V w hb hk => OV.out w) (fun V => by rfl) ?_; simp only [Act.put, List.setIfInBounds_toArray, List.set_cons_succ, List.set_cons_zero])
    | (refine f_call (by first | exact cls_free _ | exact cls_row _ _ _ _ | exact cls_fill _ _ _ _ _ | exact cls_butC _ _ | exact cls_butD _ _ _ _ _ _ _) (fun V => by rfl) 78 _ _ rfl (enters_of Tryd.func78 rfl rfl) _ _ (fun V w hb hk => OX.out w) (fun V => by rfl) ?_; simp only [Act.put, List.setIfInBounds_toArray, List.set_cons_succ, List.set_cons_zero])
    | (refine f_call (by first | exact cls_free _ | exact cls_row _ _ _ _ | exact cls_fill _ _ _ _ _ | exact cls_butC _ _ | exact cls_butD _ _ _ _ _ _ _) (fun V => by rfl) 79 _ _ rfl (enters_of Tryd.func79 rfl rfl) _ _ (fun V w hb hk => TK.out w) (fun V => by rfl) ?_; simp only [Act.put, List.setIfInBounds_toArray, List.set_cons_succ, List.set_cons_zero])
    | (refine f_quiet (by first | exact cls_free _ | exact cls_row _ _ _ _ | exact cls_fill _ _ _ _ _ | exact cls_butC _ _ | exact cls_butD _ _ _ _ _ _ _) (fun V => by rfl) (fun V => ⟨_, rfl, by simp⟩) ?_; apply Exists.intro; refine And.intro (fun V w hw K hK => ?_) ?_; ((try simp only [Act.put, List.setIfInBounds_toArray, List.set_cons_succ, List.set_cons_zero] at hK); go_big_quiet_op; exact hK); simp only [Act.put, List.setIfInBounds_toArray, List.set_cons_succ, List.set_cons_zero]))
  refine f_nil ?_
  intro V wb hqb hkn
  clear hkn y0
  replace p2 := Lib.hid (p2.out.on hqb)
  replace p3 := Lib.hid (p3.out.on hqb)
  replace p4 := Lib.hid (p4.out.on hqb)
  replace p6 := Lib.hid (p6.out.on hqb)
  have hBb := Lib.hid (B5.out.trans (hqb.mono B5.out.size))
  clear B5 hqb
  go_wp2_with ((show wpList _ _ _ (Oper.mk _ (.store _ (.tmp 6) _) _ _ _ _ :: _) _ _; refine wpList_store_row rfl _ (.tmp 6) (.tmp 29) rfl (g6) _ rfl rfl _ _ (p6.out) (by kernel_rfl) rfl (by simp [Value.oneCell']) ?_); generalize hS : World.setRow wb g6 _ = w3; have hbt : But g6 wb w3 := hS ▸ but_setRow _ _ _; have p7 : Hid (Whole w3 g6 96 #[.int .i64 ((v - xn) / 4294967296), .int .i64 ((v - xn) % 4294967296)]) := Lib.hid (hS ▸ setRow_heap _ _ _ _ _ _ p6.out); replace p3 := Lib.hid (p3.out.but hbt h36.out); replace p4 := Lib.hid (p4.out.but hbt h46.out); have B5 : Hid (Below w.heap.size w w3) := Lib.hid (hS ▸ below_setRow hBb.out hle6.out _); clear hS hbt hBb p6; have p6 := p7; clear p7)
  clear p2 OV OX TK h26 h36 h46 hle6
  by_cases hlo : v - xn < lo
  · have hmov := Lib.hid (mov_low (c := ⟨2, b, lo, hi, v⟩) hlo)
    have LL := fun w => refLess_any (v - xn) lo w
    unfold num at LL
    rw [decide_eq_true hlo] at LL
    replace LL := Lib.hid LL
    clear hlo
    refine wp_region_facts 12 [] [] (by kernel_rfl) (by kernel_rfl) (by kernel_rfl) (free_draw w3) ?_
    simp only [List.take_succ_cons, List.take_zero, List.drop_succ_cons, List.drop_zero, List.zipIdx_cons, List.zipIdx_nil, Nat.zero_add, Nat.reduceAdd]
    repeat (show wpF _ _ _ _ _ _ (_ :: _) _ _; first
      | (refine f_skip (fun V => by rfl) ?_; simp only [Act.put, List.setIfInBounds_toArray, List.set_cons_succ, List.set_cons_zero])
        
        | (refine f_load_row (by first | exact cls_free _ | exact cls_row _ _ _ _ | exact cls_fill _ _ _ _ _ | exact cls_butC _ _ | exact cls_butD _ _ _ _ _ _ _) (fun V => by rfl) _ _ rfl _ (fun V => by rfl) _ _ _ (fun w hb => p6.out.on hb) Tryd.underlying96 rfl (by kernel_rfl) ?_; simp only [Act.put, List.setIfInBounds_toArray, List.set_cons_succ, List.set_cons_zero])
        | (refine f_load_cell (by first | exact cls_free _ | exact cls_row _ _ _ _ | exact cls_fill _ _ _ _ _ | exact cls_butC _ _ | exact cls_butD _ _ _ _ _ _ _) (fun V => by rfl) _ _ rfl _ (fun V => by rfl) _ (fun w hb => (p3.out.on hb).cell 2) _ Tryd.underlying3 rfl ?_; simp only [Act.put, List.setIfInBounds_toArray, List.set_cons_succ, List.set_cons_zero])
        | (refine f_call (by first | exact cls_free _ | exact cls_row _ _ _ _ | exact cls_fill _ _ _ _ _ | exact cls_butC _ _ | exact cls_butD _ _ _ _ _ _ _) (fun V => by rfl) 78 _ _ rfl (enters_of Tryd.func78 rfl rfl) _ _ (fun V w hb hk => LO.out w) (fun V => by rfl) ?_; simp only [Act.put, List.setIfInBounds_toArray, List.set_cons_succ, List.set_cons_zero])
        | (refine f_call (by first | exact cls_free _ | exact cls_row _ _ _ _ | exact cls_fill _ _ _ _ _ | exact cls_butC _ _ | exact cls_butD _ _ _ _ _ _ _) (fun V => by rfl) 80 _ _ rfl (enters_of Tryd.func80 rfl rfl) _ _ (fun V w hb hk => LL.out w) (fun V => by rfl) ?_; simp only [Act.put, List.setIfInBounds_toArray, List.set_cons_succ, List.set_cons_zero])
      | (refine f_quiet (by first | exact cls_free _ | exact cls_row _ _ _ _ | exact cls_fill _ _ _ _ _ | exact cls_butC _ _ | exact cls_butD _ _ _ _ _ _ _) (fun V => by rfl) (fun V => ⟨_, rfl, by simp⟩) ?_; apply Exists.intro; refine And.intro (fun V w hw K hK => ?_) ?_; ((try simp only [Act.put, List.setIfInBounds_toArray, List.set_cons_succ, List.set_cons_zero] at hK); go_big_quiet_op; exact hK); simp only [Act.put, List.setIfInBounds_toArray, List.set_cons_succ, List.set_cons_zero]))
    refine f_nil ?_
    intro V w7 hq hkn
    clear hkn
    replace p3 := Lib.hid (p3.out.on hq)
    replace p4 := Lib.hid (p4.out.on hq)
    have B7 := Lib.hid (B5.out.trans (hq.mono B5.out.size))
    clear hq
    go_wp2_with (first
      | (show wpList _ _ _ (Oper.mk _ (.load _ (.tmp 3)) _ _ _ _ :: _) _ _; refine wpList_load_row rfl 36 (.tmp 3) rfl (w.heap.size + 1) rfl _ _ _ _ (p3.out) Tryd.underlying36 rfl (by kernel_rfl) ?_)
      | (show wpList _ _ _ (Oper.mk _ (.store _ (.tmp 4) _) _ _ _ _ :: _) _ _; refine wpList_store_row rfl _ (.tmp 4) (.tmp 42) rfl (w.heap.size + 1 + 1) _ rfl rfl _ _ (p4.out) (by kernel_rfl) rfl (by simp [Value.oneCell']) ?_))
    refine bodyPost_ret (v := .tuple #[.agg #[.int .i64 2, .slice A n m, .int .i64 lo, .int .i64 hi, .int .i64 v], .int .i64 8]) ?_ rfl ⟨by rw [hmov.out], below_setRow B7.out (le_two _) _⟩
    exact results_cell_tmp rfl _ _ (w.heap.size + 1 + 1) _ _ (0, 0) _ rfl (setRow_heap _ _ _ _ _ _ p4.out) Tryd.underlying36 rfl (by kernel_rfl) _ rfl
  · by_cases hhi : hi < v - xn
    · have hmov := Lib.hid (mov_high (c := ⟨2, b, lo, hi, v⟩) hhi)
      have LL := fun w => refLess_any (v - xn) lo w
      have LH := fun w => refLess_any hi (v - xn) w
      unfold num at LL LH
      rw [decide_eq_false hlo] at LL
      rw [decide_eq_true hhi] at LH
      replace LL := Lib.hid LL
      replace LH := Lib.hid LH
      clear hlo hhi
      refine wp_region_facts 12 [] [] (by kernel_rfl) (by kernel_rfl) (by kernel_rfl) (free_draw w3) ?_
      simp only [List.take_succ_cons, List.take_zero, List.drop_succ_cons, List.drop_zero, List.zipIdx_cons, List.zipIdx_nil, Nat.zero_add, Nat.reduceAdd]
      repeat (show wpF _ _ _ _ _ _ (_ :: _) _ _; first
        | (refine f_skip (fun V => by rfl) ?_; simp only [Act.put, List.setIfInBounds_toArray, List.set_cons_succ, List.set_cons_zero])
          
            | (refine f_load_row (by first | exact cls_free _ | exact cls_row _ _ _ _ | exact cls_fill _ _ _ _ _ | exact cls_butC _ _ | exact cls_butD _ _ _ _ _ _ _) (fun V => by rfl) _ _ rfl _ (fun V => by rfl) _ _ _ (fun w hb => p6.out.on hb) Tryd.underlying96 rfl (by kernel_rfl) ?_; simp only [Act.put, List.setIfInBounds_toArray, List.set_cons_succ, List.set_cons_zero])
            | (refine f_load_cell (by first | exact cls_free _ | exact cls_row _ _ _ _ | exact cls_fill _ _ _ _ _ | exact cls_butC _ _ | exact cls_butD _ _ _ _ _ _ _) (fun V => by rfl) _ _ rfl _ (fun V => by rfl) _ (fun w hb => (p3.out.on hb).cell 2) _ Tryd.underlying3 rfl ?_; simp only [Act.put, List.setIfInBounds_toArray, List.set_cons_succ, List.set_cons_zero])
            | (refine f_load_cell (by first | exact cls_free _ | exact cls_row _ _ _ _ | exact cls_fill _ _ _ _ _ | exact cls_butC _ _ | exact cls_butD _ _ _ _ _ _ _) (fun V => by rfl) _ _ rfl _ (fun V => by rfl) _ (fun w hb => (p3.out.on hb).cell 3) _ Tryd.underlying3 rfl ?_; simp only [Act.put, List.setIfInBounds_toArray, List.set_cons_succ, List.set_cons_zero])
            | (refine f_call (by first | exact cls_free _ | exact cls_row _ _ _ _ | exact cls_fill _ _ _ _ _ | exact cls_butC _ _ | exact cls_butD _ _ _ _ _ _ _) (fun V => by rfl) 78 _ _ rfl (enters_of Tryd.func78 rfl rfl) _ _ (fun V w hb hk => LO.out w) (fun V => by rfl) ?_; simp only [Act.put, List.setIfInBounds_toArray, List.set_cons_succ, List.set_cons_zero])
            | (refine f_call (by first | exact cls_free _ | exact cls_row _ _ _ _ | exact cls_fill _ _ _ _ _ | exact cls_butC _ _ | exact cls_butD _ _ _ _ _ _ _) (fun V => by rfl) 78 _ _ rfl (enters_of Tryd.func78 rfl rfl) _ _ (fun V w hb hk => HI.out w) (fun V => by rfl) ?_; simp only [Act.put, List.setIfInBounds_toArray, List.set_cons_succ, List.set_cons_zero])
            | (refine f_call (by first | exact cls_free _ | exact cls_row _ _ _ _ | exact cls_fill _ _ _ _ _ | exact cls_butC _ _ | exact cls_butD _ _ _ _ _ _ _) (fun V => by rfl) 80 _ _ rfl (enters_of Tryd.func80 rfl rfl) _ _ (fun V w hb hk => LL.out w) (fun V => by rfl) ?_; simp only [Act.put, List.setIfInBounds_toArray, List.set_cons_succ, List.set_cons_zero])
            | (refine f_call (by first | exact cls_free _ | exact cls_row _ _ _ _ | exact cls_fill _ _ _ _ _ | exact cls_butC _ _ | exact cls_butD _ _ _ _ _ _ _) (fun V => by rfl) 80 _ _ rfl (enters_of Tryd.func80 rfl rfl) _ _ (fun V w hb hk => LH.out w) (fun V => by rfl) ?_; simp only [Act.put, List.setIfInBounds_toArray, List.set_cons_succ, List.set_cons_zero])
        | (refine f_quiet (by first | exact cls_free _ | exact cls_row _ _ _ _ | exact cls_fill _ _ _ _ _ | exact cls_butC _ _ | exact cls_butD _ _ _ _ _ _ _) (fun V => by rfl) (fun V => ⟨_, rfl, by simp⟩) ?_; apply Exists.intro; refine And.intro (fun V w hw K hK => ?_) ?_; ((try simp only [Act.put, List.setIfInBounds_toArray, List.set_cons_succ, List.set_cons_zero] at hK); go_big_quiet_op; exact hK); simp only [Act.put, List.setIfInBounds_toArray, List.set_cons_succ, List.set_cons_zero]))
      refine f_nil ?_
      intro V w7 hq hkn
      clear hkn
      replace p3 := Lib.hid (p3.out.on hq)
      replace p4 := Lib.hid (p4.out.on hq)
      have B7 := Lib.hid (B5.out.trans (hq.mono B5.out.size))
      clear hq
      go_wp2_with (first
        | (show wpList _ _ _ (Oper.mk _ (.load _ (.tmp 3)) _ _ _ _ :: _) _ _; refine wpList_load_row rfl 36 (.tmp 3) rfl (w.heap.size + 1) rfl _ _ _ _ (p3.out) Tryd.underlying36 rfl (by kernel_rfl) ?_)
        | (show wpList _ _ _ (Oper.mk _ (.store _ (.tmp 4) _) _ _ _ _ :: _) _ _; refine wpList_store_row rfl _ (.tmp 4) (.tmp 42) rfl (w.heap.size + 1 + 1) _ rfl rfl _ _ (p4.out) (by kernel_rfl) rfl (by simp [Value.oneCell']) ?_))
      refine bodyPost_ret (v := .tuple #[.agg #[.int .i64 2, .slice A n m, .int .i64 lo, .int .i64 hi, .int .i64 v], .int .i64 8]) ?_ rfl ⟨by rw [hmov.out], below_setRow B7.out (le_two _) _⟩
      exact results_cell_tmp rfl _ _ (w.heap.size + 1 + 1) _ _ (0, 0) _ rfl (setRow_heap _ _ _ _ _ _ p4.out) Tryd.underlying36 rfl (by kernel_rfl) _ rfl
    · have hmov := Lib.hid (mov_in (c := ⟨2, b, lo, hi, v⟩) hlo hhi)
      have LL := fun w => refLess_any (v - xn) lo w
      have LH := fun w => refLess_any hi (v - xn) w
      unfold num at LL LH
      rw [decide_eq_false hlo] at LL
      rw [decide_eq_false hhi] at LH
      have hn64 : in64 (v - xn) := ⟨by have := hlo64.1; omega, by have := hhi64.2; omega⟩
      have IT := fun w => refInt_any (v - xn) w (inNum64 hn64)
      rw [(fit_yes hn64).1, (fit_yes hn64).2] at IT
      unfold num at IT
      replace LL := Lib.hid LL
      replace LH := Lib.hid LH
      replace IT := Lib.hid IT
      clear hlo hhi hn64
      refine wp_region_facts 12 [] [] (by kernel_rfl) (by kernel_rfl) (by kernel_rfl) (free_draw w3) ?_
      simp only [List.take_succ_cons, List.take_zero, List.drop_succ_cons, List.drop_zero, List.zipIdx_cons, List.zipIdx_nil, Nat.zero_add, Nat.reduceAdd]
      repeat (show wpF _ _ _ _ _ _ (_ :: _) _ _; first
        | (refine f_skip (fun V => by rfl) ?_; simp only [Act.put, List.setIfInBounds_toArray, List.set_cons_succ, List.set_cons_zero])
          
            | (refine f_load_row (by first | exact cls_free _ | exact cls_row _ _ _ _ | exact cls_fill _ _ _ _ _ | exact cls_butC _ _ | exact cls_butD _ _ _ _ _ _ _) (fun V => by rfl) _ _ rfl _ (fun V => by rfl) _ _ _ (fun w hb => p6.out.on hb) Tryd.underlying96 rfl (by kernel_rfl) ?_; simp only [Act.put, List.setIfInBounds_toArray, List.set_cons_succ, List.set_cons_zero])
            | (refine f_load_cell (by first | exact cls_free _ | exact cls_row _ _ _ _ | exact cls_fill _ _ _ _ _ | exact cls_butC _ _ | exact cls_butD _ _ _ _ _ _ _) (fun V => by rfl) _ _ rfl _ (fun V => by rfl) _ (fun w hb => (p3.out.on hb).cell 2) _ Tryd.underlying3 rfl ?_; simp only [Act.put, List.setIfInBounds_toArray, List.set_cons_succ, List.set_cons_zero])
            | (refine f_load_cell (by first | exact cls_free _ | exact cls_row _ _ _ _ | exact cls_fill _ _ _ _ _ | exact cls_butC _ _ | exact cls_butD _ _ _ _ _ _ _) (fun V => by rfl) _ _ rfl _ (fun V => by rfl) _ (fun w hb => (p3.out.on hb).cell 3) _ Tryd.underlying3 rfl ?_; simp only [Act.put, List.setIfInBounds_toArray, List.set_cons_succ, List.set_cons_zero])
            | (refine f_call (by first | exact cls_free _ | exact cls_row _ _ _ _ | exact cls_fill _ _ _ _ _ | exact cls_butC _ _ | exact cls_butD _ _ _ _ _ _ _) (fun V => by rfl) 78 _ _ rfl (enters_of Tryd.func78 rfl rfl) _ _ (fun V w hb hk => LO.out w) (fun V => by rfl) ?_; simp only [Act.put, List.setIfInBounds_toArray, List.set_cons_succ, List.set_cons_zero])
            | (refine f_call (by first | exact cls_free _ | exact cls_row _ _ _ _ | exact cls_fill _ _ _ _ _ | exact cls_butC _ _ | exact cls_butD _ _ _ _ _ _ _) (fun V => by rfl) 78 _ _ rfl (enters_of Tryd.func78 rfl rfl) _ _ (fun V w hb hk => HI.out w) (fun V => by rfl) ?_; simp only [Act.put, List.setIfInBounds_toArray, List.set_cons_succ, List.set_cons_zero])
            | (refine f_call (by first | exact cls_free _ | exact cls_row _ _ _ _ | exact cls_fill _ _ _ _ _ | exact cls_butC _ _ | exact cls_butD _ _ _ _ _ _ _) (fun V => by rfl) 80 _ _ rfl (enters_of Tryd.func80 rfl rfl) _ _ (fun V w hb hk => LL.out w) (fun V => by rfl) ?_; simp only [Act.put, List.setIfInBounds_toArray, List.set_cons_succ, List.set_cons_zero])
            | (refine f_call (by first | exact cls_free _ | exact cls_row _ _ _ _ | exact cls_fill _ _ _ _ _ | exact cls_butC _ _ | exact cls_butD _ _ _ _ _ _ _) (fun V => by rfl) 80 _ _ rfl (enters_of Tryd.func80 rfl rfl) _ _ (fun V w hb hk => LH.out w) (fun V => by rfl) ?_; simp only [Act.put, List.setIfInBounds_toArray, List.set_cons_succ, List.set_cons_zero])
        | (refine f_quiet (by first | exact cls_free _ | exact cls_row _ _ _ _ | exact cls_fill _ _ _ _ _ | exact cls_butC _ _ | exact cls_butD _ _ _ _ _ _ _) (fun V => by rfl) (fun V => ⟨_, rfl, by simp⟩) ?_; apply Exists.intro; refine And.intro (fun V w hw K hK => ?_) ?_; ((try simp only [Act.put, List.setIfInBounds_toArray, List.set_cons_succ, List.set_cons_zero] at hK); go_big_quiet_op; exact hK); simp only [Act.put, List.setIfInBounds_toArray, List.set_cons_succ, List.set_cons_zero]))
      refine f_nil ?_
      intro V w7 hq hkn
      clear hkn
      replace p3 := Lib.hid (p3.out.on hq)
      replace p4 := Lib.hid (p4.out.on hq)
      replace p6 := Lib.hid (p6.out.on hq)
      have B7 := Lib.hid (B5.out.trans (hq.mono B5.out.size))
      clear hq
      go_wp2_with (show wpList _ _ _ (Oper.mk _ (.load _ (.tmp 6)) _ _ _ _ :: _) _ _; refine wpList_load_row rfl 96 (.tmp 6) rfl (g6) rfl _ _ _ _ (p6.out) Tryd.underlying96 rfl (by kernel_rfl) ?_)
      refine (IT.out _).mono ?_
      rintro e w8 ⟨rfl, b8⟩
      replace p3 := Lib.hid (p3.out.on b8)
      replace p4 := Lib.hid (p4.out.on b8)
      have B8 := Lib.hid (B7.out.trans (b8.mono B7.out.size))
      clear b8
      have z4 : w8.cell? ⟨w.heap.size + 1, 4, none⟩ = some (.int .i64 v) := p3.out.cell 4
      have f4 := p3.out.free 4
      go_wp2_with (first
        | (show wpList _ _ _ (Oper.mk _ (.load _ (.tmp 3)) _ _ _ _ :: _) _ _; refine wpList_load_row rfl 36 (.tmp 3) rfl (w.heap.size + 1) rfl _ _ _ _ (show Whole _ _ _ #[.int .i64 2, .slice A n m, .int .i64 lo, .int .i64 hi, .int .i64 (v - xn)] from p3.out.put 4 _) Tryd.underlying36 rfl (by kernel_rfl) ?_)
        | (show wpList _ _ _ (Oper.mk _ (.store _ (.tmp 4) _) _ _ _ _ :: _) _ _; refine wpList_store_row rfl _ (.tmp 4) (.tmp 50) rfl (w.heap.size + 1 + 1) _ rfl rfl _ _ (p4.out.apart (Nat.ne_of_gt (Nat.lt_succ_self _)) _) (by kernel_rfl) rfl (by simp [Value.oneCell']) ?_))
      refine bodyPost_ret (v := .tuple #[.agg #[.int .i64 2, .slice A n m, .int .i64 lo, .int .i64 hi, .int .i64 (v - xn)], .int .i64 0]) ?_ rfl ⟨by rw [hmov.out], below_setRow (B8.out.setCell (p := ⟨w.heap.size + 1, 4, none⟩) (Nat.le_succ _) _) (le_two _) _⟩
      exact results_cell_tmp rfl _ _ (w.heap.size + 1 + 1) _ _ (0, 0) _ rfl (setRow_heap _ _ _ _ _ _ (p4.out.apart (Nat.ne_of_gt (Nat.lt_succ_self _)) _)) Tryd.underlying36 rfl (by kernel_rfl) _ rfl
end Go.Proofs.YtlpgmmcdcjkkiaaDoor
