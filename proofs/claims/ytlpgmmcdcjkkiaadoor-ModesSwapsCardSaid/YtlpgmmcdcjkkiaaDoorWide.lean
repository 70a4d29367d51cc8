/- Layer 3: contracts of the program's Sum. -/
import Derived.Laws.Externs
import Derived.Test.YtlpgmmcdcjkkiaaDoorRegion
import Derived.Test.YtlpgmmcdcjkkiaaDoorWords
import Derived.Test.YtlpgmmcdcjkkiaaDoorBase
import Derived.Test.YtlpgmmcdcjkkiaaDoorWideMath
import Derived.Test.YtlpgmmcdcjkkiaaDoorChecked
namespace Go.Proofs.YtlpgmmcdcjkkiaaDoor
set_option maxRecDepth 20000
open Go.RowKit

theorem add64_run (x y : Nat) (w : World) : (callFunc 103 #[.int .u64 x, .int .u64 y, .int .u64 0]).run Tryd.prog w =
    .ok (.value (.tuple #[.int .u64 (((x + y + 0) % 18446744073709551616 : Nat) : Int), .int .u64 (((x + y + 0) / 18446744073709551616 : Nat) : Int)])) w := by
  rw [run_callFunc_extern Tryd.func103 (by kernel_rfl) (by kernel_rfl) (by kernel_rfl) (e := add64Entry) (by kernel_rfl), run_add64 x y 0 (by omega) (by omega) (by omega) (by omega)]
  simp only [Result.andThen]
  congr 5 <;> omega

theorem of_any (n : Int) (w : World) (hn : in64 n) :
    Calls Tryd.prog 95 #[.int .i64 n] w fun e w' => e = .returned (wide n) ∧ Below w.heap.size w w' := by
  by_cases h : n < 0
  · obtain ⟨e1, e2⟩ := hiW_neg n h hn
    have H1 := Lib.hid e1; have H2 := Lib.hid e2; clear e1 e2
    go_enter Tryd.func95, Tryd.ntmps95
    go_wp2
    exact bodyPost_ret (v := wide n) (by unfold wide; rw [H1.out, ← H2.out]; simp [results, Tryd.results95, go_sem]) rfl ⟨rfl, (Below.refl _ _).alloc (Nat.le_refl _) _⟩
  · obtain ⟨e1, e2⟩ := hiW_pos n (by omega) hn
    have H1 := Lib.hid e1; have H2 := Lib.hid e2; clear e1 e2
    go_enter Tryd.func95, Tryd.ntmps95
    go_wp2
    exact bodyPost_ret (v := wide n) (by unfold wide; rw [H1.out, ← H2.out]; simp [results, Tryd.results95, go_sem]) rfl ⟨rfl, (Below.refl _ _).alloc (Nat.le_refl _) _⟩

theorem join_any (x y : Int) (w : World) (hx : inSum x) (hy : inSum y) :
    Calls Tryd.prog 101 #[wide x, wide y] w fun e w' => e = .returned (wide (x + y)) ∧ Below w.heap.size w w' := by
  have b1 := hiW_bd x hx
  have b2 := hiW_bd y hy
  have cc := carry_le x y
  have H1 := Lib.hid (join_lo x y); have H2 := Lib.hid (join_hi x y)
  have hrun := add64_run (loN x) (loN y)
  rw [join_lo] at hrun
  generalize (loN x + loN y + 0) / 18446744073709551616 = c at *
  unfold wide
  go_enter Tryd.func101, Tryd.ntmps101
  go_wp2
  exact bodyPost_ret (v := wide (x + y)) (by unfold wide; rw [← H2.out]; simp [results, Tryd.results101, go_sem]) rfl ⟨rfl, by repeat (first | exact Below.refl _ _ | (refine Below.alloc ?_ (by simp <;> omega) _))⟩

theorem plus_any (x n : Int) (w : World) (hx : inSum x) (hn : in64 n) :
    Calls Tryd.prog 96 #[wide x, .int .i64 n] w fun e w' => e = .returned (wide (x + n)) ∧ Below w.heap.size w w' := by
  have hn' : inSum n := by unfold in64 at hn; unfold inSum; omega
  unfold wide
  go_enter Tryd.func96, Tryd.ntmps96
  go_wp2
  generalize hW : (w.alloc (Obj.cells #[Value.int IntKind.i64 (hiW x), Value.int IntKind.u64 (loN x : Int)] 115)).alloc _ = W
  have c1 : Whole W w.heap.size 115 #[Value.int IntKind.i64 (hiW x), Value.int IntKind.u64 (loN x : Int)] := by rw [← hW]; exact (Whole.made _ _ _).later _
  have c2 : Whole W (w.heap.size + 1) 115 #[Value.int IntKind.i64 0, Value.int IntKind.u64 0] := by rw [← hW]; simpa using Whole.made (w.alloc _) _ _
  have bW : Below w.heap.size w W := by rw [← hW]; exact ((Below.refl _ _).alloc (Nat.le_refl _) _).alloc (by simp) _
  refine wp_region_tail (C := fun w' => ∃ p : Regrown, w' = Go.Sort.grow (redrawn W p.d) p.os) 4 (by kernel_rfl) (by kernel_rfl) (by kernel_rfl) (rg_draw W) ?_
  simp only [List.take_succ_cons, List.take_zero, List.drop_succ_cons, List.drop_zero]
  repeat (first
    | go_big_quiet_skip
    | (go_big_quiet_want; first
      | (refine q_load_row _ _ rfl _ rfl _ _ _ _ c1 Tryd.underlying115 rfl (by kernel_rfl) ?_; go_big_quiet_on; simp only [Act.put, List.setIfInBounds_toArray, List.set_cons_succ, List.set_cons_zero])
      | (refine q_call 95 _ _ rfl _ _ (enters_of Tryd.func95 rfl rfl) (fun w hw => of_any n w hn) rfl ?_; go_big_quiet_on; simp only [Act.put, List.setIfInBounds_toArray, List.set_cons_succ, List.set_cons_zero])
      | (refine q_call 101 _ _ rfl _ _ (enters_of Tryd.func101 rfl rfl) (fun w hw => join_any x n w hx hn') rfl ?_; go_big_quiet_on; simp only [Act.put, List.setIfInBounds_toArray, List.set_cons_succ, List.set_cons_zero])
      | (go_big_quiet_op; go_big_quiet_on)))
  refine wpQuiet_nil ?_
  intro w' hq
  have hq := rg_below hq
  simp only [wide]
  have c2' := (hq.block _ c2.lt).trans c2
  (refine wpList_store_row rfl _ _ _ rfl (w.heap.size + 1) _ rfl rfl _ _ c2' (by kernel_rfl) rfl (by simp [Value.oneCell']) ?_)
  go_wp2
  refine bodyPost_ret (v := wide (x + n)) ?_ rfl ⟨rfl, below_setRow (bW.trans (hq.mono bW.size)) (Nat.le_succ _) _⟩
  exact results_cell_row rfl _ _ (w.heap.size + 1) _ _ (0, 0) _ rfl (setRow_heap _ _ _ _ _ _ c2') Tryd.underlying115 rfl (by kernel_rfl)

theorem not64 (a : Int) (h : in64 a) : bits .xor .i64 (-1) a = -a - 1 := by
  unfold in64 at h
  have e : bits .xor .i64 (-1) a = IntKind.i64.wrap ((BitVec.ofInt 64 (-1) ^^^ BitVec.ofInt 64 a).toNat : Int) := rfl
  have e2 : BitVec.ofInt 64 (-1) = BitVec.allOnes 64 := by decide
  rw [e, e2, BitVec.allOnes_xor, BitVec.toNat_not, BitVec.toNat_ofInt, IntKind.wrap_i64]
  simp only [Nat.reducePow]
  omega
theorem not64u (s : Nat) (h : s < 18446744073709551616) : bits .xor .u64 IntKind.u64.max (s : Int) = ((18446744073709551615 - s : Nat) : Int) := by
  have e : bits .xor .u64 IntKind.u64.max (s : Int) = IntKind.u64.wrap ((BitVec.ofInt 64 IntKind.u64.max ^^^ BitVec.ofInt 64 (s : Int)).toNat : Int) := rfl
  have e2 : BitVec.ofInt 64 IntKind.u64.max = BitVec.allOnes 64 := by decide
  rw [e, e2, BitVec.allOnes_xor, BitVec.toNat_not, BitVec.toNat_ofInt, IntKind.wrap_u64]
  simp only [Nat.reducePow]
  omega

theorem opp_any (x : Int) (w : World) (hx : inSum x) (hx' : inSum (-x - 1)) :
    Calls Tryd.prog 102 #[wide x] w fun e w' => e = .returned (wide (-x)) ∧ Below w.heap.size w w' := by
  have h1 : bits .xor .i64 (-1) (hiW x) = hiW (-x - 1) := by
    have := hiW_bd x hx
    rw [not64 _ (by unfold in64; omega), opp_hi]
  have h2 : bits .xor .u64 IntKind.u64.max (loN x : Int) = (loN (-x - 1) : Int) := by rw [not64u _ (loN_lt x), opp_lo]
  have hs1 : IntKind.i64.signed = true := rfl
  have hs2 : IntKind.u64.signed = false := rfl
  have h3 := plus_any (-x - 1) 1 
  rw [show -x - 1 + 1 = -x by omega] at h3
  have H3 := Lib.hid h3
  clear h3
  unfold wide
  go_enter Tryd.func102, Tryd.ntmps102
  go_wp2_with (first
    | (go_at_call 96; refine (H3.out _ hx' (by unfold in64; omega)).mono ?_; simp only [wide]; rintro e w1 ⟨rfl, b1⟩; have c2 := (Whole.second w _ _ _).below b1 (by simp))
    | (refine wpList_store_row rfl _ _ _ rfl (w.heap.size + 1) _ rfl rfl _ _ c2 (by kernel_rfl) rfl (by simp [Value.oneCell']) ?_))
  have bW : Below w.heap.size w w1 := (((Below.refl _ w).alloc (Nat.le_refl _) _).alloc (by simp) _).trans (b1.mono (by simp; omega))
  refine bodyPost_ret (v := wide (-x)) ?_ rfl ⟨rfl, below_setRow bW (Nat.le_succ _) _⟩
  exact results_cell_row rfl _ _ (w.heap.size + 1) _ _ (0, 0) _ rfl (setRow_heap _ _ _ _ _ _ c2) Tryd.underlying115 rfl (by kernel_rfl)

theorem minus_any (x n : Int) (w : World) (hx : inSum x) (hn : in64 n) :
    Calls Tryd.prog 97 #[wide x, .int .i64 n] w fun e w' => e = .returned (wide (x - n)) ∧ Below w.heap.size w w' := by
  have hn' : inSum n := by unfold in64 at hn; unfold inSum; omega
  have hn2 : inSum (-n - 1) := by unfold in64 at hn; unfold inSum; omega
  have hn3 : inSum (-n) := by unfold in64 at hn; unfold inSum; omega
  have hj := fun w => join_any x (-n) w hx hn3
  rw [show x + -n = x - n by omega] at hj
  have HJ := Lib.hid hj
  clear hj
  unfold wide
  go_enter Tryd.func97, Tryd.ntmps97
  go_wp2
  generalize hW : (w.alloc (Obj.cells #[Value.int IntKind.i64 (hiW x), Value.int IntKind.u64 (loN x : Int)] 115)).alloc _ = W
  have c1 : Whole W w.heap.size 115 #[Value.int IntKind.i64 (hiW x), Value.int IntKind.u64 (loN x : Int)] := by rw [← hW]; exact (Whole.made _ _ _).later _
  have c2 : Whole W (w.heap.size + 1) 115 #[Value.int IntKind.i64 0, Value.int IntKind.u64 0] := by rw [← hW]; exact Whole.second _ _ _ _
  have bW : Below w.heap.size w W := by rw [← hW]; exact ((Below.refl _ _).alloc (Nat.le_refl _) _).alloc (by simp) _
  refine wp_region_tail (C := fun w' => ∃ p : Regrown, w' = Go.Sort.grow (redrawn W p.d) p.os) 5 (by kernel_rfl) (by kernel_rfl) (by kernel_rfl) (rg_draw W) ?_
  simp only [List.take_succ_cons, List.take_zero, List.drop_succ_cons, List.drop_zero]
  repeat (first
    | go_big_quiet_skip
    | (go_big_quiet_want; first
      | (refine q_load_row _ _ rfl _ rfl _ _ _ _ c1 Tryd.underlying115 rfl (by kernel_rfl) ?_; go_big_quiet_on; simp only [Act.put, List.setIfInBounds_toArray, List.set_cons_succ, List.set_cons_zero])
      | (refine q_call 95 _ _ rfl _ _ (enters_of Tryd.func95 rfl rfl) (fun w hw => of_any n w hn) rfl ?_; go_big_quiet_on; simp only [Act.put, List.setIfInBounds_toArray, List.set_cons_succ, List.set_cons_zero])
      | (refine q_call 102 _ _ rfl _ _ (enters_of Tryd.func102 rfl rfl) (fun w hw => opp_any n w hn' hn2) rfl ?_; go_big_quiet_on; simp only [Act.put, List.setIfInBounds_toArray, List.set_cons_succ, List.set_cons_zero])
      | (refine q_call 101 _ _ rfl _ _ (enters_of Tryd.func101 rfl rfl) (fun w hw => HJ.out w) rfl ?_; go_big_quiet_on; simp only [Act.put, List.setIfInBounds_toArray, List.set_cons_succ, List.set_cons_zero])
      | (go_big_quiet_op; go_big_quiet_on)))
  refine wpQuiet_nil ?_
  intro w' hq
  have hq := rg_below hq
  simp only [wide]
  have c2' := c2.below hq c2.lt
  (refine wpList_store_row rfl _ _ _ rfl (w.heap.size + 1) _ rfl rfl _ _ c2' (by kernel_rfl) rfl (by simp [Value.oneCell']) ?_)
  go_wp2
  refine bodyPost_ret (v := wide (x - n)) ?_ rfl ⟨rfl, below_setRow (bW.trans (hq.mono bW.size)) (Nat.le_succ _) _⟩
  exact results_cell_row rfl _ _ (w.heap.size + 1) _ _ (0, 0) _ rfl (setRow_heap _ _ _ _ _ _ c2') Tryd.underlying115 rfl (by kernel_rfl)

theorem eq_wide (x y : Int) : (hiW x == hiW y && loN x == loN y) = decide (x = y) := by
  by_cases h : x = y
  · subst h; simp
  · by_cases h1 : hiW x = hiW y
    · have : loN x ≠ loN y := fun h2 => h (wide_inj h1 h2)
      simp [h, this]
    · simp [h, h1]

theorem run_eql_wide (x y : Int) (w : World) : (binOp .eql 115 (wide x) (wide y)).run Tryd.prog w = .ok (.bool (decide (x = y))) w := by
  rw [← eq_wide]
  unfold wide
  by_cases h1 : hiW x = hiW y
  · by_cases h2 : loN x = loN y
    · go_simp
    · have h3 : ¬ (loN x : Int) = loN y := by omega
      go_simp
  · go_simp
theorem run_neq_wide (x y : Int) (w : World) : (binOp .neq 115 (wide x) (wide y)).run Tryd.prog w = .ok (.bool (!decide (x = y))) w := by
  rw [← eq_wide]
  unfold wide
  by_cases h1 : hiW x = hiW y
  · by_cases h2 : loN x = loN y
    · go_simp
    · have h3 : ¬ (loN x : Int) = loN y := by omega
      go_simp
  · go_simp
theorem run_guard_wide (op : BinOp) (s t : Operand) (x y : Int) (w : World) : (eqGuard op 115 s t (wide x) (wide y)).run Tryd.prog w = .ok () w := by
  unfold wide
  go_simp
theorem wrap_lo (x : Int) : (x = wrap64 (loN x : Int)) ↔ in64 x := by unfold loN wrap64 in64; omega

theorem int_any (x : Int) (w : World) :
    Calls Tryd.prog 100 #[wide x] w fun e w' => e = .returned (.tuple #[.int .i64 (fitI x), .bool (wfitB x)]) ∧ Below w.heap.size w w' := by
  have hn : in64 (wrap64 (loN x : Int)) := by unfold in64 wrap64; omega
  by_cases hx : in64 x
  all_goals
    have hq : decide (x = wrap64 (loN x : Int)) = decide (in64 x) := by rw [decide_eq_decide]; exact wrap_lo x
    have hr := fun w => run_neq_wide x (wrap64 (loN x : Int)) w
    simp only [hq, hx, decide_true, decide_false, Bool.not_true, Bool.not_false] at hr
    have HX := Lib.hid hx
    have HR := Lib.hid hr
    have HQ := Lib.hid hq
    clear hx hr hq
    unfold wide
    go_enter Tryd.func100, Tryd.ntmps100
    go_wp2
    generalize hW : w.alloc (Obj.cells #[Value.int IntKind.i64 (hiW x), Value.int IntKind.u64 (loN x : Int)] 115) = W
    have c1 : Whole W w.heap.size 115 #[Value.int IntKind.i64 (hiW x), Value.int IntKind.u64 (loN x : Int)] := by rw [← hW]; exact Whole.made _ _ _
    have bW : Below w.heap.size w W := by rw [← hW]; exact (Below.refl _ _).alloc (Nat.le_refl _) _
    have HW := Lib.hid hW
    clear hW
    refine wp_region_tail (C := fun w' => ∃ p : Regrown, w' = Go.Sort.grow (redrawn W p.d) p.os) 4 (by kernel_rfl) (by kernel_rfl) (by kernel_rfl) (rg_draw W) ?_
    simp only [List.take_succ_cons, List.take_zero, List.drop_succ_cons, List.drop_zero]
    repeat (first
      | go_big_quiet_skip
      | (go_big_quiet_want; first
        | (refine q_load_row _ _ rfl _ rfl _ _ _ _ c1 Tryd.underlying115 rfl (by kernel_rfl) ?_; go_big_quiet_on; simp only [Act.put, List.setIfInBounds_toArray, List.set_cons_succ, List.set_cons_zero])
        | (refine q_call 95 _ _ rfl _ _ (enters_of Tryd.func95 rfl rfl) (fun w hw => of_any _ w hn) rfl ?_; go_big_quiet_on; simp only [Act.put, List.setIfInBounds_toArray, List.set_cons_succ, List.set_cons_zero])
        | (refine q_binop _ _ _ _ _ rfl _ _ _ (HR.out) (run_guard_wide _ _ _ _ _) rfl rfl ?_; go_big_quiet_on; simp only [Act.put, List.setIfInBounds_toArray, List.set_cons_succ, List.set_cons_zero])
        | (go_big_quiet_op; go_big_quiet_on)))
    refine wpQuiet_nil ?_
    intro w' hq
    have hq := rg_below hq
    go_wp2
    go_ret2
    have b2 := bW.trans (hq.mono bW.size)
  · obtain ⟨e1, e2⟩ := fit_yes HX.out
    rw [e1, e2]
    exact ⟨ret2_int ((wrap_lo x).2 HX.out).symm, b2⟩
  · obtain ⟨e1, e2⟩ := fit_no HX.out
    rw [e1, e2]
    exact ⟨rfl, b2⟩

theorem narrow_plus (x n : Int) (w : World) (hx : inSum x) (hn : in64 n) :
    Calls Tryd.prog 94 #[.func (.func 96) #[wide x] #[], .int .i64 n] w fun e w' => e = .returned (.tuple #[.int .i64 (fitI (x + n)), .bool (wfitB (x + n))]) ∧ Below w.heap.size w w' := by
  go_enter Tryd.func94, Tryd.ntmps94
  go_wp2_with (first
    | (go_at_call 96; refine (plus_any x n _ hx hn).mono ?_; rintro e w1 ⟨rfl, b1⟩)
    | (go_at_call 100; refine (int_any (x + n) _).mono ?_; rintro e w2 ⟨rfl, b2⟩))
  go_ret2
  exact ⟨rfl, b1.trans (b2.mono b1.size)⟩
theorem narrow_minus (x n : Int) (w : World) (hx : inSum x) (hn : in64 n) :
    Calls Tryd.prog 94 #[.func (.func 97) #[wide x] #[], .int .i64 n] w fun e w' => e = .returned (.tuple #[.int .i64 (fitI (x - n)), .bool (wfitB (x - n))]) ∧ Below w.heap.size w w' := by
  go_enter Tryd.func94, Tryd.ntmps94
  go_wp2_with (first
    | (go_at_call 97; refine (minus_any x n _ hx hn).mono ?_; rintro e w1 ⟨rfl, b1⟩)
    | (go_at_call 100; refine (int_any (x - n) _).mono ?_; rintro e w2 ⟨rfl, b2⟩))
  go_ret2
  exact ⟨rfl, b1.trans (b2.mono b1.size)⟩

theorem in_sum {x : Int} (h : in64 x) : inSum x := by unfold in64 at h; unfold inSum; omega
theorem add_any (a b : Int) (w : World) (ha : in64 a) (hb : in64 b) :
    Calls Tryd.prog 87 #[.int .i64 a, .int .i64 b] w fun e w' => e = .returned (.tuple #[.int .i64 (fitI (a + b)), .bool (wfitB (a + b))]) ∧ Below w.heap.size w w' := by
  have ha' := in_sum ha
  go_enter Tryd.func87, Tryd.ntmps87
  go_wp2_with (first
    | (go_at_call 95; refine (of_any a _ ha).mono ?_; rintro e w1 ⟨rfl, b1⟩)
    | (go_at_call 94; refine (narrow_plus a b _ ha' hb).mono ?_; rintro e w2 ⟨rfl, b2⟩))
  go_ret2
  exact ⟨rfl, b1.trans (b2.mono b1.size)⟩
theorem sub_any (a b : Int) (w : World) (ha : in64 a) (hb : in64 b) :
    Calls Tryd.prog 88 #[.int .i64 a, .int .i64 b] w fun e w' => e = .returned (.tuple #[.int .i64 (fitI (a - b)), .bool (wfitB (a - b))]) ∧ Below w.heap.size w w' := by
  have ha' := in_sum ha
  go_enter Tryd.func88, Tryd.ntmps88
  go_wp2_with (first
    | (go_at_call 95; refine (of_any a _ ha).mono ?_; rintro e w1 ⟨rfl, b1⟩)
    | (go_at_call 94; refine (narrow_minus a b _ ha' hb).mono ?_; rintro e w2 ⟨rfl, b2⟩))
  go_ret2
  exact ⟨rfl, b1.trans (b2.mono b1.size)⟩
end Go.Proofs.YtlpgmmcdcjkkiaaDoor
