/- The deeds: which function does what, and the contracts of all of them; Check. -/
import Derived.Test.YtlpgmmcdcjkkiaaDoorModelMem
import Derived.Test.YtlpgmmcdcjkkiaaDoorWide
import Derived.Test.YtlpgmmcdcjkkiaaDoorKey
import Derived.Test.YtlpgmmcdcjkkiaaDoorBePut
import Derived.Test.YtlpgmmcdcjkkiaaDoorChecked
namespace Go.Proofs.YtlpgmmcdcjkkiaaDoor
set_option maxRecDepth 20000
open Go.RowKit Go.Sort

/-- An operation as a value; D: its data's slice. -/
def ov (D : Value) (x : Ox) : Value := .agg #[.int .i64 x.d, kst x.k, D, .int .i64 x.lo, .int .i64 x.hi, .int .i64 x.n]
/-- Its numbers are of 64 bits. -/
def in64x (x : Ox) : Prop := in64 x.d ∧ in64 x.lo ∧ in64 x.hi ∧ in64 x.n

section
variable {P : Program} {ops : Array Oper} {rest : List Oper} {o : Oper} {a : Act} {Q : Exit → Act → World → Prop} {w : World}
/-- A call through a function value, by the contract of the function that it is. -/
theorem wpList_callv (hw : Region.wanted o (yielded ops a.tmps) = true) (x : Operand) (ys : Array Operand) (ts : Array TypeId) (ho : o.op = .call { callee := .value x, args := ys, argTypes := ts }) (f : FuncId) (hx : a.eval x = .func (.func f) #[] #[]) (args : Array Value) (hy : ys.map a.eval = args)
    (hE : Enters P f) {R : Ending → World → Prop} (hc : Calls P f args w R) (h : ∀ e w', R e w' → ∃ v, e = .returned v ∧ wpList P ops Q rest (a.put o.dst v) w') : wpList P ops Q (o :: rest) a w :=
  wpList_step fun K hK => by
    rw [if_pos hw]
    have hrun : (execOp a.eval o).run P w = .ok (.enter f args) w := by
      unfold execOp
      have := hE args w
      simp [ho, hx, hy, resolve, invoke, Deferred.ofValue, this]
    unfold Oper.wp
    rw [hrun, Oper.upon_enter]
    refine hc.mono fun e w' hr => ?_
    obtain ⟨v, rfl, h'⟩ := h e w' hr
    exact hK _ _ h'
end

/-! ### What the fields of an operation may be -/
theorem always_any (D : Value) (x : Ox) (w : World) : Calls Tryd.prog 56 #[ov D x] w fun e w' => e = .returned (.bool true) ∧ Below w.heap.size w w' := by
  unfold ov kst
  go_enter Tryd.func56, Tryd.ntmps56
  go_wp2
  go_ret
  exact ⟨rfl, (Below.refl _ _).alloc (Nat.le_refl _) _⟩
theorem record_any (A : Option Addr) (n c : Nat) (x : Ox) (w : World) : Calls Tryd.prog 84 #[ov (.slice A n c) x] w fun e w' => e = .returned (cv (.slice A n c) (recC x)) ∧ Below w.heap.size w w' := by
  unfold ov kst cv
  go_enter Tryd.func84, Tryd.ntmps84
  go_wp2
  exact bodyPost_ret (v := .agg #[.int .i64 1, .slice A n c, .int .i64 0, .int .i64 0, .int .i64 0]) (by simp [results, Tryd.results84, go_sem]) rfl ⟨rfl, two_more (Below.refl _ _) _ _⟩
theorem counter_any (D : Value) (x : Ox) (w : World) : Calls Tryd.prog 85 #[ov D x] w fun e w' => e = .returned (cv (.slice none 0 0) (cntC x)) ∧ Below w.heap.size w w' := by
  unfold ov kst cv
  go_enter Tryd.func85, Tryd.ntmps85
  go_wp2
  exact bodyPost_ret (v := .agg #[.int .i64 2, .slice none 0 0, .int .i64 x.lo, .int .i64 x.hi, .int .i64 x.n]) (by simp [results, Tryd.results85, go_sem]) rfl ⟨rfl, two_more (Below.refl _ _) _ _⟩
theorem ck_eq (c : Cl) : ((ckC c) == 0) = good c := by unfold ckC; cases good c <;> rfl
theorem good_rec (x : Ox) : good (recC x) = decide (x.b.length ≤ 32) := by simp [good, recC]; rfl
theorem good_cnt (x : Ox) : good (cntC x) = inB x.lo x.hi x.n := by simp [good, cntC]
theorem recordFits_any (A : Option Addr) (n c : Nat) (x : Ox) (w : World) (hn : n = x.b.length) (hm : n ≤ 9223372036854775807) : Calls Tryd.prog 59 #[ov (.slice A n c) x] w fun e w' => e = .returned (.bool (decide (x.b.length ≤ 32))) ∧ Below w.heap.size w w' := by
  have CR := Lib.hid (fun w => record_any A n c x w)
  have CC := Lib.hid (fun w => check5_any A n c (recC x) w hn hm)
  rw [← good_rec, ← ck_eq]
  clear hn hm
  unfold ov kst at CR ⊢
  go_enter Tryd.func59, Tryd.ntmps59
  go_wp2_with (first
    | (go_at_call 84; refine (CR.out _).mono ?_; rintro e w1 ⟨rfl, b1⟩; replace b1 := Lib.hid b1)
    | (go_at_call 83; refine (CC.out _).mono ?_; rintro e w2 ⟨rfl, b2⟩; replace b2 := Lib.hid b2)
    | (refine wpList_load_row rfl _ _ rfl (w.heap.size) rfl _ _ _ _ (Whole.made w _ _) Tryd.underlying24 rfl (by kernel_rfl) ?_))
  go_ret
  exact ⟨rfl, bthen ((Below.refl _ _).alloc (Nat.le_refl _) _) (bthen b1.out b2.out)⟩

theorem counterFits_any (D : Value) (x : Ox) (w : World) : Calls Tryd.prog 62 #[ov D x] w fun e w' => e = .returned (.bool (inB x.lo x.hi x.n)) ∧ Below w.heap.size w w' := by
  have CR := Lib.hid (fun w => counter_any D x w)
  have CC := Lib.hid (fun w => check5_any none 0 0 (cntC x) w rfl (by decide))
  rw [← good_cnt, ← ck_eq]
  unfold ov kst at CR ⊢
  go_enter Tryd.func62, Tryd.ntmps62
  go_wp2_with (first
    | (go_at_call 85; refine (CR.out _).mono ?_; rintro e w1 ⟨rfl, b1⟩; replace b1 := Lib.hid b1)
    | (go_at_call 83; refine (CC.out _).mono ?_; rintro e w2 ⟨rfl, b2⟩; replace b2 := Lib.hid b2)
    | (refine wpList_load_row rfl _ _ rfl (w.heap.size) rfl _ _ _ _ (Whole.made w _ _) Tryd.underlying24 rfl (by kernel_rfl) ?_))
  go_ret
  exact ⟨rfl, bthen ((Below.refl _ _).alloc (Nat.le_refl _) _) (bthen b1.out b2.out)⟩
theorem amountFits_any (D : Value) (x : Ox) (w : World) : Calls Tryd.prog 66 #[ov D x] w fun e w' => e = .returned (.bool (decide (0 ≤ x.n))) ∧ Below w.heap.size w w' := by
  unfold ov kst
  go_enter Tryd.func66, Tryd.ntmps66
  go_wp2
  go_ret
  exact ⟨rfl, (Below.refl _ _).alloc (Nat.le_refl _) _⟩

end Go.Proofs.YtlpgmmcdcjkkiaaDoor
