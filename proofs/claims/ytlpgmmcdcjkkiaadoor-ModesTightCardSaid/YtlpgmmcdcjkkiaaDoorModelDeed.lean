/- The table of deeds, and Check. -/
import Derived.Test.YtlpgmmcdcjkkiaaDoorModel
namespace Go.Proofs.YtlpgmmcdcjkkiaaDoor
set_option maxRecDepth 20000
open Go.RowKit Go.Sort

/-! ### The table -/
def fitsF (d : Int) : Nat := if d = 1 then 59 else if d = 2 then 62 else if d < 4 then 56 else 66
def namesF (d : Int) : Nat := if d = 1 then 60 else if d = 2 then 63 else if d < 4 then 57 else 67
def makesF (d : Int) : Nat := if d = 0 then 58 else if d = 1 then 61 else if d = 2 then 64 else if d = 3 then 65 else if d = 4 then 68 else 69
def fnv (f : Nat) : Value := .func (.func f) #[] #[]
def dval (d : Int) : Value := .agg #[fnv (fitsF d), fnv (namesF d), fnv (makesF d)]
theorem six {d : Int} (h0 : 0 ≤ d) (h5 : d ≤ 5) : d = 0 ∨ d = 1 ∨ d = 2 ∨ d = 3 ∨ d = 4 ∨ d = 5 := by omega
def tbl : List Value := [fnv 56, fnv 57, fnv 58, fnv 59, fnv 60, fnv 61, fnv 62, fnv 63, fnv 64,
  fnv 56, fnv 57, fnv 65, fnv 66, fnv 67, fnv 68, fnv 66, fnv 67, fnv 69]
theorem tbl_at {d : Int} {w : World} {g : Nat} {t : TypeId} (h0 : 0 ≤ d) (h5 : d ≤ 5) (hw : Whole w g t tbl.toArray) : w.rangeAt g (d.toNat * 3) [fnv (fitsF d), fnv (namesF d), fnv (makesF d)] := by
  intro j v hv
  rw [hw.cell]
  have hj : j < 3 := (List.getElem?_eq_some_iff.1 hv).1
  have hj3 : j = 0 ∨ j = 1 ∨ j = 2 := by omega
  rw [← hv]
  rcases six h0 h5 with rfl | rfl | rfl | rfl | rfl | rfl <;> rcases hj3 with rfl | rfl | rfl <;> rfl
theorem t4_set (w w1 : World) (o : Obj) (t : TypeId) (cs l : Array Value) (h : ((w.alloc o).alloc (.cells cs t)).setRow (w.heap.size + 1) l = w1) : Whole w1 (w.heap.size + 1) t l := by
  subst h
  exact setRow_heap _ _ _ l _ _ (Whole.second w o t cs)
theorem t2_set (w w1 : World) (t : TypeId) (cs : Array Value) (o : Obj) (l : Array Value) (h : ((w.alloc (.cells cs t)).alloc o).setRow (w.heap.size + 1) l = w1) : Whole w1 w.heap.size t cs := by
  subst h
  exact ((Whole.made w t cs).later o).below (B := w.heap.size + 1) (below_setRow (Below.refl _ _) (Nat.le_refl _) l) (Nat.lt_succ_self _)
theorem b4_set (w w1 : World) (o p : Obj) (l : Array Value) (h : ((w.alloc o).alloc p).setRow (w.heap.size + 1) l = w1) : Below w.heap.size w w1 := by
  subst h
  exact below_setRow (two_more (Below.refl _ w) _ _) (Nat.le_succ _) l
set_option maxHeartbeats 1000000 in
theorem deedOf_yes (d : Int) (w : World) (h0 : 0 ≤ d) (h5 : d ≤ 5) : Calls Tryd.prog 43 #[.int .i64 d] w fun e w' => e = .returned (.tuple #[dval d, .bool true]) ∧ Below w.heap.size w w' := by
  have TB := Lib.hid (fun (w1 : World) g t (hw : Whole w1 g t tbl.toArray) => tbl_at h0 h5 hw)
  have g0 : ¬ d < 0 := by omega
  have g6 : ¬ 6 ≤ d := by omega
  clear h0 h5
  go_enter Tryd.func43, Tryd.ntmps43
  go_wp2_with (first
    | (show wpList _ _ _ (Oper.mk _ (.store _ (.tmp 4) _) _ _ _ _ :: _) _ _; refine wpList_store_row rfl _ (.tmp 4) (.tmp 11) rfl (w.heap.size + 1) _ rfl rfl _ _ (Whole.second w _ _ _) (by kernel_rfl) rfl (by simp [Value.oneCell']) ?_; generalize hW : World.setRow _ _ _ = w1; have p4 := Lib.hid (t4_set w w1 _ _ _ _ hW); have p2 := Lib.hid (t2_set w w1 _ _ _ _ hW); have b1 := Lib.hid (b4_set w w1 _ _ _ hW); clear hW)
    | (show wpList _ _ _ (Oper.mk _ (.load _ (.tmp 20)) _ _ _ _ :: _) _ _; refine wpList_load_mid rfl _ (.tmp 20) rfl _ _ rfl _ _ (TB.out _ _ _ p4.out) Tryd.underlying71 rfl (by kernel_rfl) ?_)
    | (show wpList _ _ _ (Oper.mk _ (.store _ (.tmp 2) _) _ _ _ _ :: _) _ _; refine wpList_store_row rfl _ (.tmp 2) (.tmp 21) rfl w.heap.size _ rfl rfl _ _ p2.out (by kernel_rfl) rfl (by simp [Value.oneCell', fnv]) ?_))
  refine bodyPost_ret (v := .tuple #[dval d, .bool true]) ?_ rfl ⟨rfl, below_setRow b1.out (Nat.le_refl _) _⟩
  exact results_cell_tmp rfl _ _ w.heap.size _ _ (0, 0) _ rfl (setRow_heap _ _ _ _ _ _ p2.out) Tryd.underlying71 rfl (by kernel_rfl) _ rfl
end Go.Proofs.YtlpgmmcdcjkkiaaDoor
