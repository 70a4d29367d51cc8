/- The reference's Plain. -/
import Derived.Test.YtejkpjaaefobnaaModelPlain
import Derived.Test.YtejkpjaaefobnaaModelRef3
namespace Go.Proofs.Ytejkpjaaefobnaa
set_option maxRecDepth 20000
open Go.RowKit Go.Sort

theorem two_ne (n : Nat) : n ≠ n + 1 + 1 := by omega
theorem two_ne' (n : Nat) : n + 1 ≠ n + 1 + 1 := by omega
theorem two_le (n : Nat) : n ≤ n + 1 + 1 := by omega
theorem wpList_store_one {P : Program} {ops : Array Oper} {rest : List Oper} {o : Oper} {a : Act} {w : World} {Q : Exit → Act → World → Prop} (hgd : o.guard = none) (ty : TypeId) (x y : Operand) (ho : o.op = .store ty x y)
    (g i : Nat) (u : Value) (hx : a.eval x = .pointer (some ⟨g, i, none⟩)) (hy : a.eval y = u) (t : TypeId) (cs : Array Value) (hi : i < cs.size) (hg : Whole w g t cs) (hs : (P.info? ty).map (·.size) = some 1) (hu : u.cells = #[u]) (hu1 : u.oneCell' = true)
    (h : ∀ w', Hid (Whole w' g t (cs.setIfInBounds i u)) → Hid (But g w w') → Hid (∀ w0 : World, Below w0.heap.size w0 w → w0.heap.size ≤ g → Below w0.heap.size w0 w') → wpList P ops Q rest (a.put o.dst undef) w') : wpList P ops Q (o :: rest) a w :=
  wpList_plain hgd fun K hK => by
    have hc : w.cell? ⟨g, i, none⟩ = some cs[i] := by rw [hg.cell i]; simp [hi]
    have hf := hg.free i
    have h2 := hK _ _ (h _ (Lib.hid (hg.put i u)) (Lib.hid (But.set g w i u)) (Lib.hid fun w0 hb hl => hb.setCell (p := ⟨g, i, none⟩) hl u))
    cases hq : P.info? ty with
    | none => simp [hq] at hs
    | some inf =>
      have hs' : inf.size = 1 := by simpa [hq] using hs
      have h3 : (sizeOf ty).run P w = .ok 1 w := by simp [sizeOf, typeInfo, hq, hs']
      have h4 : (storeCells ⟨g, i, none⟩ [u]).run P w = .ok () (w.setCell ⟨g, i, none⟩ u) := by
        simp [storeCells, run_store P w ⟨g, i, none⟩ u .plain hu1, hc, hf, Addr.add]
      unfold Oper.wp execOp
      simp only [ho, hx, hy, Instr.storeAt, Instr.sureAddr, Sem.run_bind, Sem.run_pure, Result.andThen_ok, storeVar, h3, hu, List.size_toArray, List.length_cons, List.length_nil, Nat.zero_add, ne_eq, not_true_eq_false, if_false, h4]
      exact h2
theorem rplain9_rest (A : Option Addr) (n m : Nat) (d : Int) (k b : List UInt8) (lo hi v : Int) (w : World) (hn : ¬ d = 1) (hn2 : ¬ d = 2) (hn4 : ¬ d = 4) (hn5 : ¬ d = 5) :
    Calls Try.prog 22 #[ov (.slice A n m) ⟨d, k, b, lo, hi, v⟩] w (Named (plainX ⟨d, k, b, lo, hi, v⟩) w) := by
  have hp := Lib.hid (show plainX ⟨d, k, b, lo, hi, v⟩ = ⟨d, k, [], 0, 0, 0⟩ by simp [plainX, hn, hn2, hn4, hn5])
  rw [hp.out]
  clear hp
  have e1 : (d == 1) = false := by simpa using hn
  have e2 : (d == 2) = false := by simpa using hn2
  have e4 : (d == 4) = false := by simpa using hn4
  have e5 : (d == 5) = false := by simpa using hn5
  clear hn hn2 hn4 hn5
  unfold ov kst
  dsimp only
  go_enter Try.func22, Try.ntmps22
  go_wp2
  refine bodyPost_ret (v := .agg (oc6 ⟨d, k, [], 0, 0, 0⟩ none 0 0)) ?_ rfl ⟨_, _, _, rfl, SV.nil _, three_more (Below.refl _ _) _ _ _⟩
  exact results_cell_row rfl _ _ (w.heap.size + 1) _ _ (0, 0) _ rfl ((Whole.second w _ 36 (oc6 ⟨d, k, [], 0, 0, 0⟩ none 0 0)).later _) Try.underlying36 rfl (by kernel_rfl)
theorem rplain9_1 (A : Option Addr) (n m : Nat) (k b : List UInt8) (lo hi v : Int) (w : World) (h : SV w (.slice A n m) (bys b)) :
    Calls Try.prog 22 #[ov (.slice A n m) ⟨1, k, b, lo, hi, v⟩] w (Named ⟨1, k, b, 0, 0, 0⟩ w) := by
  have H := Lib.hid h
  clear h
  unfold ov kst
  dsimp only
  go_enter Try.func22, Try.ntmps22
  go_wp2
  refine bodyPost_ret (v := .agg (oc6 ⟨1, k, b, 0, 0, 0⟩ A n m)) ?_ rfl ⟨_, _, _, rfl, H.out.keep (Keeps.below (three_more (Below.refl _ w) _ _ _)), three_more (Below.refl _ _) _ _ _⟩
  exact results_cell_row rfl _ _ (w.heap.size + 1) _ _ (0, 0) _ rfl ((Whole.second w _ 36 (oc6 ⟨1, k, b, 0, 0, 0⟩ A n m)).later _) Try.underlying36 rfl (by kernel_rfl)
theorem rplain9_4 (A : Option Addr) (n m : Nat) (k b : List UInt8) (lo hi v : Int) (w : World) :
    Calls Try.prog 22 #[ov (.slice A n m) ⟨4, k, b, lo, hi, v⟩] w (Named ⟨4, k, [], 0, 0, v⟩ w) := by
  unfold ov kst
  dsimp only
  go_enter Try.func22, Try.ntmps22
  go_wp2
  refine bodyPost_ret (v := .agg (oc6 ⟨4, k, [], 0, 0, v⟩ none 0 0)) ?_ rfl ⟨_, _, _, rfl, SV.nil _, three_more (Below.refl _ _) _ _ _⟩
  exact results_cell_row rfl _ _ (w.heap.size + 1) _ _ (0, 0) _ rfl ((Whole.second w _ 36 (oc6 ⟨4, k, [], 0, 0, v⟩ none 0 0)).later _) Try.underlying36 rfl (by kernel_rfl)
theorem rplain9_5 (A : Option Addr) (n m : Nat) (k b : List UInt8) (lo hi v : Int) (w : World) :
    Calls Try.prog 22 #[ov (.slice A n m) ⟨5, k, b, lo, hi, v⟩] w (Named ⟨5, k, [], 0, 0, v⟩ w) := by
  unfold ov kst
  dsimp only
  go_enter Try.func22, Try.ntmps22
  go_wp2
  refine bodyPost_ret (v := .agg (oc6 ⟨5, k, [], 0, 0, v⟩ none 0 0)) ?_ rfl ⟨_, _, _, rfl, SV.nil _, three_more (Below.refl _ _) _ _ _⟩
  exact results_cell_row rfl _ _ (w.heap.size + 1) _ _ (0, 0) _ rfl ((Whole.second w _ 36 (oc6 ⟨5, k, [], 0, 0, v⟩ none 0 0)).later _) Try.underlying36 rfl (by kernel_rfl)
theorem rplain9_2 (A : Option Addr) (n m : Nat) (k b : List UInt8) (lo hi v : Int) (w : World) :
    Calls Try.prog 22 #[ov (.slice A n m) ⟨2, k, b, lo, hi, v⟩] w (Named ⟨2, k, [], lo, hi, v⟩ w) := by
  unfold ov kst
  dsimp only
  go_enter Try.func22, Try.ntmps22
  go_wp2
  refine wp_cut0 (fun w' => Whole w' w.heap.size 36 #[.int .i64 2, .string ⟨k.toArray⟩, .slice A n m, .int .i64 lo, .int .i64 hi, .int .i64 v] ∧ Whole w' (w.heap.size + 1 + 1) 36 (oc6 ⟨2, k, [], lo, hi, 0⟩ none 0 0) ∧ Whole w' (w.heap.size + 1) 36 (oc6 ⟨0, [], [], 0, 0, 0⟩ none 0 0) ∧ Below w.heap.size w w') ?_
  apply Exists.intro
  refine And.intro ?_ ?_
  · go_region
    refine ⟨rfl, ?_, ?_, ?_, ?_⟩
    · exact ((Whole.made w _ _).later _).later _
    · exact third_on (drew_below (Below.refl _ _))
    · exact (Whole.second w _ _ _).later _
    · exact drew_below (three_more (Below.refl _ _) _ _ _)
  · rintro w8 ⟨p1, p3, p2, B⟩
    replace p1 := Lib.hid p1
    replace p2 := Lib.hid p2
    replace p3 := Lib.hid p3
    replace B := Lib.hid B
    have y0 : w8.cell? ⟨w.heap.size, 0, none⟩ = some (.int .i64 2) := p1.out.cell 0
    have y5 : w8.cell? ⟨w.heap.size, 5, none⟩ = some (.int .i64 v) := p1.out.cell 5
    have z5 : w8.cell? ⟨w.heap.size + 1 + 1, 5, none⟩ = some (.int .i64 0) := p3.out.cell 5
    have f5 := p3.out.free 5
    go_wp2_with (first
      | (show wpList _ _ _ (Oper.mk _ (.load _ (.tmp 3)) _ _ _ _ :: _) _ _; refine wpList_load_row rfl 36 (.tmp 3) rfl (w.heap.size + 1 + 1) rfl _ _ _ _ (show Whole _ _ _ (oc6 ⟨2, k, [], lo, hi, v⟩ none 0 0) from p3.out.put 5 _) Try.underlying36 rfl (by kernel_rfl) ?_)
      | (show wpList _ _ _ (Oper.mk _ (.store _ (.tmp 2) _) _ _ _ _ :: _) _ _; refine wpList_store_row rfl _ (.tmp 2) (.tmp 40) rfl (w.heap.size + 1) _ rfl rfl _ _ (p2.out.apart (two_ne' _) _) (by kernel_rfl) rfl (by simp [Value.oneCell', oc6]) ?_))
    refine bodyPost_ret (v := .agg (oc6 ⟨2, k, [], lo, hi, v⟩ none 0 0)) ?_ rfl ⟨none, 0, 0, rfl, SV.nil _, below_setRow (B.out.setCell (p := ⟨w.heap.size + 1 + 1, _, none⟩) (two_le _) _) (Nat.le_succ _) _⟩
    exact results_cell_row rfl _ _ (w.heap.size + 1) _ _ (0, 0) _ rfl (setRow_heap _ _ _ _ _ _ (p2.out.apart (two_ne' _) _)) Try.underlying36 rfl (by kernel_rfl)
theorem rplain9_any (A : Option Addr) (n m : Nat) (x : Ox) (w : World) (h : SV w (.slice A n m) (bys x.b)) :
    Calls Try.prog 22 #[ov (.slice A n m) x] w (Named (plainX x) w) := by
  obtain ⟨d, k, b, lo, hi, v⟩ := x
  by_cases d1 : d = 1
  · subst d1
    exact rplain9_1 A n m k b lo hi v w h
  · by_cases d2 : d = 2
    · subst d2
      exact rplain9_2 A n m k b lo hi v w
    · by_cases d4 : d = 4
      · subst d4
        exact rplain9_4 A n m k b lo hi v w
      · by_cases d5 : d = 5
        · subst d5
          exact rplain9_5 A n m k b lo hi v w
        · exact rplain9_rest A n m d k b lo hi v w d1 d2 d4 d5
end Go.Proofs.Ytejkpjaaefobnaa
