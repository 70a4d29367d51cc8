/- Plain: the fields of an operation that count; the program's. -/
import Derived.Test.YtejkpjaaefobnaaModelCheck
import Derived.Test.YtejkpjaaefobnaaModelStep
namespace Go.Proofs.Ytejkpjaaefobnaa
set_option maxRecDepth 20000
open Go.RowKit Go.Sort

theorem wp_cut0 {P : Program} {c : Code} {Q : Exit → Act → World → Prop} {a : Act} {w : World} (F : World → Prop) (h : ∃ fr : Act, c.wp P (Exit.then (fun a' w' => a' = fr ∧ F w') (fun _ _ _ => False)) a w ∧ ∀ w', F w' → Q .normal fr w') : c.wp P Q a w := by
  obtain ⟨fr, h1, h2⟩ := h
  refine wp_mono h1 ?_
  intro e a' w' hq
  cases e <;> first | exact hq.elim | skip
  obtain ⟨rfl, hf⟩ := hq
  exact h2 w' hf
/-- The fields that a Do names, beside Do and Key. -/
def mnX (x : Ox) : Ox := ⟨0, [], (plainX x).b, (plainX x).lo, (plainX x).hi, (plainX x).n⟩
def Named (x : Ox) (w : World) (e : Ending) (w' : World) : Prop := ∃ A n c, e = .returned (ov (.slice A n c) x) ∧ SV w' (.slice A n c) (bys x.b) ∧ Below w.heap.size w w'
theorem names_enters (d : Int) : Enters Try.prog (namesF d) := by
  unfold namesF
  split
  · exact enters_of Try.func57 rfl rfl
  · split
    · exact enters_of Try.func60 rfl rfl
    · split
      · exact enters_of Try.func54 rfl rfl
      · exact enters_of Try.func64 rfl rfl
theorem nothing_any (D : Value) (x : Ox) (w : World) : Calls Try.prog 54 #[ov D x] w (Named ⟨0, [], [], 0, 0, 0⟩ w) := by
  unfold ov kst
  go_enter Try.func54, Try.ntmps54
  go_wp2
  exact bodyPost_ret (v := .agg #[.int .i64 0, .string ⟨#[]⟩, .slice none 0 0, .int .i64 0, .int .i64 0, .int .i64 0]) (by simp [results, Try.results54, go_sem]) rfl ⟨none, 0, 0, rfl, SV.nil _, two_more (Below.refl _ _) _ _⟩
theorem bounds_any (D : Value) (x : Ox) (w : World) : Calls Try.prog 60 #[ov D x] w (Named ⟨0, [], [], x.lo, x.hi, x.n⟩ w) := by
  unfold ov kst
  go_enter Try.func60, Try.ntmps60
  go_wp2
  exact bodyPost_ret (v := .agg #[.int .i64 0, .string ⟨#[]⟩, .slice none 0 0, .int .i64 x.lo, .int .i64 x.hi, .int .i64 x.n]) (by simp [results, Try.results60, go_sem]) rfl ⟨none, 0, 0, rfl, SV.nil _, two_more (Below.refl _ _) _ _⟩
theorem amount_any (D : Value) (x : Ox) (w : World) : Calls Try.prog 64 #[ov D x] w (Named ⟨0, [], [], 0, 0, x.n⟩ w) := by
  unfold ov kst
  go_enter Try.func64, Try.ntmps64
  go_wp2
  exact bodyPost_ret (v := .agg #[.int .i64 0, .string ⟨#[]⟩, .slice none 0 0, .int .i64 0, .int .i64 0, .int .i64 x.n]) (by simp [results, Try.results64, go_sem]) rfl ⟨none, 0, 0, rfl, SV.nil _, two_more (Below.refl _ _) _ _⟩
def oc6 (x : Ox) (A : Option Addr) (n c : Nat) : Array Value := #[.int .i64 x.d, .string ⟨x.k.toArray⟩, .slice A n c, .int .i64 x.lo, .int .i64 x.hi, .int .i64 x.n]
theorem oc6_nu (x : Ox) (A : Option Addr) (n c : Nat) : ∀ u ∈ (oc6 x A n c).toList, isU8 u = false := by
  intro u hu
  simp [oc6] at hu
  rcases hu with rfl | rfl | rfl | rfl | rfl | rfl <;> rfl
theorem data_any (A : Option Addr) (n m : Nat) (x : Ox) (w : World) (h : SV w (.slice A n m) (bys x.b)) (hl : x.b.length ≤ 1073741824) : Calls Try.prog 57 #[ov (.slice A n m) x] w (Named ⟨0, [], x.b, 0, 0, 0⟩ w) := by
  have CB := Lib.hid (fun w' (hw : SV w' (.slice A n m) (bys x.b)) => clone_any (.slice A n m) x.b w' hl hw)
  have H := Lib.hid h
  clear h hl
  unfold ov kst
  go_enter Try.func57, Try.ntmps57
  go_wp2_with fail
  refine (CB.out _ (H.out.keep (Keeps.below (two_more (Below.refl _ _) _ _)))).mono ?_
  rintro e w1 ⟨v1, rfl, hv, b1⟩
  obtain ⟨A1, n1, c1, rfl⟩ := sv_sl (SV.own hv)
  have HV := Lib.hid (SV.own hv)
  have p2 := Lib.hid ((Whole.second w _ _ _).on b1)
  have B1 := Lib.hid (bthen (two_more (Below.refl _ w) _ _) b1)
  clear hv b1 CB H
  go_wp2_with (show wpList _ _ _ (Oper.mk _ (.store _ (.tmp 2) _) _ _ _ _ :: _) _ _; refine wpList_store_row rfl _ (.tmp 2) (.tmp 6) rfl (w.heap.size + 1) _ rfl rfl _ _ (p2.out) (by kernel_rfl) rfl (by simp [Value.oneCell']) ?_)
  refine bodyPost_ret (v := .agg #[.int .i64 0, .string ⟨#[]⟩, .slice A1 n1 c1, .int .i64 0, .int .i64 0, .int .i64 0]) ?_ rfl ⟨A1, n1, c1, rfl, sv_blk' p2.out (oc6_nu ⟨0, [], [], 0, 0, 0⟩ none 0 0) HV.out (but_setRow _ _ _), below_setRow B1.out (by omega) _⟩
  exact results_cell_row rfl _ _ (w.heap.size + 1) _ _ (0, 0) _ rfl (setRow_heap _ _ _ _ _ _ p2.out) Try.underlying36 rfl (by kernel_rfl)
theorem names_any (A : Option Addr) (n m : Nat) (x : Ox) (w : World) (h : SV w (.slice A n m) (bys x.b)) (hl : x.b.length ≤ 1073741824) (h0 : 0 ≤ x.d) (h5 : x.d ≤ 5) : Calls Try.prog (namesF x.d) #[ov (.slice A n m) x] w (Named (mnX x) w) := by
  unfold namesF
  by_cases d1 : x.d = 1
  · rw [if_pos d1, show mnX x = ⟨0, [], x.b, 0, 0, 0⟩ by simp [mnX, plainX, d1]]
    exact data_any A n m x w h hl
  · rw [if_neg d1]
    by_cases d2 : x.d = 2
    · rw [if_pos d2, show mnX x = ⟨0, [], [], x.lo, x.hi, x.n⟩ by simp [mnX, plainX, d2]]
      exact bounds_any _ x w
    · rw [if_neg d2]
      by_cases d4 : x.d < 4
      · rw [if_pos d4, show mnX x = ⟨0, [], [], 0, 0, 0⟩ by
          have e4 : ¬ x.d = 4 := by omega
          have e5 : ¬ x.d = 5 := by omega
          simp [mnX, plainX, d1, d2, e4, e5]]
        exact nothing_any _ x w
      · rw [if_neg d4, show mnX x = ⟨0, [], [], 0, 0, x.n⟩ by
          have e5 : x.d = 4 ∨ x.d = 5 := by omega
          rcases e5 with e | e <;> simp [mnX, plainX, e]]
        exact amount_any _ x w
theorem drew_but {g : Nat} {w w1 : World} (h : But g w w1) : But g w w1.drew := ⟨h.os, h.tape, h.output, h.size, h.block⟩
theorem drew_below {n : Nat} {w w1 : World} (h : Below n w w1) : Below n w w1.drew := ⟨h.os, h.tape, h.output, h.size, h.block⟩
set_option maxHeartbeats 1000000 in
theorem plain9_no (A : Option Addr) (n m : Nat) (x : Ox) (w : World) (h05 : ¬ (0 ≤ x.d ∧ x.d ≤ 5)) :
    Calls Try.prog 21 #[ov (.slice A n m) x] w (Named (plainX x) w) := by
  have CD := Lib.hid (fun w => deedOf_no x.d w h05)
  have hm0 : mnX x = ⟨0, [], [], 0, 0, 0⟩ := by
    have e1 : ¬ x.d = 1 := by omega
    have e2 : ¬ x.d = 2 := by omega
    have e4 : ¬ x.d = 4 := by omega
    have e5 : ¬ x.d = 5 := by omega
    simp [mnX, plainX, e1, e2, e4, e5]
  replace hm0 := Lib.hid hm0
  clear h05
  unfold nodeed at CD
  unfold ov kst
  go_enter Try.func21, Try.ntmps21
  go_wp2_with fail
  refine (CD.out _).mono ?_
  rintro e w1 ⟨rfl, b1⟩
  have p1 := Lib.hid ((((Whole.made w _ _).later _).later _).on b1)
  have p2 := Lib.hid (((Whole.second w _ _ _).later _).on b1)
  have p3 := Lib.hid (third_on b1)
  have B1 := Lib.hid (bthen (three_more (Below.refl _ w) _ _ _) b1)
  clear b1 CD
  go_wp2_with (show wpList _ _ _ (Oper.mk _ (.store _ (.tmp 4) _) _ _ _ _ :: _) _ _; refine wpList_store_row rfl _ (.tmp 4) (.tmp 10) rfl (w1).heap.size _ rfl rfl _ _ (Whole.made (w1) _ _) (by kernel_rfl) rfl (by simp [Value.oneCell']) ?_; rw [World.setRow_alloc_new]; generalize hW : World.alloc _ _ = w2; have p4 := Lib.hid (made_eq hW).1; have b2 := Lib.hid (made_eq hW).2; clear hW; replace p1 := Lib.hid (p1.out.on b2.out); replace p2 := Lib.hid (p2.out.on b2.out); replace p3 := Lib.hid (p3.out.on b2.out); have B := Lib.hid (B1.out.trans (b2.out.mono B1.out.size)); clear b2 B1; have y0 : w2.cell? ⟨w.heap.size, 0, none⟩ = some (.int .i64 x.d) := p1.out.cell 0; have y1 : w2.cell? ⟨w.heap.size, 1, none⟩ = some (.string ⟨x.k.toArray⟩) := p1.out.cell 1; have z0 : w2.cell? ⟨w.heap.size + 1 + 1, 0, none⟩ = some (.int .i64 0) := p3.out.cell 0; have z1 : w2.cell? ⟨w.heap.size + 1 + 1, 1, none⟩ = some (.string ⟨#[]⟩) := p3.out.cell 1; have f0 := p3.out.free 0; have f1 := p3.out.free 1)
  clear p4
  obtain ⟨E1, n1, c1, e1, e2, e3⟩ : ∃ E1 n1 c1, E1 = (none : Option Addr) ∧ n1 = 0 ∧ c1 = 0 := ⟨_, _, _, rfl, rfl, rfl⟩
  have hb : (plainX x).b = [] := congrArg Ox.b hm0.out
  have hE : Hid (SV w2 (.slice E1 n1 c1) (bys (plainX x).b)) := Lib.hid (by rw [hb, e1, e2, e3]; exact SV.nil _)
  replace p3 : Hid (Whole w2 (w.heap.size + 1 + 1) 36 (oc6 (mnX x) E1 n1 c1)) := Lib.hid (by rw [hm0.out, e1, e2, e3]; exact p3.out)
  clear hm0 hb e1 e2 e3
  refine wp_cut0 (fun w' => Whole w' (w.heap.size + 1 + 1) 36 (oc6 (plainX x) E1 n1 c1) ∧ Whole w' (w.heap.size + 1) 36 (oc6 ⟨0, [], [], 0, 0, 0⟩ none 0 0) ∧ SV w' (.slice E1 n1 c1) (bys (plainX x).b) ∧ Below w.heap.size w w') ?_
  apply Exists.intro
  refine And.intro ?_ ?_
  · go_region
    all_goals
      refine ⟨rfl, ?_, ?_, ?_, ?_⟩
      · first | exact (p3.out.put 0 _).put 1 _ | exact (p3.out.put 1 _).put 0 _
      · exact (p2.out.apart (by simp) _).apart (by simp) _
      · exact sv_blk' p3.out (oc6_nu (mnX x) E1 n1 c1) hE.out (drew_but ((But.set _ _ _ _).trans (But.set _ _ _ _)))
      · exact drew_below ((B.out.setCell (p := ⟨w.heap.size + 1 + 1, _, none⟩) (by simp; omega) _).setCell (p := ⟨w.heap.size + 1 + 1, _, none⟩) (by simp; omega) _)
  · clear y0 y1 z0 z1 f0 f1 p1 p2 p3 hE B
    rintro w9 ⟨p3, p2, hE, B⟩
    replace p3 := Lib.hid p3
    replace p2 := Lib.hid p2
    replace hE := Lib.hid hE
    replace B := Lib.hid B
    go_wp2_with (first
      | (show wpList _ _ _ (Oper.mk _ (.load _ (.tmp 3)) _ _ _ _ :: _) _ _; refine wpList_load_row rfl 36 (.tmp 3) rfl (w.heap.size + 1 + 1) rfl _ _ _ _ (p3.out) Try.underlying36 rfl (by kernel_rfl) ?_)
      | (show wpList _ _ _ (Oper.mk _ (.store _ (.tmp 2) _) _ _ _ _ :: _) _ _; refine wpList_store_row rfl _ (.tmp 2) (.tmp 23) rfl (w.heap.size + 1) _ rfl rfl _ _ (p2.out) (by kernel_rfl) rfl (by simp [Value.oneCell', oc6]) ?_))
    refine bodyPost_ret (v := .agg (oc6 (plainX x) E1 n1 c1)) ?_ rfl ⟨E1, n1, c1, rfl, sv_blk' p2.out (oc6_nu _ _ _ _) hE.out (but_setRow _ _ _), below_setRow B.out (Nat.le_succ _) _⟩
    exact results_cell_row rfl _ _ (w.heap.size + 1) _ _ (0, 0) _ rfl (setRow_heap _ _ _ _ _ _ p2.out) Try.underlying36 rfl (by kernel_rfl)
set_option maxHeartbeats 1000000 in
theorem plain9_yes (A : Option Addr) (n m : Nat) (x : Ox) (w : World) (h : SV w (.slice A n m) (bys x.b)) (hl : x.b.length ≤ 1073741824) (h0 : 0 ≤ x.d) (h5 : x.d ≤ 5) :
    Calls Try.prog 21 #[ov (.slice A n m) x] w (Named (plainX x) w) := by
  have CD := Lib.hid (fun w => deedOf_yes x.d w h0 h5)
  have HE : ∀ args w, (callFunc (namesF x.d) args).run Try.prog w = .ok (.enter (namesF x.d) args) w := fun args w => names_enters x.d args w
  have CN := Lib.hid (fun w' hw => names_any A n m x w' hw hl h0 h5)
  have H := Lib.hid h
  clear h hl h0 h5
  unfold dval at CD
  unfold ov kst at CN ⊢
  go_enter Try.func21, Try.ntmps21
  go_wp2_with fail
  refine (CD.out _).mono ?_
  rintro e w1 ⟨rfl, b1⟩
  have p1 := Lib.hid ((((Whole.made w _ _).later _).later _).on b1)
  have p2 := Lib.hid (((Whole.second w _ _ _).later _).on b1)
  have p3 := Lib.hid (third_on b1)
  have B1 := Lib.hid (bthen (three_more (Below.refl _ w) _ _ _) b1)
  clear b1 CD
  go_wp2_with (first
    | (show wpList _ _ _ (Oper.mk _ (.store _ (.tmp 4) _) _ _ _ _ :: _) _ _; refine wpList_store_row rfl _ (.tmp 4) (.tmp 10) rfl (w1).heap.size _ rfl rfl _ _ (Whole.made (w1) _ _) (by kernel_rfl) rfl (by simp [Value.oneCell', fnv]) ?_; rw [World.setRow_alloc_new]; generalize hW : World.alloc _ _ = w2; have p4 := Lib.hid (made_eq hW).1; have b2 := Lib.hid (made_eq hW).2; clear hW; replace p1 := Lib.hid (p1.out.on b2.out); replace p2 := Lib.hid (p2.out.on b2.out); replace p3 := Lib.hid (p3.out.on b2.out); have B := Lib.hid (B1.out.trans (b2.out.mono B1.out.size)); have x1 : w2.cell? ⟨w1.heap.size, 1, none⟩ = some (.func (.func (namesF x.d)) #[] #[]) := p4.out.cell 1; clear b2)
    | (show wpList _ _ _ (Oper.mk _ (.load _ (.tmp 1)) _ _ _ _ :: _) _ _; refine wpList_load_row rfl 36 (.tmp 1) rfl (w.heap.size) rfl _ _ _ _ (p1.out) Try.underlying36 rfl (by kernel_rfl) ?_))
  refine (CN.out _ (H.out.keep (Keeps.below B.out))).mono ?_
  rintro e w3 ⟨E1, n1, c1, rfl, hE, b3⟩
  replace p1 := Lib.hid (p1.out.on b3)
  replace p2 := Lib.hid (p2.out.on b3)
  replace p3 := Lib.hid (p3.out.on b3)
  replace B := Lib.hid (B.out.trans (b3.mono B.out.size))
  replace hE := Lib.hid hE
  clear b3 x1 p4 B1 CN HE H
  unfold ov mnX kst
  go_wp2_with (show wpList _ _ _ (Oper.mk _ (.store _ (.tmp 3) _) _ _ _ _ :: _) _ _; refine wpList_store_row rfl _ (.tmp 3) (.tmp 16) rfl (w.heap.size + 1 + 1) _ rfl rfl _ _ (p3.out) (by kernel_rfl) rfl (by simp [Value.oneCell']) ?_)
  generalize hW : World.setRow w3 (w.heap.size + 1 + 1) _ = w4
  have hbt : But (w.heap.size + 1 + 1) w3 w4 := by rw [← hW]; exact but_setRow _ _ _
  have q3 : Hid (Whole w4 (w.heap.size + 1 + 1) 36 (oc6 (mnX x) E1 n1 c1)) := Lib.hid (by rw [← hW]; exact setRow_heap _ _ _ _ _ _ p3.out)
  have hE4 : Hid (SV w4 (.slice E1 n1 c1) (bys (plainX x).b)) := Lib.hid (sv_blk' p3.out (oc6_nu ⟨0, [], [], 0, 0, 0⟩ none 0 0) hE.out hbt)
  replace p1 := Lib.hid (p1.out.but hbt (by omega))
  replace p2 := Lib.hid (p2.out.but hbt (by omega))
  replace B := Lib.hid (show Below w.heap.size w w4 by rw [← hW]; exact below_setRow B.out (by omega) _)
  clear hW hbt hE p3
  have p3 := q3
  have hE := hE4
  clear q3 hE4
  have y0 : w4.cell? ⟨w.heap.size, 0, none⟩ = some (.int .i64 x.d) := p1.out.cell 0
  have y1 : w4.cell? ⟨w.heap.size, 1, none⟩ = some (.string ⟨x.k.toArray⟩) := p1.out.cell 1
  have z0 : w4.cell? ⟨w.heap.size + 1 + 1, 0, none⟩ = some (.int .i64 0) := p3.out.cell 0
  have z1 : w4.cell? ⟨w.heap.size + 1 + 1, 1, none⟩ = some (.string ⟨#[]⟩) := p3.out.cell 1
  have f0 := p3.out.free 0
  have f1 := p3.out.free 1
  refine wp_cut0 (fun w' => Whole w' (w.heap.size + 1 + 1) 36 (oc6 (plainX x) E1 n1 c1) ∧ Whole w' (w.heap.size + 1) 36 (oc6 ⟨0, [], [], 0, 0, 0⟩ none 0 0) ∧ SV w' (.slice E1 n1 c1) (bys (plainX x).b) ∧ Below w.heap.size w w') ?_
  apply Exists.intro
  refine And.intro ?_ ?_
  · go_region
    all_goals
      refine ⟨rfl, ?_, ?_, ?_, ?_⟩
      · first | exact (p3.out.put 0 _).put 1 _ | exact (p3.out.put 1 _).put 0 _
      · exact (p2.out.apart (by simp) _).apart (by simp) _
      · exact sv_blk' p3.out (oc6_nu (mnX x) E1 n1 c1) hE.out (drew_but ((But.set _ _ _ _).trans (But.set _ _ _ _)))
      · exact drew_below ((B.out.setCell (p := ⟨w.heap.size + 1 + 1, _, none⟩) (by simp; omega) _).setCell (p := ⟨w.heap.size + 1 + 1, _, none⟩) (by simp; omega) _)
  · clear y0 y1 z0 z1 f0 f1 p1 p2 p3 hE B
    rintro w9 ⟨p3, p2, hE, B⟩
    replace p3 := Lib.hid p3
    replace p2 := Lib.hid p2
    replace hE := Lib.hid hE
    replace B := Lib.hid B
    go_wp2_with (first
      | (show wpList _ _ _ (Oper.mk _ (.load _ (.tmp 3)) _ _ _ _ :: _) _ _; refine wpList_load_row rfl 36 (.tmp 3) rfl (w.heap.size + 1 + 1) rfl _ _ _ _ (p3.out) Try.underlying36 rfl (by kernel_rfl) ?_)
      | (show wpList _ _ _ (Oper.mk _ (.store _ (.tmp 2) _) _ _ _ _ :: _) _ _; refine wpList_store_row rfl _ (.tmp 2) (.tmp 23) rfl (w.heap.size + 1) _ rfl rfl _ _ (p2.out) (by kernel_rfl) rfl (by simp [Value.oneCell', oc6]) ?_))
    refine bodyPost_ret (v := .agg (oc6 (plainX x) E1 n1 c1)) ?_ rfl ⟨E1, n1, c1, rfl, sv_blk' p2.out (oc6_nu _ _ _ _) hE.out (but_setRow _ _ _), below_setRow B.out (Nat.le_succ _) _⟩
    exact results_cell_row rfl _ _ (w.heap.size + 1) _ _ (0, 0) _ rfl (setRow_heap _ _ _ _ _ _ p2.out) Try.underlying36 rfl (by kernel_rfl)
theorem plain9_any (A : Option Addr) (n m : Nat) (x : Ox) (w : World) (h : SV w (.slice A n m) (bys x.b)) (hl : x.b.length ≤ 1073741824) :
    Calls Try.prog 21 #[ov (.slice A n m) x] w (Named (plainX x) w) := by
  by_cases h05 : 0 ≤ x.d ∧ x.d ≤ 5
  · exact plain9_yes A n m x w h hl h05.1 h05.2
  · exact plain9_no A n m x w h05
end Go.Proofs.Ytejkpjaaefobnaa
