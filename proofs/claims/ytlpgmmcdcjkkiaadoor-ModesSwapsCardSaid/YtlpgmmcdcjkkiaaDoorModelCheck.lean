/- Check: which operations may be. -/
import Derived.Test.YtlpgmmcdcjkkiaaDoorModelDeed
namespace Go.Proofs.YtlpgmmcdcjkkiaaDoor
set_option maxRecDepth 20000
open Go.RowKit Go.Sort

def nodeed : Value := .agg #[.nilFunc, .nilFunc, .nilFunc]
theorem deedOf_no (d : Int) (w : World) (h : ¬ (0 ≤ d ∧ d ≤ 5)) : Calls Tryd.prog 43 #[.int .i64 d] w fun e w' => e = .returned (.tuple #[nodeed, .bool false]) ∧ Below w.heap.size w w' := by
  by_cases h0 : d < 0
  all_goals
    have g6 : ¬ d < 0 → ¬ d < 6 := by omega
    first | have g7 := g6 h0 | skip
    clear h g6
    go_enter Tryd.func43, Tryd.ntmps43
    go_wp2_with (first
      | (show wpList _ _ _ (Oper.mk _ (.store _ (.tmp 4) _) _ _ _ _ :: _) _ _; refine wpList_store_row rfl _ (.tmp 4) (.tmp 11) rfl (w.heap.size + 1) _ rfl rfl _ _ (Whole.second w _ _ _) (by kernel_rfl) rfl (by simp [Value.oneCell']) ?_; generalize hW : World.setRow _ _ _ = w1; have p2 := Lib.hid (t2_set w w1 _ _ _ _ hW); have b1 := Lib.hid (b4_set w w1 _ _ _ hW); clear hW)
      | (show wpList _ _ _ (Oper.mk _ (.store _ (.tmp 2) _) _ _ _ _ :: _) _ _; refine wpList_store_row rfl _ (.tmp 2) (.tmp 18) rfl w.heap.size _ rfl rfl _ _ p2.out (by kernel_rfl) rfl (by simp [Value.oneCell']) ?_))
    refine bodyPost_ret (v := .tuple #[nodeed, .bool false]) ?_ rfl ⟨rfl, below_setRow b1.out (Nat.le_refl _) _⟩
    exact results_cell_tmp rfl _ _ w.heap.size _ _ (0, 0) _ rfl (setRow_heap _ _ _ _ _ _ p2.out) Tryd.underlying71 rfl (by kernel_rfl) _ rfl

/-! ### The fields -/
theorem fits_enters (d : Int) : Enters Tryd.prog (fitsF d) := by
  unfold fitsF
  split
  · exact enters_of Tryd.func59 rfl rfl
  · split
    · exact enters_of Tryd.func62 rfl rfl
    · split
      · exact enters_of Tryd.func56 rfl rfl
      · exact enters_of Tryd.func66 rfl rfl
theorem fits_any (A : Option Addr) (n c : Nat) (x : Ox) (w : World) (hn : n = x.b.length) (hm : n ≤ 9223372036854775807) : Calls Tryd.prog (fitsF x.d) #[ov (.slice A n c) x] w fun e w' => e = .returned (.bool (fitX x)) ∧ Below w.heap.size w w' := by
  unfold fitsF fitX
  by_cases h1 : x.d = 1
  · simp only [h1, if_true]
    exact recordFits_any A n c x w hn hm
  · by_cases h2 : x.d = 2
    · simp only [h2, if_true, show ¬ (2 : Int) = 1 by omega, if_false]
      exact counterFits_any _ x w
    · by_cases h4 : x.d < 4
      · simp only [h1, h2, h4, if_false, if_true, decide_true, Bool.true_or]
        exact always_any _ x w
      · simp only [h1, h2, h4, if_false, decide_false, Bool.false_or]
        exact amountFits_any _ x w

/-! ### Check -/
def ckX (x : Ox) : Int := if goodX x then 0 else 1
inductive CkWay (x : Ox) : Prop
  | do_ (h : ¬ (0 ≤ x.d ∧ x.d ≤ 5)) (e : ckX x = 1)
  | key (h0 : 0 ≤ x.d) (h5 : x.d ≤ 5) (hk : isKey x.k = false) (e : ckX x = 1)
  | fit (h0 : 0 ≤ x.d) (h5 : x.d ≤ 5) (hk : isKey x.k = true) (hf : fitX x = false) (e : ckX x = 1)
  | good (h0 : 0 ≤ x.d) (h5 : x.d ≤ 5) (hk : isKey x.k = true) (hf : fitX x = true) (e : ckX x = 0)
theorem ckWay_of (x : Ox) : CkWay x := by
  by_cases h : 0 ≤ x.d ∧ x.d ≤ 5
  · cases hk : isKey x.k with
    | false => exact .key h.1 h.2 hk (by simp [ckX, goodX, hk])
    | true =>
      cases hf : fitX x with
      | false => exact .fit h.1 h.2 hk hf (by simp [ckX, goodX, hf])
      | true => exact .good h.1 h.2 hk hf (by simp [ckX, goodX, hk, hf, h])
  · refine .do_ h ?_
    have : goodX x = false := by
      cases hg : goodX x with
      | false => rfl
      | true => simp [goodX] at hg; exact absurd hg.1.1 h
    simp [ckX, this]
theorem made_eq {w w1 : World} {t : TypeId} {cs : Array Value} (h : w.alloc (.cells cs t) = w1) : Whole w1 w.heap.size t cs ∧ Below w.heap.size w w1 := by
  subst h
  exact ⟨Whole.made w t cs, (Below.refl _ _).alloc (Nat.le_refl _) _⟩
set_option maxHeartbeats 2000000 in
theorem check9_fits (b : Bool) (A : Option Addr) (n c : Nat) (x : Ox) (w : World) (hn : n = x.b.length) (hm : n ≤ 9223372036854775807) (hk : x.k.length ≤ 9223372036854775807) (h0 : 0 ≤ x.d) (h5 : x.d ≤ 5) (hy : isKey x.k = true) (hf : fitX x = b) :
    Calls Tryd.prog 42 #[ov (.slice A n c) x] w fun e w' => e = .returned (.int .i64 (if b then 0 else 1)) ∧ Below w.heap.size w w' := by
  have CF := fun w => fits_any A n c x w hn hm
  have EF : ∀ args w, (callFunc (fitsF x.d) args).run Tryd.prog w = .ok (.enter (fitsF x.d) args) w := fits_enters x.d
  have CK := fun w => check_any ⟨x.k.toArray⟩ w (by show x.k.toArray.size ≤ _; simpa using hk)
  rw [show (⟨x.k.toArray⟩ : ByteArray).data.toList = x.k from rfl, ckI_yes hy] at CK
  rw [hf] at CF
  have CD := Lib.hid (fun w => deedOf_yes x.d w h0 h5)
  replace CK := Lib.hid CK
  clear h0 h5 hy hf hn hm hk
  unfold ov kst at CF
  replace CF := Lib.hid CF
  unfold ov kst
  unfold dval at CD
  cases b
  all_goals
    go_enter Tryd.func42, Tryd.ntmps42
    go_wp2_with fail
    refine (CD.out _).mono ?_
    rintro e w1 ⟨rfl, b1⟩
    have B1 := Lib.hid (((Below.refl _ w).alloc (Nat.le_refl _) _).trans (b1.mono (by simp)))
    have P1 := Lib.hid ((Whole.made w _ _).on b1)
    clear b1
    go_wp2_with (show wpList _ _ _ (Oper.mk _ (.store _ (.tmp 3) _) _ _ _ _ :: _) _ _; refine wpList_store_row rfl _ (.tmp 3) (.tmp 9) rfl (w1).heap.size _ rfl rfl _ _ (Whole.made (w1) _ _) (by kernel_rfl) rfl (by simp [Value.oneCell', fnv]) ?_; rw [World.setRow_alloc_new]; generalize hW : World.alloc _ _ = w2; have P3 := Lib.hid (made_eq hW).1; have B2 := Lib.hid (made_eq hW).2; clear hW; replace P1 := Lib.hid (P1.out.on B2.out); have q1 : w2.cell? ⟨w.heap.size, 1, none⟩ = some (.string ⟨x.k.toArray⟩) := P1.out.cell 1)
    refine (CK.out _).mono ?_
    rintro e w3 ⟨rfl, b3⟩
    replace P1 := Lib.hid (P1.out.on b3)
    have r3 : w3.cell? ⟨w1.heap.size, 0, none⟩ = some (.func (.func (fitsF x.d)) #[] #[]) := (P3.out.on b3).cell 0
    replace b3 := Lib.hid b3
    clear q1
    go_wp2_with (first
      | (show wpList _ _ _ (Oper.mk _ (.load _ (.tmp 1)) _ _ _ _ :: _) _ _; refine wpList_load_rowg rfl 24 (.tmp 1) rfl w.heap.size rfl _ _ _ _ P1.out Tryd.underlying24 rfl (by kernel_rfl) ?_)
      | (refine Calls.mono (CF.out _) ?_; rintro e w4 ⟨rfl, b4⟩; replace b4 := Lib.hid b4))
    go_ret
    exact ⟨rfl, ((B1.out.trans (B2.out.mono B1.out.size)).trans (b3.out.mono (Nat.le_trans B1.out.size B2.out.size))).trans (b4.out.mono (Nat.le_trans (Nat.le_trans B1.out.size B2.out.size) b3.out.size))⟩
set_option maxHeartbeats 1000000 in
theorem check9_any (A : Option Addr) (n c : Nat) (x : Ox) (w : World) (hn : n = x.b.length) (hm : n ≤ 9223372036854775807) (hl : x.k.length ≤ 9223372036854775807) :
    Calls Tryd.prog 42 #[ov (.slice A n c) x] w fun e w' => e = .returned (.int .i64 (ckX x)) ∧ Below w.heap.size w w' := by
  have CK := Lib.hid (fun w => check_any ⟨x.k.toArray⟩ w (by show x.k.toArray.size ≤ _; simpa using hl))
  have hway := ckWay_of x
  cases hway with
  | do_ h e =>
    rw [e]
    have CD := Lib.hid (fun w => deedOf_no x.d w h)
    clear h e CK hn hm hl
    unfold ov kst
    unfold nodeed at CD
    go_enter Tryd.func42, Tryd.ntmps42
    go_wp2_with fail
    refine (CD.out _).mono ?_
    rintro e w1 ⟨rfl, b1⟩
    have B1 := Lib.hid (((Below.refl _ w).alloc (Nat.le_refl _) _).trans (b1.mono (by simp)))
    clear b1
    go_wp2_with (show wpList _ _ _ (Oper.mk _ (.store _ (.tmp 3) _) _ _ _ _ :: _) _ _; refine wpList_store_row rfl _ (.tmp 3) (.tmp 9) rfl (w1).heap.size _ rfl rfl _ _ (Whole.made (w1) _ _) (by kernel_rfl) rfl (by simp [Value.oneCell']) ?_; rw [World.setRow_alloc_new]; generalize hW : World.alloc _ _ = w2; have P3 := Lib.hid (made_eq hW).1; have B2 := Lib.hid (made_eq hW).2; clear hW; skip)
    go_ret
    exact ⟨rfl, B1.out.trans (B2.out.mono B1.out.size)⟩
  | key h0 h5 hk e =>
    rw [e]
    have CD := Lib.hid (fun w => deedOf_yes x.d w h0 h5)
    replace CK := CK.out
    rw [show (⟨x.k.toArray⟩ : ByteArray).data.toList = x.k from rfl, ckI_no hk] at CK
    replace CK := Lib.hid CK
    clear h0 h5 hk e hn hm hl
    unfold ov kst
    unfold dval at CD
    go_enter Tryd.func42, Tryd.ntmps42
    go_wp2_with fail
    refine (CD.out _).mono ?_
    rintro e w1 ⟨rfl, b1⟩
    have B1 := Lib.hid (((Below.refl _ w).alloc (Nat.le_refl _) _).trans (b1.mono (by simp)))
    have P1 := Lib.hid ((Whole.made w _ _).on b1)
    clear b1
    go_wp2_with (show wpList _ _ _ (Oper.mk _ (.store _ (.tmp 3) _) _ _ _ _ :: _) _ _; refine wpList_store_row rfl _ (.tmp 3) (.tmp 9) rfl (w1).heap.size _ rfl rfl _ _ (Whole.made (w1) _ _) (by kernel_rfl) rfl (by simp [Value.oneCell', fnv]) ?_; rw [World.setRow_alloc_new]; generalize hW : World.alloc _ _ = w2; have P3 := Lib.hid (made_eq hW).1; have B2 := Lib.hid (made_eq hW).2; clear hW; replace P1 := Lib.hid (P1.out.on B2.out); have q1 : w2.cell? ⟨w.heap.size, 1, none⟩ = some (.string ⟨x.k.toArray⟩) := P1.out.cell 1)
    refine (CK.out _).mono ?_
    rintro e w3 ⟨rfl, b3⟩
    replace b3 := Lib.hid b3
    clear q1
    go_wp2
    go_ret
    exact ⟨rfl, (B1.out.trans (B2.out.mono B1.out.size)).trans (b3.out.mono (Nat.le_trans B1.out.size B2.out.size))⟩
  | fit h0 h5 hk hf e => rw [e]; exact check9_fits false A n c x w hn hm hl h0 h5 hk hf
  | good h0 h5 hk hf e => rw [e]; exact check9_fits true A n c x w hn hm hl h0 h5 hk hf
end Go.Proofs.YtlpgmmcdcjkkiaaDoor
