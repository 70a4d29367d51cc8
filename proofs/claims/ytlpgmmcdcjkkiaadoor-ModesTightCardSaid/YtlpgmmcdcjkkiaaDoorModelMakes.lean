/- What the deeds name and make. -/
import Derived.Test.YtlpgmmcdcjkkiaaDoorModelDeed
namespace Go.Proofs.YtlpgmmcdcjkkiaaDoor
set_option maxRecDepth 20000
open Go.RowKit Go.Sort

theorem three_more {a b : World} (h : Below a.heap.size a b) (o p q : Obj) : Below a.heap.size a (((b.alloc o).alloc p).alloc q) := (two_more h o p).alloc (by have := h.size; simp; omega) q
theorem makes_enters (d : Int) : Enters Tryd.prog (makesF d) := by
  unfold makesF
  split
  · exact enters_of Tryd.func58 rfl rfl
  · split
    · exact enters_of Tryd.func61 rfl rfl
    · split
      · exact enters_of Tryd.func64 rfl rfl
      · split
        · exact enters_of Tryd.func65 rfl rfl
        · split
          · exact enters_of Tryd.func68 rfl rfl
          · exact enters_of Tryd.func69 rfl rfl
theorem third_on {w w1 : World} {o p : Obj} {t : TypeId} {cs : Array Value} (b : Below (((w.alloc o).alloc p).alloc (.cells cs t)).heap.size (((w.alloc o).alloc p).alloc (.cells cs t)) w1) : Whole w1 (w.heap.size + 1 + 1) t cs := (Whole.third w o p t cs).on b
theorem sv_sl {w : World} {v : Value} {l : List Value} (h : SV w v l) : ∃ A n c, v = .slice A n c := by
  obtain ⟨A, c, rfl, _⟩ := h
  exact ⟨_, _, _, rfl⟩
theorem sv_blk' {w w' : World} {g : Nat} {t : TypeId} {cs : Array Value} (hk : Whole w g t cs) (hn : ∀ u ∈ cs.toList, isU8 u = false) {v : Value} {l : List UInt8} (h : SV w v (bys l)) (hb : But g w w') : SV w' v (bys l) :=
  sv_but h hk hb (List.all_eq_true.2 fun u hu => by rw [hn u hu]; rfl)
/-- What a deed makes: a cell, and an error. -/
def Makes (r : Cl × Int) (w : World) (e : Ending) (w' : World) : Prop := ∃ D, e = .returned (.tuple #[cv D r.1, .int .i64 r.2]) ∧ SV w' D (bys r.1.d) ∧ Below w.heap.size w w'
theorem sv_zero (w : World) : SV w (.slice none 0 0) (bys zeroC.d) := SV.nil w
theorem read9_any (A : Option Addr) (n m : Nat) (c : Cl) (E : Value) (x : Ox) (w : World) (h : SV w (.slice A n m) (bys c.d)) :
    Calls Tryd.prog 58 #[cv (.slice A n m) c, ov E x] w (Makes (if c.k = 0 then (zeroC, 5) else (c, 0)) w) := by
  have H := Lib.hid h
  clear h
  by_cases hk : c.k = 0
  · rw [if_pos hk]
    unfold cv ov kst
    go_enter Tryd.func58, Tryd.ntmps58
    go_wp2
    exact bodyPost_ret (v := .tuple #[.agg #[.int .i64 0, .slice none 0 0, .int .i64 0, .int .i64 0, .int .i64 0], .int .i64 5]) (by simp [results, Tryd.results58, go_sem]) rfl ⟨_, rfl, sv_zero _, three_more (Below.refl _ _) _ _ _⟩
  · rw [if_neg hk]
    unfold cv ov kst
    go_enter Tryd.func58, Tryd.ntmps58
    go_wp2
    exact bodyPost_ret (v := .tuple #[.agg #[.int .i64 c.k, .slice A n m, .int .i64 c.lo, .int .i64 c.hi, .int .i64 c.v], .int .i64 0]) (by simp [results, Tryd.results58, go_sem]) rfl ⟨_, rfl, H.out.keep (Keeps.below (three_more (Below.refl _ _) _ _ _)), three_more (Below.refl _ _) _ _ _⟩
theorem drop9_any (A : Option Addr) (n m : Nat) (c : Cl) (E : Value) (x : Ox) (w : World) :
    Calls Tryd.prog 65 #[cv (.slice A n m) c, ov E x] w (Makes (if c.k = 0 then (zeroC, 5) else (zeroC, 0)) w) := by
  by_cases hk : c.k = 0
  · rw [if_pos hk]
    unfold cv ov kst
    go_enter Tryd.func65, Tryd.ntmps65
    go_wp2
    exact bodyPost_ret (v := .tuple #[.agg #[.int .i64 0, .slice none 0 0, .int .i64 0, .int .i64 0, .int .i64 0], .int .i64 5]) (by simp [results, Tryd.results65, go_sem]) rfl ⟨_, rfl, sv_zero _, three_more (Below.refl _ _) _ _ _⟩
  · rw [if_neg hk]
    unfold cv ov kst
    go_enter Tryd.func65, Tryd.ntmps65
    go_wp2
    exact bodyPost_ret (v := .tuple #[.agg #[.int .i64 0, .slice none 0 0, .int .i64 0, .int .i64 0, .int .i64 0], .int .i64 0]) (by simp [results, Tryd.results65, go_sem]) rfl ⟨_, rfl, sv_zero _, three_more (Below.refl _ _) _ _ _⟩
theorem write9_any (A B : Option Addr) (n m p q : Nat) (c : Cl) (x : Ox) (w : World) (h : SV w (.slice B p q) (bys x.b)) :
    Calls Tryd.prog 61 #[cv (.slice A n m) c, ov (.slice B p q) x] w (Makes (if c.k = 2 then (zeroC, 6) else (recC x, 0)) w) := by
  have H := Lib.hid h
  have CR := Lib.hid (fun w => record_any B p q x w)
  clear h
  by_cases hk : c.k = 2
  · rw [if_pos hk]
    unfold cv ov kst
    go_enter Tryd.func61, Tryd.ntmps61
    go_wp2
    exact bodyPost_ret (v := .tuple #[.agg #[.int .i64 0, .slice none 0 0, .int .i64 0, .int .i64 0, .int .i64 0], .int .i64 6]) (by simp [results, Tryd.results61, go_sem]) rfl ⟨_, rfl, sv_zero _, three_more (Below.refl _ _) _ _ _⟩
  · rw [if_neg hk]
    unfold cv recC at CR
    unfold ov kst at CR
    unfold cv ov kst
    go_enter Tryd.func61, Tryd.ntmps61
    go_wp2_with (first
      | (go_at_call 84; refine (CR.out _).mono ?_; rintro e w1 ⟨rfl, b1⟩; have p4 := Lib.hid (third_on b1); have B1 := Lib.hid (bthen (three_more (Below.refl _ w) _ _ _) b1); clear b1)
      | (show wpList _ _ _ (Oper.mk _ (.load _ (.tmp 3)) _ _ _ _ :: _) _ _; refine wpList_load_row rfl 24 (.tmp 3) rfl (w.heap.size + 1) rfl _ _ _ _ ((Whole.second w _ _ _).later _) Tryd.underlying24 rfl (by kernel_rfl) ?_)
      | (show wpList _ _ _ (Oper.mk _ (.store _ (.tmp 4) _) _ _ _ _ :: _) _ _; refine wpList_store_row rfl _ (.tmp 4) (.tmp 11) rfl (w.heap.size + 1 + 1) _ rfl rfl _ _ (p4.out) (by kernel_rfl) rfl (by simp [Value.oneCell']) ?_))
    refine bodyPost_ret (v := .tuple #[.agg #[.int .i64 1, .slice B p q, .int .i64 0, .int .i64 0, .int .i64 0], .int .i64 0]) ?_ rfl ⟨_, rfl, H.out.keep (Keeps.below (below_setRow B1.out (by omega) _)), below_setRow B1.out (by omega) _⟩
    exact results_cell_tmp rfl _ _ (w.heap.size + 1 + 1) _ _ (0, 0) _ rfl (setRow_heap _ _ _ _ _ _ p4.out) Tryd.underlying36 rfl (by kernel_rfl) _ rfl
theorem create9_any (A : Option Addr) (n m : Nat) (c : Cl) (E : Value) (x : Ox) (w : World) :
    Calls Tryd.prog 64 #[cv (.slice A n m) c, ov E x] w (Makes (if c.k = 0 then (cntC x, 0) else (zeroC, 7)) w) := by
  have CR := Lib.hid (fun w => counter_any E x w)
  by_cases hk : c.k = 0
  · rw [if_pos hk]
    unfold cv cntC at CR
    unfold ov kst at CR
    unfold cv ov kst
    go_enter Tryd.func64, Tryd.ntmps64
    go_wp2_with (first
      | (go_at_call 85; refine (CR.out _).mono ?_; rintro e w1 ⟨rfl, b1⟩; have p4 := Lib.hid (third_on b1); have B1 := Lib.hid (bthen (three_more (Below.refl _ w) _ _ _) b1); clear b1)
      | (show wpList _ _ _ (Oper.mk _ (.load _ (.tmp 3)) _ _ _ _ :: _) _ _; refine wpList_load_row rfl 24 (.tmp 3) rfl (w.heap.size + 1) rfl _ _ _ _ ((Whole.second w _ _ _).later _) Tryd.underlying24 rfl (by kernel_rfl) ?_)
      | (show wpList _ _ _ (Oper.mk _ (.store _ (.tmp 4) _) _ _ _ _ :: _) _ _; refine wpList_store_row rfl _ (.tmp 4) (.tmp 11) rfl (w.heap.size + 1 + 1) _ rfl rfl _ _ (p4.out) (by kernel_rfl) rfl (by simp [Value.oneCell']) ?_))
    refine bodyPost_ret (v := .tuple #[.agg #[.int .i64 2, .slice none 0 0, .int .i64 x.lo, .int .i64 x.hi, .int .i64 x.n], .int .i64 0]) ?_ rfl ⟨_, rfl, SV.nil _, below_setRow B1.out (by omega) _⟩
    exact results_cell_tmp rfl _ _ (w.heap.size + 1 + 1) _ _ (0, 0) _ rfl (setRow_heap _ _ _ _ _ _ p4.out) Tryd.underlying36 rfl (by kernel_rfl) _ rfl
  · rw [if_neg hk]
    clear CR
    unfold cv ov kst
    go_enter Tryd.func64, Tryd.ntmps64
    go_wp2
    exact bodyPost_ret (v := .tuple #[.agg #[.int .i64 0, .slice none 0 0, .int .i64 0, .int .i64 0, .int .i64 0], .int .i64 7]) (by simp [results, Tryd.results64, go_sem]) rfl ⟨_, rfl, sv_zero _, three_more (Below.refl _ _) _ _ _⟩

/-! ### Counters moved -/
/-- What moving a counter makes, of a cell that may be. -/
theorem mov_eq {c : Cl} {v : Int} (hc : c = zeroC ∨ good c = true) (h6 : in64c c) (hv : c.k = 1 → in64 v) : movX c v = if c.k = 0 then (zeroC, 5) else if in64 v then (stC c v, stE c v) else (zeroC, 8) := by
  unfold movX
  by_cases h0 : c.k = 0
  · rw [if_pos h0, if_pos h0]
  · rw [if_neg h0, if_neg h0]
    have hg : good c = true := hc.resolve_left fun e => h0 (by rw [e]; rfl)
    by_cases h2 : c.k = 2
    · rw [if_neg (by simp [h2])]
      have hlim : in64 c.lo ∧ in64 c.hi := ⟨h6.2.1, h6.2.2.1⟩
      cases hb : inB c.lo c.hi v with
      | true =>
        obtain ⟨b1, b2⟩ := inB_yes hb
        have hin : in64 v := by
          obtain ⟨l1, l2⟩ := hlim
          unfold in64 at *
          omega
        rw [if_pos rfl, if_pos hin]
        simp [stC, stE, setB, h2, hg, hb]
      | false =>
        rw [if_neg (by simp)]
        by_cases hin : in64 v
        · rw [if_pos hin]
          simp [stC, stE, setB, h2, hg, hb]
        · rw [if_neg hin]
    · have h1 : c.k = 1 := (good_kind hg).resolve_right h2
      rw [if_pos h2, if_pos (hv h1)]
      simp [stC, stE, setB, h1]
theorem good_val {c : Cl} (hg : good c = true) (h : c.k = 1) : c.v = 0 := by
  simp [good, h] at hg
  exact hg.2
set_option maxHeartbeats 1000000 in
theorem moved9_any (f : Nat) (hE : Enters Tryd.prog f) (A : Option Addr) (n m : Nat) (c : Cl) (a v : Int) (w : World) (hn : n = c.d.length) (hm : n ≤ 9223372036854775807)
    (hf : ∀ w, Calls Tryd.prog f #[.int .i64 c.v, .int .i64 a] w fun e w' => e = .returned (.tuple #[.int .i64 (fitI v), .bool (wfitB v)]) ∧ Below w.heap.size w w') :
    Calls Tryd.prog 86 #[cv (.slice A n m) c, .int .i64 a, .func (.func f) #[] #[]] w (Makes (if c.k = 0 then (zeroC, 5) else if in64 v then (stC c v, stE c v) else (zeroC, 8)) w) := by
  have HE : ∀ args w, (callFunc f args).run Tryd.prog w = .ok (.enter f args) w := hE
  have HF := Lib.hid hf
  have CS := Lib.hid (fun w => cset_any A n m c v w hn hm)
  have hd : (stC c v).d = [] := by unfold stC; split <;> rfl
  clear hE hf hn hm
  by_cases hk : c.k = 0
  · rw [if_pos hk]
    clear hd HE HF CS
    unfold cv
    go_enter Tryd.func86, Tryd.ntmps86
    go_wp2
    exact bodyPost_ret (v := .tuple #[.agg #[.int .i64 0, .slice none 0 0, .int .i64 0, .int .i64 0, .int .i64 0], .int .i64 5]) (by simp [results, Tryd.results86, go_sem]) rfl ⟨_, rfl, sv_zero _, two_more (Below.refl _ _) _ _⟩
  · rw [if_neg hk]
    by_cases hin : in64 v
    · rw [if_pos hin]
      replace HF := HF.out
      rw [(fit_yes hin).1, (fit_yes hin).2] at HF
      replace HF := Lib.hid HF
      replace hd := Lib.hid hd
      clear hin
      generalize stC c v = C1 at *
      generalize stE c v = E1 at *
      obtain ⟨k1, d1, l1, h1, v1⟩ := C1
      unfold cv at CS ⊢
      go_enter Tryd.func86, Tryd.ntmps86
      go_wp2_with (first
        | (refine Calls.mono (HF.out _) ?_; rintro e w1 ⟨rfl, b1⟩; have p6 := Lib.hid ((Whole.second w _ _ _).on b1); have p3 := Lib.hid (((Whole.made w _ _).later _).on b1); have B1 := Lib.hid (bthen (two_more (Below.refl _ w) _ _) b1); clear b1)
        | (go_at_call 93; refine (CS.out _).mono ?_; rintro e w2 ⟨rfl, b2⟩; replace p6 := Lib.hid (p6.out.on b2); have B2 := Lib.hid (B1.out.trans (b2.mono B1.out.size)); clear b2)
        | (show wpList _ _ _ (Oper.mk _ (.load _ (.tmp 3)) _ _ _ _ :: _) _ _; refine wpList_load_row rfl 36 (.tmp 3) rfl (w.heap.size) rfl _ _ _ _ (p3.out) Tryd.underlying36 rfl (by kernel_rfl) ?_)
        | (show wpList _ _ _ (Oper.mk _ (.store _ (.tmp 6) _) _ _ _ _ :: _) _ _; refine wpList_store_row rfl _ (.tmp 6) (.tmp 28) rfl (w.heap.size + 1) _ rfl rfl _ _ (p6.out) (by kernel_rfl) rfl (by simp [Value.oneCell']) ?_))
      refine bodyPost_ret (v := .tuple #[.agg #[.int .i64 k1, .slice none 0 0, .int .i64 l1, .int .i64 h1, .int .i64 v1], .int .i64 E1]) ?_ rfl ⟨_, rfl, by rw [hd.out]; exact SV.nil _, below_setRow B2.out (by omega) _⟩
      exact results_cell_tmp rfl _ _ (w.heap.size + 1) _ _ (0, 0) _ rfl (setRow_heap _ _ _ _ _ _ p6.out) Tryd.underlying36 rfl (by kernel_rfl) _ rfl
    · rw [if_neg hin]
      replace HF := HF.out
      rw [(fit_no hin).1, (fit_no hin).2] at HF
      replace HF := Lib.hid HF
      clear hin hd CS
      unfold cv
      go_enter Tryd.func86, Tryd.ntmps86
      go_wp2_with (first
        | (refine Calls.mono (HF.out _) ?_; rintro e w1 ⟨rfl, b1⟩; have p6 := Lib.hid ((Whole.second w _ _ _).on b1); have B1 := Lib.hid (bthen (two_more (Below.refl _ w) _ _) b1); clear b1)
        | (show wpList _ _ _ (Oper.mk _ (.store _ (.tmp 6) _) _ _ _ _ :: _) _ _; refine wpList_store_row rfl _ (.tmp 6) (.tmp 24) rfl (w.heap.size + 1) _ rfl rfl _ _ (p6.out) (by kernel_rfl) rfl (by simp [Value.oneCell']) ?_))
      refine bodyPost_ret (v := .tuple #[.agg #[.int .i64 0, .slice none 0 0, .int .i64 0, .int .i64 0, .int .i64 0], .int .i64 8]) ?_ rfl ⟨_, rfl, SV.nil _, below_setRow B1.out (by omega) _⟩
      exact results_cell_tmp rfl _ _ (w.heap.size + 1) _ _ (0, 0) _ rfl (setRow_heap _ _ _ _ _ _ p6.out) Tryd.underlying36 rfl (by kernel_rfl) _ rfl
set_option maxHeartbeats 1000000 in
theorem inc9_any (A : Option Addr) (n m : Nat) (c : Cl) (E : Value) (x : Ox) (w : World) (hn : n = c.d.length) (hm : n ≤ 9223372036854775807) (hc : in64 c.v) (hx : in64 x.n) :
        Calls Tryd.prog 68 #[cv (.slice A n m) c, ov E x] w (Makes (if c.k = 0 then (zeroC, 5) else if in64 (c.v + x.n) then (stC c (c.v + x.n), stE c (c.v + x.n)) else (zeroC, 8)) w) := by
      have CM := fun w => moved9_any 87 (enters_of Tryd.func87 rfl rfl) A n m c x.n (c.v + x.n) w hn hm (fun w => add_any c.v x.n w hc hx)
      clear hn hm hc hx
      generalize (if c.k = 0 then (zeroC, 5) else if in64 (c.v + x.n) then (stC c (c.v + x.n), stE c (c.v + x.n)) else (zeroC, 8)) = r at *
      obtain ⟨⟨k1, d1, l1, h1, v1⟩, E1⟩ := r
      unfold cv at CM
      replace CM := Lib.hid CM
      unfold cv ov kst
      go_enter Tryd.func68, Tryd.ntmps68
      go_wp2_with (first
        | (go_at_call 86; refine (CM.out _).mono ?_; rintro e w1 ⟨D, rfl, hD, b1⟩; obtain ⟨A1, n1, c1, rfl⟩ := sv_sl hD; unfold cv; have p4 := Lib.hid (third_on b1); have hD1 := Lib.hid hD; have B1 := Lib.hid (bthen (three_more (Below.refl _ w) _ _ _) b1); clear b1 hD)
        | (show wpList _ _ _ (Oper.mk _ (.load _ (.tmp 2)) _ _ _ _ :: _) _ _; refine wpList_load_row rfl 36 (.tmp 2) rfl (w.heap.size) rfl _ _ _ _ (((Whole.made w _ _).later _).later _) Tryd.underlying36 rfl (by kernel_rfl) ?_)
        | (show wpList _ _ _ (Oper.mk _ (.store _ (.tmp 4) _) _ _ _ _ :: _) _ _; refine wpList_store_row rfl _ (.tmp 4) (.tmp 10) rfl (w.heap.size + 1 + 1) _ rfl rfl _ _ (p4.out) (by kernel_rfl) rfl (by simp [Value.oneCell']) ?_))
      refine bodyPost_ret (v := .tuple #[.agg #[.int .i64 k1, .slice A1 n1 c1, .int .i64 l1, .int .i64 h1, .int .i64 v1], .int .i64 E1]) ?_ rfl ⟨_, rfl, sv_blk' p4.out (by intro u hu; simp at hu; rcases hu with rfl | rfl | rfl | rfl | rfl <;> rfl) hD1.out (but_setRow _ _ _), below_setRow B1.out (by omega) _⟩
      exact results_cell_tmp rfl _ _ (w.heap.size + 1 + 1) _ _ (0, 0) _ rfl (setRow_heap _ _ _ _ _ _ p4.out) Tryd.underlying36 rfl (by kernel_rfl) _ rfl
set_option maxHeartbeats 1000000 in
theorem dec9_any (A : Option Addr) (n m : Nat) (c : Cl) (E : Value) (x : Ox) (w : World) (hn : n = c.d.length) (hm : n ≤ 9223372036854775807) (hc : in64 c.v) (hx : in64 x.n) :
        Calls Tryd.prog 69 #[cv (.slice A n m) c, ov E x] w (Makes (if c.k = 0 then (zeroC, 5) else if in64 (c.v - x.n) then (stC c (c.v - x.n), stE c (c.v - x.n)) else (zeroC, 8)) w) := by
      have CM := fun w => moved9_any 88 (enters_of Tryd.func88 rfl rfl) A n m c x.n (c.v - x.n) w hn hm (fun w => sub_any c.v x.n w hc hx)
      clear hn hm hc hx
      generalize (if c.k = 0 then (zeroC, 5) else if in64 (c.v - x.n) then (stC c (c.v - x.n), stE c (c.v - x.n)) else (zeroC, 8)) = r at *
      obtain ⟨⟨k1, d1, l1, h1, v1⟩, E1⟩ := r
      unfold cv at CM
      replace CM := Lib.hid CM
      unfold cv ov kst
      go_enter Tryd.func69, Tryd.ntmps69
      go_wp2_with (first
        | (go_at_call 86; refine (CM.out _).mono ?_; rintro e w1 ⟨D, rfl, hD, b1⟩; obtain ⟨A1, n1, c1, rfl⟩ := sv_sl hD; unfold cv; have p4 := Lib.hid (third_on b1); have hD1 := Lib.hid hD; have B1 := Lib.hid (bthen (three_more (Below.refl _ w) _ _ _) b1); clear b1 hD)
        | (show wpList _ _ _ (Oper.mk _ (.load _ (.tmp 2)) _ _ _ _ :: _) _ _; refine wpList_load_row rfl 36 (.tmp 2) rfl (w.heap.size) rfl _ _ _ _ (((Whole.made w _ _).later _).later _) Tryd.underlying36 rfl (by kernel_rfl) ?_)
        | (show wpList _ _ _ (Oper.mk _ (.store _ (.tmp 4) _) _ _ _ _ :: _) _ _; refine wpList_store_row rfl _ (.tmp 4) (.tmp 10) rfl (w.heap.size + 1 + 1) _ rfl rfl _ _ (p4.out) (by kernel_rfl) rfl (by simp [Value.oneCell']) ?_))
      refine bodyPost_ret (v := .tuple #[.agg #[.int .i64 k1, .slice A1 n1 c1, .int .i64 l1, .int .i64 h1, .int .i64 v1], .int .i64 E1]) ?_ rfl ⟨_, rfl, sv_blk' p4.out (by intro u hu; simp at hu; rcases hu with rfl | rfl | rfl | rfl | rfl <;> rfl) hD1.out (but_setRow _ _ _), below_setRow B1.out (by omega) _⟩
      exact results_cell_tmp rfl _ _ (w.heap.size + 1 + 1) _ _ (0, 0) _ rfl (setRow_heap _ _ _ _ _ _ p4.out) Tryd.underlying36 rfl (by kernel_rfl) _ rfl
/-- All deeds. -/
theorem makes_any (A B : Option Addr) (n m p q : Nat) (c : Cl) (x : Ox) (w : World) (hD : SV w (.slice A n m) (bys c.d)) (hE : SV w (.slice B p q) (bys x.b)) (hc : c = zeroC ∨ good c = true) (h6 : in64c c) (hx : in64 x.n) (hg : goodX x = true) :
    Calls Tryd.prog (makesF x.d) #[cv (.slice A n m) c, ov (.slice B p q) x] w (Makes (mkX c x) w) := by
  have hg' : (0 ≤ x.d ∧ x.d ≤ 5) ∧ fitX x = true := by simp [goodX] at hg; exact ⟨hg.1.1, hg.2⟩
  obtain ⟨⟨h0, h5⟩, hfit⟩ := hg'
  have hb := hD.bd
  rw [bys_len] at hb
  have hv : in64 c.v := h6.2.2.2
  unfold makesF mkX
  by_cases d0 : x.d = 0
  · rw [if_pos d0, if_pos d0]; exact read9_any A n m c _ x w hD
  · rw [if_neg d0, if_neg d0]
    by_cases d1 : x.d = 1
    · rw [if_pos d1, if_pos d1]; exact write9_any A B n m p q c x w hE
    · rw [if_neg d1, if_neg d1]
      by_cases d2 : x.d = 2
      · rw [if_pos d2, if_pos d2]; exact create9_any A n m c _ x w
      · rw [if_neg d2, if_neg d2]
        by_cases d3 : x.d = 3
        · rw [if_pos d3, if_pos d3]; exact drop9_any A n m c _ x w
        · rw [if_neg d3, if_neg d3]
          have hn0 : 0 ≤ x.n := by
            unfold fitX at hfit
            rw [if_neg d1, if_neg d2] at hfit
            simp at hfit
            omega
          by_cases d4 : x.d = 4
          · rw [if_pos d4, if_neg (by omega), mov_eq hc h6 (fun h1 => ?_)]
            · exact inc9_any A n m c _ x w hb.1 (by omega) hv hx
            · rw [good_val (hc.resolve_left fun e => by rw [e] at h1; simp [zeroC] at h1) h1]
              unfold in64 at *; omega
          · rw [if_neg d4, if_pos (by omega), mov_eq hc h6 (fun h1 => ?_)]
            · exact dec9_any A n m c _ x w hb.1 (by omega) hv hx
            · rw [good_val (hc.resolve_left fun e => by rw [e] at h1; simp [zeroC] at h1) h1]
              unfold in64 at *; omega
end Go.Proofs.YtlpgmmcdcjkkiaaDoor
