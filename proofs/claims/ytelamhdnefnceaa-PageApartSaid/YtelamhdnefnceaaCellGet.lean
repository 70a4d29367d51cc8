/- Layer 5: the contract of the program's Get. -/
import Derived.Test.YtelamhdnefnceaaCellMath
import Derived.Test.YtelamhdnefnceaaCell
import Derived.Test.YtelamhdnefnceaaBeRead
import Derived.Test.YtelamhdnefnceaaChecked
namespace Go.Proofs.Ytelamhdnefnceaa
set_option maxRecDepth 20000
open Go.RowKit Go.Sort

/-- What is read of bytes: the cell, and the reader's state behind it. -/
def readC (l : List UInt8) : Cl × (List UInt8 × Bool) :=
  let s1 := rdS (l, false) 1
  let k := rdI (l, false) 1
  if k = 1 then (⟨1, rdB (rdS s1 1) (rdI s1 1).toNat, 0, 0, 0⟩, rdS (rdS s1 1) (rdI s1 1).toNat)
  else if k = 2 then (⟨2, [], rdI s1 8, rdI (rdS s1 8) 8, rdI (rdS (rdS s1 8) 8) 8⟩, rdS (rdS (rdS s1 8) 8) 8)
  else (⟨k, [], 0, 0, 0⟩, s1)
/-- What Get tells. -/
def getC (l : List UInt8) : Cl × Int × Int :=
  let r := readC (l.take 257)
  if r.2.2 then (zeroC, 0, 13) else if good r.1 then (r.1, ((l.take 257).length : Int) - r.2.1.length, 0) else (zeroC, 0, 12)
def GetP (l : List UInt8) (w : World) (e : Ending) (w' : World) : Prop := ∃ D, e = .returned (.tuple #[cv D (getC l).1, .int .i64 (getC l).2.1, .int .i64 (getC l).2.2]) ∧ SV w' D (bys (getC l).1.d) ∧ Below w.heap.size w w'

/-- The state of Get: the result's variable, the reader, the cell that is made. -/
structure GetSt (w : World) (g g7 : Nat) (s : List UInt8 × Bool) (cs : Array Value) (x : World) : Prop where
  two : Whole x w.heap.size 35 #[.int .i64 0, .slice none 0 0, .int .i64 0, .int .i64 0, .int .i64 0]
  seven : Whole x g7 35 cs
  rd : RDR g s x
  below : Below w.heap.size w x
  hg : w.heap.size < g
  hg7 : g < g7
namespace GetSt
variable {w x y : World} {g g7 : Nat} {s s' : List UInt8 × Bool} {cs : Array Value}
theorem step (h : GetSt w g g7 s cs x) (hr : RDR g s' y) (hb : But g x y) : GetSt w g g7 s' cs y :=
  ⟨h.two.but hb (Nat.ne_of_lt h.hg), h.seven.but hb (Nat.ne_of_gt h.hg7), hr, But.below h.below hb (Nat.le_of_lt h.hg) h.below.size, h.hg, h.hg7⟩
theorem later (h : GetSt w g g7 s cs x) (hb : Below x.heap.size x y) : GetSt w g g7 s cs y := ⟨h.two.on hb, h.seven.on hb, h.rd.keep hb, h.below.trans (hb.mono h.below.size), h.hg, h.hg7⟩
theorem put (h : GetSt w g g7 s cs x) (hn : (cs.toList.all fun v => !isU8 v) = true) (i : Nat) (u : Value) : GetSt w g g7 s (cs.setIfInBounds i u) (x.setCell ⟨g7, i, none⟩ u) :=
  ⟨h.two.but (But.set g7 x i u) (by have := h.hg; have := h.hg7; omega), h.seven.put i u, h.rd.but h.seven (But.set g7 x i u) hn (Nat.ne_of_lt h.hg7), h.below.setCell (by have := h.hg; have := h.hg7; simp; omega) u, h.hg, h.hg7⟩
end GetSt

theorem rdS_len (s : List UInt8 × Bool) (n : Nat) (h : s.1.length ≤ 1073741824) : (rdS s n).1.length ≤ 1073741824 := by
  unfold rdS
  split
  · simp; omega
  · simp

theorem rdI_one (s : List UInt8 × Bool) : 0 ≤ rdI s 1 ∧ rdI s 1 ≤ 255 := by
  unfold rdI
  split
  · rename_i h
    have hn : 1 ≤ s.1.length := by simp [rdHas] at h; exact h.2
    match hs : s.1, hn with
    | x :: r, _ =>
      have := u8_lt x
      simp [numOf, wrap64]
      omega
  · simp

set_option maxHeartbeats 2000000 in
set_option maxHeartbeats 2000000 in
set_option maxHeartbeats 2000000 in
theorem get5_any (v : Value) (l : List UInt8) (w : World) (hl : l.length ≤ 1073741824) (hv : SV w v (bys l)) : Calls Try.prog 67 #[v] w (GetP l w) := by
  obtain ⟨A, n, c, rfl, rfl⟩ : ∃ A n c, v = .slice A n c ∧ n = l.length := by obtain ⟨A, c, e, _⟩ := hv; exact ⟨A, _, c, e, by simp⟩
  have hb := hv.bd
  rw [bys_len] at hb
  obtain ⟨k, hk1, hk2⟩ : ∃ k : Nat, l.take 257 = l.take k ∧ ((l.length ≤ 257 ∧ k = l.length) ∨ (257 < l.length ∧ k = 257)) := by
    by_cases h : l.length ≤ 257
    · exact ⟨l.length, by rw [List.take_of_length_le h, List.take_of_length_le (Nat.le_refl _)], .inl ⟨h, rfl⟩⟩
    · exact ⟨257, rfl, .inr ⟨by omega, rfl⟩⟩
  have hkl : k ≤ l.length := by omega
  have htk := fun w' => run_take (P := Try.prog) (kd := .i64) (A := A) (n := l.length) (c := c) (k := k) Try.underlying26 (e := 5) (by kernel_rfl) (by omega) w'
  have htv := hv.takev k hkl
  rw [show (bys l).take k = bys (l.take k) by simp [bys]] at htv
  have CR := Lib.hid (fun w' (hb' : Below w.heap.size w w') => rdRead _ (l.take k) w' (by simp; omega) (htv.keep (Keeps.below hb')))
  have CK := Lib.hid check5_any
  have r0 : RDR 0 (l.take k, false) w → True := fun _ => trivial
  clear r0
  have hm257 : ((l.length : Int) ≤ 257 ∧ (k : Int) = l.length) ∨ ((257 : Int) < l.length ∧ (k : Int) = 257) := by omega
  have HM := Lib.hid hm257
  have HKL := Lib.hid (show (l.take k).length = k by simp; omega)
  have HKB := Lib.hid (show k ≤ 257 by omega)
  clear hm257 hk2 hkl htv hv
  go_enter Try.func67, Try.ntmps67
  go_wp2_with (first | (refine wpList_min rfl (.tmp 10) (.const (.int .i64 257)) _ rfl _ _ (k : Int) rfl rfl HM.out ?_))
  refine (CR.out _ ((Below.refl _ _).alloc (Nat.le_refl _) _)).mono ?_
  rintro e w1 ⟨g, rfl, hg, hr, hb1⟩
  have p2 := (Whole.made w _ _).on hb1
  have HB := Lib.hid (((Below.refl w.heap.size w).alloc (Nat.le_refl _) _).trans (hb1.mono (by simp)))
  have hg : w.heap.size + 1 ≤ g := by simpa using hg
  have HS0 := Lib.hid (show (l.take k, false).1.length ≤ 1073741824 by simp; omega)
  go_wp2_with fail
  refine (rdNum g 1 (l.take k, false) w1 hr (by omega) (by omega)).mono ?_
  rintro e w2 ⟨rfl, hr2, hb2⟩
  have q2 := p2.but hb2 (by omega)
  have B2 := But.below HB.out hb2 (by omega) HB.out.size
  have st : ∀ cs, GetSt w g w2.heap.size (rdS (l.take k, false) 1) cs (w2.alloc (.cells cs 35)) := fun cs =>
    ⟨q2.later _, Whole.made _ _ _, hr2.keep ((Below.refl _ _).alloc (Nat.le_refl _) _), B2.alloc B2.size _, by omega, hr2.lt⟩
  have ST := Lib.hid st
  clear st q2 B2 hr2 hb2 p2 hr hb1 HB
  have RD := Lib.hid (show readC (l.take k) = _ from rfl)
  by_cases e1 : rdI (l.take k, false) 1 = 1
  · obtain ⟨n, hn⟩ : ∃ n : Nat, rdI (rdS (l.take k, false) 1) 1 = n := ⟨(rdI (rdS (l.take k, false) 1) 1).toNat, by have := rdI_one (rdS (l.take k, false) 1); omega⟩
    have R : readC (l.take k) = (⟨1, rdB (rdS (rdS (l.take k, false) 1) 1) n, 0, 0, 0⟩, rdS (rdS (rdS (l.take k, false) 1) 1) n) := by
      unfold readC
      simp only [e1, hn, if_true, Int.toNat_natCast]
    have HG7 := Lib.hid (show w.heap.size < g ∧ g < w2.heap.size from ⟨(ST.out #[]).hg, (ST.out #[]).hg7⟩)
    have C3 := fun x (st : GetSt w g w2.heap.size (rdS (l.take k, false) 1) #[.int .i64 1, .slice none 0 0, .int .i64 0, .int .i64 0, .int .i64 0] x) => rdNum g 1 _ x st.rd (by omega) (by omega)
    rw [hn] at C3
    replace C3 := Lib.hid C3
    replace R := Lib.hid R
    have HL := Lib.hid (rdS_len _ 1 (rdS_len (l.take k, false) 1 HS0.out))
    have HSB := Lib.hid (rdS_len _ n HL.out)
    rw [e1]
    clear hn e1 RD
    go_wp2_with fail
    refine (C3.out _ (ST.out _)).mono ?_
    rintro e w3 ⟨rfl, hr3, hb3⟩
    have st3 := (ST.out _).step hr3 hb3
    clear hr3 hb3
    go_wp2_with fail
    refine (rdBytes g n _ w3 st3.rd HL.out).mono ?_
    rintro e w4 ⟨v4, rfl, ho4, hr4, hb4⟩
    have hsv4 := SV.own ho4
    have st4 := st3.step hr4 hb4
    clear hr4 hb4 ho4 st3
    generalize rdS (rdS (rdS (l.take k, false) 1) 1) n = s at *
    have hlt : (rdB (rdS (rdS (l.take k, false) 1) 1) n).length ≤ 1073741824 := by
      have := HL.out
      unfold rdB
      split
      · simp; omega
      · simp
    generalize rdB (rdS (rdS (l.take k, false) 1) 1) n = d at *
    obtain ⟨D, c4, rfl⟩ : ∃ D c, v4 = .slice D d.length c := by obtain ⟨D, c, e, _⟩ := hsv4; exact ⟨D, c, by rw [bys_len] at e; exact e⟩
    have f1 := st4.seven.free 1
    have q1 := st4.seven.cell 1
    simp at q1
    have st5 := st4.put rfl 1 (.slice D d.length c4)
    simp only [List.setIfInBounds_toArray, List.set_cons_succ, List.set_cons_zero] at st5
    have sv5 := sv_but hsv4 st4.seven (But.set _ _ 1 (.slice D d.length c4)) rfl
    have ST5 := Lib.hid st5
    have SV5 := Lib.hid sv5
    clear st4 st5 sv5 hsv4
    have C1 := rdAll g s _ ST5.out.rd
    cases hs : s.2
    · rw [hs] at C1
      replace C1 := Lib.hid C1
      cases hg2 : good ⟨1, d, 0, 0, 0⟩
      · have C2 := fun w' => check5_any D d.length c4 ⟨1, d, 0, 0, 0⟩ w' rfl (by omega)
        rw [ckC_no hg2] at C2
        have G : getC l = (zeroC, 0, 12) := by unfold getC; rw [hk1, R.out]; simp only [hs, hg2]; rfl
        replace G := Lib.hid G
        replace C2 := Lib.hid C2
        clear hs hg2 hlt
        go_wp2_with fail
        refine C1.out.mono ?_
        rintro e w9 ⟨rfl, rfl⟩
        have p7 := ST5.out.seven
        go_wp2_with (refine wpList_load_row rfl 35 (.tmp 7) rfl (w2.heap.size) rfl 35 _ _ _ (p7) Try.underlying35 rfl (by kernel_rfl) ?_)
        refine (C2.out _).mono ?_
        rintro e w10 ⟨rfl, b10⟩
        have st6 := ST5.out.later b10
        have p2 := st6.two
        have bb := below_setRow st6.below (Nat.le_refl w.heap.size) #[.int .i64 0, .slice none 0 0, .int .i64 0, .int .i64 0, .int .i64 0]
        have BB := Lib.hid bb
        clear bb st6 p7
        go_wp2_with (refine wpList_store_row rfl _ _ _ rfl (w.heap.size) _ rfl rfl _ _ p2 (by kernel_rfl) rfl (by simp [Value.oneCell']) ?_)
        refine bodyPost_ret (v := .tuple #[.agg #[.int .i64 0, .slice none 0 0, .int .i64 0, .int .i64 0, .int .i64 0], .int .i64 0, .int .i64 12]) ?_ rfl ?_
        · exact results_cell_tmp2 rfl _ _ (w.heap.size) _ _ (0, 0) _ rfl (setRow_heap _ _ _ _ _ _ p2) Try.underlying35 rfl (by kernel_rfl) _ _ rfl rfl
        · unfold GetP
          rw [G.out]
          exact ⟨_, rfl, SV.nil _, BB.out⟩
      · have C2 := fun w' => check5_any D d.length c4 ⟨1, d, 0, 0, 0⟩ w' rfl (by omega)
        rw [ckC_yes hg2] at C2
        have G : getC l = (⟨1, d, 0, 0, 0⟩, (k : Int) - s.1.length, 0) := by unfold getC; rw [hk1, R.out, HKL.out]; simp only [hs, hg2]; rfl
        replace G := Lib.hid G
        replace C2 := Lib.hid C2
        have C4 := fun x (h : RDR g s x) => rdRest g s x h
        simp only [hs, Bool.false_eq_true, if_false] at C4
        replace C4 := Lib.hid C4
        have hkb := HKB.out
        have hsb := HSB.out
        generalize s.1.length = m at *
        have hsub : IntKind.i64.wrap ((k : Int) - m) = (k : Int) - m := by rw [IntKind.wrap_i64]; omega
        clear hs hg2 hlt
        go_wp2_with fail
        refine C1.out.mono ?_
        rintro e w9 ⟨rfl, rfl⟩
        have p7 := ST5.out.seven
        go_wp2_with (refine wpList_load_row rfl 35 (.tmp 7) rfl (w2.heap.size) rfl 35 _ _ _ (p7) Try.underlying35 rfl (by kernel_rfl) ?_)
        refine (C2.out _).mono ?_
        rintro e w10 ⟨rfl, b10⟩
        have st6 := ST5.out.later b10
        have sv6 := SV5.out.keep (Keeps.below b10)
        have SV6 := Lib.hid sv6
        have p7 := st6.seven
        have p2 := st6.two
        have RD6 := Lib.hid st6.rd
        have bb := st6.below
        have BB := Lib.hid bb
        clear bb st6 sv6
        go_wp2_with fail
        have ne7 : w2.heap.size ≠ w.heap.size := by have := HG7.out; omega
        have neg : g ≠ w.heap.size := by have := HG7.out; omega
        refine wp_region_facts 7 [6] [1000006] (by kernel_rfl) (by kernel_rfl) (by kernel_rfl) (row_draw p2) ?_
        simp only [List.take_succ_cons, List.take_zero, List.drop_succ_cons, List.drop_zero, List.zipIdx_cons, List.zipIdx_nil, Nat.zero_add, Nat.reduceAdd]
        repeat (first
          | (refine f_skip (fun V => by rfl) ?_; simp only [Act.put, List.setIfInBounds_toArray, List.set_cons_succ, List.set_cons_zero])
            | (refine f_load_row (by first | exact cls_free _ | exact cls_row _ _ _ _ | exact cls_fill _ _ _ _ _) (fun V => by rfl) _ _ rfl _ (fun V => by rfl) _ _ _ (fun w hb => p7.but hb.1 ne7) Try.underlying35 rfl (by kernel_rfl) ?_; simp only [Act.put, List.setIfInBounds_toArray, List.set_cons_succ, List.set_cons_zero])
                | (refine f_call (by first | exact cls_free _ | exact cls_row _ _ _ _ | exact cls_fill _ _ _ _ _) (fun V => by rfl) 68 _ _ rfl (enters_of Try.func68 rfl rfl) _ _ (fun V w hb hk => (C4.out w (RD6.out.but p2 hb.1 rfl neg)).mono fun e w' ⟨he, hw'⟩ => ⟨he, hw' ▸ Below.refl _ _⟩) (fun V => by rfl) ?_; simp only [Act.put, List.setIfInBounds_toArray, List.set_cons_succ, List.set_cons_zero])
                | (refine f_store_row (fun V => by rfl) (by decide) (by decide) _ _ _ rfl (#[.int .i64 1, .slice D d.length c4, .int .i64 0, .int .i64 0, .int .i64 0]) (fun V => by rfl) (fun V => by rfl) rfl (by kernel_rfl) (by simp [Value.oneCell']) ?_; simp only [Act.put, keyOf, Option.getD_none, Nat.reduceAdd])
          | (refine f_quiet (by first | exact cls_free _ | exact cls_row _ _ _ _ | exact cls_fill _ _ _ _ _) (fun V => by rfl) (fun V => ⟨_, rfl, by simp⟩) ?_; apply Exists.intro; refine And.intro (fun V w hw K hK => ?_) ?_; ((try simp only [Act.put, List.setIfInBounds_toArray, List.set_cons_succ, List.set_cons_zero] at hK); go_big_quiet_op; exact hK); simp only [Act.put, List.setIfInBounds_toArray, List.set_cons_succ, List.set_cons_zero]))
        refine f_nil ?_
        intro V w' hq hkn
        have hwr := all_slot hkn 1000006 rfl
        simp only at hwr
        have HWR := Lib.hid hwr
        have BB2 := Lib.hid (But.below BB.out hq.1 (Nat.le_refl _) BB.out.size)
        have SV7 := Lib.hid (sv_but (l := d) SV6.out p2 hq.1 rfl)
        clear hkn hwr hsub
        go_wp2
        refine bodyPost_ret (v := .tuple #[.agg #[.int .i64 1, .slice D d.length c4, .int .i64 0, .int .i64 0, .int .i64 0], .int .i64 ((k : Int) - m), .int .i64 0]) ?_ rfl ?_
        · exact results_cell_tmp2 rfl _ _ (w.heap.size) _ _ (0, 0) _ rfl (HWR.out) Try.underlying35 rfl (by kernel_rfl) _ _ rfl rfl
        · unfold GetP
          rw [G.out]
          exact ⟨_, rfl, SV7.out, BB2.out⟩
    · rw [hs] at C1
      replace C1 := Lib.hid C1
      have G : getC l = (zeroC, 0, 13) := by unfold getC; rw [hk1, R.out]; simp only [hs]; rfl
      replace G := Lib.hid G
      clear hs hlt
      go_wp2_with fail
      refine C1.out.mono ?_
      rintro e w9 ⟨rfl, rfl⟩
      have p2 := ST5.out.two
      have bb := below_setRow ST5.out.below (Nat.le_refl w.heap.size) #[.int .i64 0, .slice none 0 0, .int .i64 0, .int .i64 0, .int .i64 0]
      have BB := Lib.hid bb
      clear bb
      go_wp2_with (refine wpList_store_row rfl _ _ _ rfl (w.heap.size) _ rfl rfl _ _ p2 (by kernel_rfl) rfl (by simp [Value.oneCell']) ?_)
      refine bodyPost_ret (v := .tuple #[.agg #[.int .i64 0, .slice none 0 0, .int .i64 0, .int .i64 0, .int .i64 0], .int .i64 0, .int .i64 13]) ?_ rfl ?_
      · exact results_cell_tmp2 rfl _ _ (w.heap.size) _ _ (0, 0) _ rfl (setRow_heap _ _ _ _ _ _ p2) Try.underlying35 rfl (by kernel_rfl) _ _ rfl rfl
      · unfold GetP
        rw [G.out]
        exact ⟨_, rfl, SV.nil _, BB.out⟩
  · by_cases e2 : rdI (l.take k, false) 1 = 2
    · have R : readC (l.take k) = (⟨2, [], rdI (rdS (l.take k, false) 1) 8, rdI (rdS (rdS (l.take k, false) 1) 8) 8, rdI (rdS (rdS (rdS (l.take k, false) 1) 8) 8) 8⟩, rdS (rdS (rdS (rdS (l.take k, false) 1) 8) 8) 8) := by
        unfold readC
        simp only [e2, if_true]
        rfl
      replace R := Lib.hid R
      have HG7 := Lib.hid (show w.heap.size < g ∧ g < w2.heap.size from ⟨(ST.out #[]).hg, (ST.out #[]).hg7⟩)
      have HSB := Lib.hid (rdS_len _ 8 (rdS_len _ 8 (rdS_len _ 8 (rdS_len (l.take k, false) 1 HS0.out))))
      rw [e2]
      clear e1 e2 RD
      have N1 := fun x cs (st : GetSt w g w2.heap.size (rdS (l.take k, false) 1) cs x) => rdNum g 8 _ x st.rd (by omega) (by omega)
      have N2 := fun x cs (st : GetSt w g w2.heap.size (rdS (rdS (l.take k, false) 1) 8) cs x) => rdNum g 8 _ x st.rd (by omega) (by omega)
      have N3 := fun x cs (st : GetSt w g w2.heap.size (rdS (rdS (rdS (l.take k, false) 1) 8) 8) cs x) => rdNum g 8 _ x st.rd (by omega) (by omega)
      replace N1 := Lib.hid N1
      replace N2 := Lib.hid N2
      replace N3 := Lib.hid N3
      generalize rdI (rdS (rdS (rdS (l.take k, false) 1) 8) 8) 8 = v at *
      generalize rdI (rdS (rdS (l.take k, false) 1) 8) 8 = hi at *
      generalize rdI (rdS (l.take k, false) 1) 8 = lo at *
      generalize rdS (rdS (rdS (rdS (l.take k, false) 1) 8) 8) 8 = s at *
      generalize rdS (rdS (rdS (l.take k, false) 1) 8) 8 = s3 at *
      generalize rdS (rdS (l.take k, false) 1) 8 = s2 at *
      generalize rdS (l.take k, false) 1 = s1 at *
      have st0 := ST.out #[.int .i64 2, .slice none 0 0, .int .i64 0, .int .i64 0, .int .i64 0]
      go_wp2_with fail
      refine (N1.out _ _ st0).mono ?_
      rintro e w3 ⟨rfl, hr3, hb3⟩
      have st3 := st0.step hr3 hb3
      have f3 := st3.seven.free 2
      have q3 := st3.seven.cell 2
      simp at q3
      have tt3 := st3.put rfl 2 (.int .i64 lo)
      simp only [List.setIfInBounds_toArray, List.set_cons_succ, List.set_cons_zero] at tt3
      clear hr3 hb3 st3
      go_wp2_with fail
      refine (N2.out _ _ tt3).mono ?_
      rintro e w4 ⟨rfl, hr4, hb4⟩
      have st4 := tt3.step hr4 hb4
      have f4 := st4.seven.free 3
      have q4 := st4.seven.cell 3
      simp at q4
      have tt4 := st4.put rfl 3 (.int .i64 hi)
      simp only [List.setIfInBounds_toArray, List.set_cons_succ, List.set_cons_zero] at tt4
      clear hr4 hb4 st4
      go_wp2_with fail
      refine (N3.out _ _ tt4).mono ?_
      rintro e w5 ⟨rfl, hr5, hb5⟩
      have st5 := tt4.step hr5 hb5
      have f5 := st5.seven.free 4
      have q5 := st5.seven.cell 4
      simp at q5
      have tt5 := st5.put rfl 4 (.int .i64 v)
      simp only [List.setIfInBounds_toArray, List.set_cons_succ, List.set_cons_zero] at tt5
      clear hr5 hb5 st5
      have ST5 := Lib.hid tt5
      clear st0 tt3 tt4 tt5
      have SV5 : ∀ x, SV x (.slice none 0 0) (bys []) := fun x => SV.nil x
      have SV5 := Lib.hid (SV5 (w5.setCell ⟨w2.heap.size, 4, none⟩ (.int .i64 v)))
      have C1 := rdAll g s _ ST5.out.rd
      cases hs : s.2
      · rw [hs] at C1
        replace C1 := Lib.hid C1
        cases hg2 : good ⟨2, [], lo, hi, v⟩
        · have C2 := fun w' => check5_any none 0 0 ⟨2, [], lo, hi, v⟩ w' rfl (by omega)
          rw [ckC_no hg2] at C2
          have G : getC l = (zeroC, 0, 12) := by unfold getC; rw [hk1, R.out]; simp only [hs, hg2]; rfl
          replace G := Lib.hid G
          replace C2 := Lib.hid C2
          clear hs hg2
          go_wp2_with fail
          refine C1.out.mono ?_
          rintro e w9 ⟨rfl, rfl⟩
          have p7 := ST5.out.seven
          go_wp2_with (refine wpList_load_row rfl 35 (.tmp 7) rfl (w2.heap.size) rfl 35 _ _ _ (p7) Try.underlying35 rfl (by kernel_rfl) ?_)
          refine (C2.out _).mono ?_
          rintro e w10 ⟨rfl, b10⟩
          have st6 := ST5.out.later b10
          have p2 := st6.two
          have bb := below_setRow st6.below (Nat.le_refl w.heap.size) #[.int .i64 0, .slice none 0 0, .int .i64 0, .int .i64 0, .int .i64 0]
          have BB := Lib.hid bb
          clear bb st6 p7
          go_wp2_with (refine wpList_store_row rfl _ _ _ rfl (w.heap.size) _ rfl rfl _ _ p2 (by kernel_rfl) rfl (by simp [Value.oneCell']) ?_)
          refine bodyPost_ret (v := .tuple #[.agg #[.int .i64 0, .slice none 0 0, .int .i64 0, .int .i64 0, .int .i64 0], .int .i64 0, .int .i64 12]) ?_ rfl ?_
          · exact results_cell_tmp2 rfl _ _ (w.heap.size) _ _ (0, 0) _ rfl (setRow_heap _ _ _ _ _ _ p2) Try.underlying35 rfl (by kernel_rfl) _ _ rfl rfl
          · unfold GetP
            rw [G.out]
            exact ⟨_, rfl, SV.nil _, BB.out⟩
        · have C2 := fun w' => check5_any none 0 0 ⟨2, [], lo, hi, v⟩ w' rfl (by omega)
          rw [ckC_yes hg2] at C2
          have G : getC l = (⟨2, [], lo, hi, v⟩, (k : Int) - s.1.length, 0) := by unfold getC; rw [hk1, R.out, HKL.out]; simp only [hs, hg2]; rfl
          replace G := Lib.hid G
          replace C2 := Lib.hid C2
          have C4 := fun x (h : RDR g s x) => rdRest g s x h
          simp only [hs, Bool.false_eq_true, if_false] at C4
          replace C4 := Lib.hid C4
          have hkb := HKB.out
          have hsb := HSB.out
          generalize s.1.length = m at *
          have hsub : IntKind.i64.wrap ((k : Int) - m) = (k : Int) - m := by rw [IntKind.wrap_i64]; omega
          clear hs hg2
          go_wp2_with fail
          refine C1.out.mono ?_
          rintro e w9 ⟨rfl, rfl⟩
          have p7 := ST5.out.seven
          go_wp2_with (refine wpList_load_row rfl 35 (.tmp 7) rfl (w2.heap.size) rfl 35 _ _ _ (p7) Try.underlying35 rfl (by kernel_rfl) ?_)
          refine (C2.out _).mono ?_
          rintro e w10 ⟨rfl, b10⟩
          have st6 := ST5.out.later b10
          have sv6 := SV5.out.keep (Keeps.below b10)
          have SV6 := Lib.hid sv6
          have p7 := st6.seven
          have p2 := st6.two
          have RD6 := Lib.hid st6.rd
          have bb := st6.below
          have BB := Lib.hid bb
          clear bb st6 sv6
          go_wp2_with fail
          have ne7 : w2.heap.size ≠ w.heap.size := by have := HG7.out; omega
          have neg : g ≠ w.heap.size := by have := HG7.out; omega
          refine wp_region_facts 7 [6] [1000006] (by kernel_rfl) (by kernel_rfl) (by kernel_rfl) (row_draw p2) ?_
          simp only [List.take_succ_cons, List.take_zero, List.drop_succ_cons, List.drop_zero, List.zipIdx_cons, List.zipIdx_nil, Nat.zero_add, Nat.reduceAdd]
          repeat (first
            | (refine f_skip (fun V => by rfl) ?_; simp only [Act.put, List.setIfInBounds_toArray, List.set_cons_succ, List.set_cons_zero])
              | (refine f_load_row (by first | exact cls_free _ | exact cls_row _ _ _ _ | exact cls_fill _ _ _ _ _) (fun V => by rfl) _ _ rfl _ (fun V => by rfl) _ _ _ (fun w hb => p7.but hb.1 ne7) Try.underlying35 rfl (by kernel_rfl) ?_; simp only [Act.put, List.setIfInBounds_toArray, List.set_cons_succ, List.set_cons_zero])
                    | (refine f_call (by first | exact cls_free _ | exact cls_row _ _ _ _ | exact cls_fill _ _ _ _ _) (fun V => by rfl) 68 _ _ rfl (enters_of Try.func68 rfl rfl) _ _ (fun V w hb hk => (C4.out w (RD6.out.but p2 hb.1 rfl neg)).mono fun e w' ⟨he, hw'⟩ => ⟨he, hw' ▸ Below.refl _ _⟩) (fun V => by rfl) ?_; simp only [Act.put, List.setIfInBounds_toArray, List.set_cons_succ, List.set_cons_zero])
                    | (refine f_store_row (fun V => by rfl) (by decide) (by decide) _ _ _ rfl (#[.int .i64 2, .slice none 0 0, .int .i64 lo, .int .i64 hi, .int .i64 v]) (fun V => by rfl) (fun V => by rfl) rfl (by kernel_rfl) (by simp [Value.oneCell']) ?_; simp only [Act.put, keyOf, Option.getD_none, Nat.reduceAdd])
            | (refine f_quiet (by first | exact cls_free _ | exact cls_row _ _ _ _ | exact cls_fill _ _ _ _ _) (fun V => by rfl) (fun V => ⟨_, rfl, by simp⟩) ?_; apply Exists.intro; refine And.intro (fun V w hw K hK => ?_) ?_; ((try simp only [Act.put, List.setIfInBounds_toArray, List.set_cons_succ, List.set_cons_zero] at hK); go_big_quiet_op; exact hK); simp only [Act.put, List.setIfInBounds_toArray, List.set_cons_succ, List.set_cons_zero]))
          refine f_nil ?_
          intro V w' hq hkn
          have hwr := all_slot hkn 1000006 rfl
          simp only at hwr
          have HWR := Lib.hid hwr
          have BB2 := Lib.hid (But.below BB.out hq.1 (Nat.le_refl _) BB.out.size)
          have SV7 := Lib.hid (sv_but (l := []) SV6.out p2 hq.1 rfl)
          clear hkn hwr hsub
          go_wp2
          refine bodyPost_ret (v := .tuple #[.agg #[.int .i64 2, .slice none 0 0, .int .i64 lo, .int .i64 hi, .int .i64 v], .int .i64 ((k : Int) - m), .int .i64 0]) ?_ rfl ?_
          · exact results_cell_tmp2 rfl _ _ (w.heap.size) _ _ (0, 0) _ rfl (HWR.out) Try.underlying35 rfl (by kernel_rfl) _ _ rfl rfl
          · unfold GetP
            rw [G.out]
            exact ⟨_, rfl, SV7.out, BB2.out⟩
      · rw [hs] at C1
        replace C1 := Lib.hid C1
        have G : getC l = (zeroC, 0, 13) := by unfold getC; rw [hk1, R.out]; simp only [hs]; rfl
        replace G := Lib.hid G
        clear hs
        go_wp2_with fail
        refine C1.out.mono ?_
        rintro e w9 ⟨rfl, rfl⟩
        have p2 := ST5.out.two
        have bb := below_setRow ST5.out.below (Nat.le_refl w.heap.size) #[.int .i64 0, .slice none 0 0, .int .i64 0, .int .i64 0, .int .i64 0]
        have BB := Lib.hid bb
        clear bb
        go_wp2_with (refine wpList_store_row rfl _ _ _ rfl (w.heap.size) _ rfl rfl _ _ p2 (by kernel_rfl) rfl (by simp [Value.oneCell']) ?_)
        refine bodyPost_ret (v := .tuple #[.agg #[.int .i64 0, .slice none 0 0, .int .i64 0, .int .i64 0, .int .i64 0], .int .i64 0, .int .i64 13]) ?_ rfl ?_
        · exact results_cell_tmp2 rfl _ _ (w.heap.size) _ _ (0, 0) _ rfl (setRow_heap _ _ _ _ _ _ p2) Try.underlying35 rfl (by kernel_rfl) _ _ rfl rfl
        · unfold GetP
          rw [G.out]
          exact ⟨_, rfl, SV.nil _, BB.out⟩
    · obtain ⟨kd, hkd⟩ : ∃ kd, rdI (l.take k, false) 1 = kd := ⟨_, rfl⟩
      have R : readC (l.take k) = (⟨kd, [], 0, 0, 0⟩, rdS (l.take k, false) 1) := by
        unfold readC
        simp only [e1, e2, if_false]
        rw [hkd]
      replace R := Lib.hid R
      have HG7 := Lib.hid (show w.heap.size < g ∧ g < w2.heap.size from ⟨(ST.out #[]).hg, (ST.out #[]).hg7⟩)
      have HSB := Lib.hid (rdS_len (l.take k, false) 1 HS0.out)
      rw [hkd] at e1 e2 ⊢
      have r1 : (kd == 1) = false := by simpa using e1
      have r2 : (kd == 2) = false := by simpa using e2
      clear e1 e2 RD hkd
      generalize rdS (l.take k, false) 1 = s at *
      have ST5 := Lib.hid (ST.out #[.int .i64 kd, .slice none 0 0, .int .i64 0, .int .i64 0, .int .i64 0])
      have SV5 := Lib.hid (SV.nil (w2.alloc (.cells #[.int .i64 kd, .slice none 0 0, .int .i64 0, .int .i64 0, .int .i64 0] 35)))
      have C1 := rdAll g s _ ST5.out.rd
      cases hs : s.2
      · rw [hs] at C1
        replace C1 := Lib.hid C1
        cases hg2 : good ⟨kd, [], 0, 0, 0⟩
        · have C2 := fun w' => check5_any none 0 0 ⟨kd, [], 0, 0, 0⟩ w' rfl (by omega)
          rw [ckC_no hg2] at C2
          have G : getC l = (zeroC, 0, 12) := by unfold getC; rw [hk1, R.out]; simp only [hs, hg2]; rfl
          replace G := Lib.hid G
          replace C2 := Lib.hid C2
          clear hs hg2
          go_wp2_with fail
          refine C1.out.mono ?_
          rintro e w9 ⟨rfl, rfl⟩
          have p7 := ST5.out.seven
          go_wp2_with (refine wpList_load_row rfl 35 (.tmp 7) rfl (w2.heap.size) rfl 35 _ _ _ (p7) Try.underlying35 rfl (by kernel_rfl) ?_)
          refine (C2.out _).mono ?_
          rintro e w10 ⟨rfl, b10⟩
          have st6 := ST5.out.later b10
          have p2 := st6.two
          have bb := below_setRow st6.below (Nat.le_refl w.heap.size) #[.int .i64 0, .slice none 0 0, .int .i64 0, .int .i64 0, .int .i64 0]
          have BB := Lib.hid bb
          clear bb st6 p7
          go_wp2_with (refine wpList_store_row rfl _ _ _ rfl (w.heap.size) _ rfl rfl _ _ p2 (by kernel_rfl) rfl (by simp [Value.oneCell']) ?_)
          refine bodyPost_ret (v := .tuple #[.agg #[.int .i64 0, .slice none 0 0, .int .i64 0, .int .i64 0, .int .i64 0], .int .i64 0, .int .i64 12]) ?_ rfl ?_
          · exact results_cell_tmp2 rfl _ _ (w.heap.size) _ _ (0, 0) _ rfl (setRow_heap _ _ _ _ _ _ p2) Try.underlying35 rfl (by kernel_rfl) _ _ rfl rfl
          · unfold GetP
            rw [G.out]
            exact ⟨_, rfl, SV.nil _, BB.out⟩
        · have C2 := fun w' => check5_any none 0 0 ⟨kd, [], 0, 0, 0⟩ w' rfl (by omega)
          rw [ckC_yes hg2] at C2
          have G : getC l = (⟨kd, [], 0, 0, 0⟩, (k : Int) - s.1.length, 0) := by unfold getC; rw [hk1, R.out, HKL.out]; simp only [hs, hg2]; rfl
          replace G := Lib.hid G
          replace C2 := Lib.hid C2
          have C4 := fun x (h : RDR g s x) => rdRest g s x h
          simp only [hs, Bool.false_eq_true, if_false] at C4
          replace C4 := Lib.hid C4
          have hkb := HKB.out
          have hsb := HSB.out
          generalize s.1.length = m at *
          have hsub : IntKind.i64.wrap ((k : Int) - m) = (k : Int) - m := by rw [IntKind.wrap_i64]; omega
          clear hs hg2
          go_wp2_with fail
          refine C1.out.mono ?_
          rintro e w9 ⟨rfl, rfl⟩
          have p7 := ST5.out.seven
          go_wp2_with (refine wpList_load_row rfl 35 (.tmp 7) rfl (w2.heap.size) rfl 35 _ _ _ (p7) Try.underlying35 rfl (by kernel_rfl) ?_)
          refine (C2.out _).mono ?_
          rintro e w10 ⟨rfl, b10⟩
          have st6 := ST5.out.later b10
          have sv6 := SV5.out.keep (Keeps.below b10)
          have SV6 := Lib.hid sv6
          have p7 := st6.seven
          have p2 := st6.two
          have RD6 := Lib.hid st6.rd
          have bb := st6.below
          have BB := Lib.hid bb
          clear bb st6 sv6
          go_wp2_with fail
          have ne7 : w2.heap.size ≠ w.heap.size := by have := HG7.out; omega
          have neg : g ≠ w.heap.size := by have := HG7.out; omega
          refine wp_region_facts 7 [6] [1000006] (by kernel_rfl) (by kernel_rfl) (by kernel_rfl) (row_draw p2) ?_
          simp only [List.take_succ_cons, List.take_zero, List.drop_succ_cons, List.drop_zero, List.zipIdx_cons, List.zipIdx_nil, Nat.zero_add, Nat.reduceAdd]
          repeat (first
            | (refine f_skip (fun V => by rfl) ?_; simp only [Act.put, List.setIfInBounds_toArray, List.set_cons_succ, List.set_cons_zero])
              | (refine f_load_row (by first | exact cls_free _ | exact cls_row _ _ _ _ | exact cls_fill _ _ _ _ _) (fun V => by rfl) _ _ rfl _ (fun V => by rfl) _ _ _ (fun w hb => p7.but hb.1 ne7) Try.underlying35 rfl (by kernel_rfl) ?_; simp only [Act.put, List.setIfInBounds_toArray, List.set_cons_succ, List.set_cons_zero])
                    | (refine f_call (by first | exact cls_free _ | exact cls_row _ _ _ _ | exact cls_fill _ _ _ _ _) (fun V => by rfl) 68 _ _ rfl (enters_of Try.func68 rfl rfl) _ _ (fun V w hb hk => (C4.out w (RD6.out.but p2 hb.1 rfl neg)).mono fun e w' ⟨he, hw'⟩ => ⟨he, hw' ▸ Below.refl _ _⟩) (fun V => by rfl) ?_; simp only [Act.put, List.setIfInBounds_toArray, List.set_cons_succ, List.set_cons_zero])
                    | (refine f_store_row (fun V => by rfl) (by decide) (by decide) _ _ _ rfl (#[.int .i64 kd, .slice none 0 0, .int .i64 0, .int .i64 0, .int .i64 0]) (fun V => by rfl) (fun V => by rfl) rfl (by kernel_rfl) (by simp [Value.oneCell']) ?_; simp only [Act.put, keyOf, Option.getD_none, Nat.reduceAdd])
            | (refine f_quiet (by first | exact cls_free _ | exact cls_row _ _ _ _ | exact cls_fill _ _ _ _ _) (fun V => by rfl) (fun V => ⟨_, rfl, by simp⟩) ?_; apply Exists.intro; refine And.intro (fun V w hw K hK => ?_) ?_; ((try simp only [Act.put, List.setIfInBounds_toArray, List.set_cons_succ, List.set_cons_zero] at hK); go_big_quiet_op; exact hK); simp only [Act.put, List.setIfInBounds_toArray, List.set_cons_succ, List.set_cons_zero]))
          refine f_nil ?_
          intro V w' hq hkn
          have hwr := all_slot hkn 1000006 rfl
          simp only at hwr
          have HWR := Lib.hid hwr
          have BB2 := Lib.hid (But.below BB.out hq.1 (Nat.le_refl _) BB.out.size)
          have SV7 := Lib.hid (sv_but (l := []) SV6.out p2 hq.1 rfl)
          clear hkn hwr hsub
          go_wp2
          refine bodyPost_ret (v := .tuple #[.agg #[.int .i64 kd, .slice none 0 0, .int .i64 0, .int .i64 0, .int .i64 0], .int .i64 ((k : Int) - m), .int .i64 0]) ?_ rfl ?_
          · exact results_cell_tmp2 rfl _ _ (w.heap.size) _ _ (0, 0) _ rfl (HWR.out) Try.underlying35 rfl (by kernel_rfl) _ _ rfl rfl
          · unfold GetP
            rw [G.out]
            exact ⟨_, rfl, SV7.out, BB2.out⟩
      · rw [hs] at C1
        replace C1 := Lib.hid C1
        have G : getC l = (zeroC, 0, 13) := by unfold getC; rw [hk1, R.out]; simp only [hs]; rfl
        replace G := Lib.hid G
        clear hs
        go_wp2_with fail
        refine C1.out.mono ?_
        rintro e w9 ⟨rfl, rfl⟩
        have p2 := ST5.out.two
        have bb := below_setRow ST5.out.below (Nat.le_refl w.heap.size) #[.int .i64 0, .slice none 0 0, .int .i64 0, .int .i64 0, .int .i64 0]
        have BB := Lib.hid bb
        clear bb
        go_wp2_with (refine wpList_store_row rfl _ _ _ rfl (w.heap.size) _ rfl rfl _ _ p2 (by kernel_rfl) rfl (by simp [Value.oneCell']) ?_)
        refine bodyPost_ret (v := .tuple #[.agg #[.int .i64 0, .slice none 0 0, .int .i64 0, .int .i64 0, .int .i64 0], .int .i64 0, .int .i64 13]) ?_ rfl ?_
        · exact results_cell_tmp2 rfl _ _ (w.heap.size) _ _ (0, 0) _ rfl (setRow_heap _ _ _ _ _ _ p2) Try.underlying35 rfl (by kernel_rfl) _ _ rfl rfl
        · unfold GetP
          rw [G.out]
          exact ⟨_, rfl, SV.nil _, BB.out⟩
end Go.Proofs.Ytelamhdnefnceaa
