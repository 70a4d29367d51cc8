/- Layer 6: the contracts of the program's read and Get. -/
import Derived.Test.YtelamhdnefnceaaSlotPut
import Derived.Test.YtelamhdnefnceaaCellGet
namespace Go.Proofs.Ytelamhdnefnceaa
set_option maxRecDepth 20000
open Go.RowKit Go.Sort

/-- The state of read: the result's variable, the reader. -/
structure RdSt (w : World) (g : Nat) (s : List UInt8 × Bool) (x : World) : Prop where
  two : Whole x (w.heap.size + 1) 37 #[.int .i64 0, .string ⟨#[]⟩, .int .i64 0, .slice none 0 0, .int .i64 0, .int .i64 0, .int .i64 0]
  rd : RDR g s x
  below : Below w.heap.size w x
  hg : w.heap.size + 1 < g
namespace RdSt
variable {w x y : World} {g : Nat} {s s' : List UInt8 × Bool}
theorem step (h : RdSt w g s x) (hr : RDR g s' y) (hb : But g x y) : RdSt w g s' y := ⟨h.two.but hb (Nat.ne_of_lt h.hg), hr, But.below h.below hb (by have := h.hg; omega) h.below.size, h.hg⟩
theorem later (h : RdSt w g s x) (hb : Below x.heap.size x y) : RdSt w g s y := ⟨h.two.on hb, h.rd.keep hb, h.below.trans (hb.mono h.below.size), h.hg⟩
end RdSt

def ReadP (l : List UInt8) (w : World) (e : Ending) (w' : World) : Prop := ∃ D, e = .returned (iv D (readI l)) ∧ SV w' D (bys (readI l).c.d) ∧ Below w.heap.size w w'

theorem read6_any (l : List UInt8) (w : World) (hl : l.length = 64) : Calls Try.prog 53 #[.agg (ab l)] w (ReadP l w) := by
  have R0 := Lib.hid (fun w' v h => rdRead v l w' (by omega) h)
  go_enter Try.func53, Try.ntmps53
  go_wp2_with fail
  refine (R0.out _ _ (sv_ab (t := 58) ((Whole.made w _ _).later _) 64 hl (by omega))).mono ?_
  rintro e w1 ⟨g, rfl, hg, rd1, b1⟩
  have st1 : RdSt w g (l, false) w1 := ⟨(Whole.second w _ _ _).on b1, rd1, (two_more (Below.refl _ _) _ _).trans (b1.mono (by simp; omega)), by simp at hg; omega⟩
  have L1 : (l, false).1.length ≤ 1073741824 := by simp only; omega
  have ST1 := Lib.hid st1
  have C1 := Lib.hid (rdNum g 1 _ _ st1.rd (by omega) (by omega))
  clear hg rd1 b1 R0 st1
  go_wp2_with fail
  refine C1.out.mono ?_
  rintro e w2 ⟨rfl, r2, b2⟩
  have st2 := ST1.out.step r2 b2
  have L2 := rdS_len (l, false) 1 L1
  generalize hst : rdI (l, false) 1 = st at *
  generalize hs1 : rdS (l, false) 1 = s1 at *
  have ST2 := Lib.hid st2
  have HST := Lib.hid hst
  have HS1 := Lib.hid hs1
  have C2 := Lib.hid (rdNum g 1 _ _ st2.rd (by omega) (by omega))
  clear r2 b2 st2 hs1 C1 hst
  go_wp2_with fail
  refine C2.out.mono ?_
  rintro e w3 ⟨rfl, r3, b3⟩
  have st3 := ST2.out.step r3 b3
  have L3 := rdS_len s1 1 L2
  obtain ⟨n, hn⟩ : ∃ n : Nat, rdI s1 1 = n := ⟨(rdI s1 1).toNat, by have := (rdI_one s1).1; omega⟩
  rw [hn]
  have HN := Lib.hid hn
  generalize hs2 : rdS s1 1 = s2 at *
  have ST3 := Lib.hid st3
  have HS2 := Lib.hid hs2
  have C3 := Lib.hid (rdBytes g n _ _ st3.rd L3)
  clear r3 b3 st3 hs2 hn C2
  go_wp2_with fail
  refine C3.out.mono ?_
  rintro e w4 ⟨v4, rfl, o4, r4, b4⟩
  have O4 := Lib.hid (show fOwn w3.heap.size 5 (bys (rdB s2 n)) v4 w4 by unfold fOwn; rw [bys_len]; exact o4)
  have hgl := ST3.out.rd.lt
  have st4 := ST3.out.step r4 b4
  have L4 := rdS_len s2 n L3
  generalize hk : rdB s2 n = k at *
  generalize hs3 : rdS s2 n = s3 at *
  have HK := Lib.hid hk
  have HS3 := Lib.hid hs3
  have ST4 := Lib.hid st4
  have C4 := rdRest g _ _ st4.rd
  obtain ⟨m, hm⟩ : ∃ m : Nat, (if s3.2 = true then 0 else s3.1.length) = m := ⟨_, rfl⟩
  have hmi : (if s3.2 = true then (0 : Int) else (s3.1.length : Int)) = (m : Int) := by rw [← hm]; split <;> rfl
  rw [hmi] at C4
  replace C4 := Lib.hid C4
  have HM := Lib.hid hm
  have C5 := Lib.hid (rdBytes g m _ _ st4.rd L4)
  clear o4 r4 b4 st4 hk hs3 hm hmi C3
  go_wp2_with fail
  refine C4.out.mono ?_
  rintro e w5 ⟨rfl, rfl⟩
  go_wp2_with fail
  refine C5.out.mono ?_
  rintro e w6 ⟨v6, rfl, o6, r6, b6⟩
  have L6 : (rdB s3 m).length ≤ 1073741824 := by unfold rdB; split <;> simp <;> omega
  have O6 := O4.out.but b6 hgl
  have st6 := ST4.out.step r6 b6
  generalize hr : rdB s3 m = r at *
  have HR := Lib.hid hr
  have C7 := get5_any v6 r w6 L6 (SV.own o6)
  unfold GetP at C7
  have hL : readI l = if (getC r).2.2 = 0 then ⟨st, k, (getC r).1⟩ else zeroI := by
    unfold readI
    simp only [HST.out, HS1.out, HN.out, Int.toNat_natCast, HS2.out, HK.out, HS3.out, HM.out, HR.out]
  generalize getC r = G at *
  obtain ⟨⟨kd, d, lo, hi, v⟩, q, er⟩ := G
  simp only at C7 hL
  unfold cv at C7
  have ST6 := Lib.hid st6
  have HO6 := Lib.hid O6
  replace C7 := Lib.hid C7
  have HL := Lib.hid hL
  clear hL HR hr O6 st6 r6 b6 o6 C5 C4 HM HS3 HK HS2 HN HS1 HST ST1 ST2 ST3 ST4 O4 hgl L1 L2 L3 L4 L6
  go_wp2_with fail
  refine C7.out.mono ?_
  rintro e w7 ⟨D, rfl, s7, b7⟩
  obtain ⟨D', c', rfl⟩ : ∃ D' c', D = .slice D' d.length c' := by obtain ⟨A, c, e, _⟩ := s7; exact ⟨A, c, by rw [bys_len] at e; exact e⟩
  have st7 := ST6.out.later b7
  have p2 := st7.two
  have S7 := Lib.hid s7
  have B7 := Lib.hid st7.below
  have hz7 := p2.lt
  have SK := Lib.hid ((HO6.out.sv).keep (Keeps.below b7))
  clear C7 s7 b7 st7
  have cc := fun cs => run_bytes_string (P := Try.prog) (SK.out.keep (Keeps.alloc _ (.cells cs 35))) 26 5 Try.underlying26 Try.underlying5 9 Try.underlying9
  by_cases he : er = 0
  · subst he
    have HL' := Lib.hid (show readI l = ⟨st, k, ⟨kd, d, lo, hi, v⟩⟩ by rw [HL.out, if_pos rfl])
    have he : True := trivial
    clear HL
    go_wp2_with (first
      | (refine wpList_load_row rfl 35 (.tmp 6) rfl (w7.heap.size) rfl 35 _ _ _ (Whole.made w7 _ _) Try.underlying35 rfl (by kernel_rfl) ?_)
      | (refine wpList_store_row rfl _ (.tmp 2) (.tmp 33) rfl (w.heap.size + 1) _ rfl rfl _ _ (p2.later _) (by kernel_rfl) rfl (by simp [Value.oneCell']) ?_)
      | (refine wpList_store_row rfl _ (.tmp 6) (.tmp 23) rfl w7.heap.size _ rfl rfl _ _ (Whole.made w7 _ _) (by kernel_rfl) rfl (by simp [Value.oneCell']) ?_; rw [World.setRow_alloc_new]))
    refine bodyPost_ret (v := .agg #[.int .i64 st, .string ⟨k.toArray⟩, .int .i64 kd, .slice D' d.length c', .int .i64 lo, .int .i64 hi, .int .i64 v]) ?_ rfl ?_
    · exact results_cell_row rfl _ _ (w.heap.size + 1) _ _ (0, 0) _ rfl (setRow_heap _ _ _ _ _ _ (by exact p2.later _)) Try.underlying37 rfl (by kernel_rfl)
    · unfold ReadP
      rw [HL'.out]
      exact ⟨_, rfl, sv_but (S7.out.keep (Keeps.alloc _ _)) (p2.later _) (But.row _ _ _) rfl, below_setRow (B7.out.alloc B7.out.size _) (Nat.le_succ _) _⟩
  · have HL' := Lib.hid (show readI l = zeroI by rw [HL.out, if_neg he])
    have he' : (er != 0) = true := by simpa using he
    clear HL he cc
    go_wp2_with (first
      | (refine wpList_store_row rfl _ (.tmp 2) (.tmp 28) rfl (w.heap.size + 1) _ rfl rfl _ _ (p2.later _) (by kernel_rfl) rfl (by simp [Value.oneCell']) ?_)
      | (refine wpList_store_row rfl _ (.tmp 6) (.tmp 23) rfl w7.heap.size _ rfl rfl _ _ (Whole.made w7 _ _) (by kernel_rfl) rfl (by simp [Value.oneCell']) ?_; rw [World.setRow_alloc_new]))
    refine bodyPost_ret (v := .agg #[.int .i64 0, .string ⟨#[]⟩, .int .i64 0, .slice none 0 0, .int .i64 0, .int .i64 0, .int .i64 0]) ?_ rfl ?_
    · exact results_cell_row rfl _ _ (w.heap.size + 1) _ _ (0, 0) _ rfl (setRow_heap _ _ _ _ _ _ (by exact p2.later _)) Try.underlying37 rfl (by kernel_rfl)
    · unfold ReadP
      rw [HL'.out]
      exact ⟨_, rfl, SV.nil _, below_setRow (B7.out.alloc B7.out.size _) (Nat.le_succ _) _⟩

def Get6P (l : List UInt8) (w : World) (e : Ending) (w' : World) : Prop := ∃ D, e = .returned (.tuple #[iv D (getI l).1, .int .i64 (getI l).2]) ∧ SV w' D (bys (getI l).1.c.d) ∧ Below w.heap.size w w'
theorem Try.eqGuard58 : Try.prog.eqGuardType Try.prog.depth 58 = false := by kernel_rfl

theorem get6_any (l : List UInt8) (w : World) (hl : l.length = 64) : Calls Try.prog 40 #[.agg (ab l)] w (Get6P l w) := by
  have R := fun w' => read6_any l w' hl
  unfold ReadP at R
  have PUT := fun w' A n m hD hn hk => iput_any A n m (readI l) w' hD hn hk
  obtain ⟨k1, k2⟩ := readI_len l
  have hG : getI l = if sbytes (readI l) = l then (readI l, 0) else (zeroI, 12) := rfl
  have hsl := sbytes_len (readI l)
  have EQ := (fun w' => run_neq_ab (P := Try.prog) Try.underlying58 Try.underlying5 (by kernel_rfl) (sbytes (readI l)) l hsl hl w')
  have EG := Lib.hid (fun (s u : Operand) w' => run_eqGuard_agg (P := Try.prog) w' .neq 58 s u (ab (sbytes (readI l))) (ab l) Try.eqGuard58)
  generalize sbytes (readI l) = sb at *
  generalize hq0 : (sb == l) = q at EQ
  have HQ0 := Lib.hid hq0
  replace EQ := Lib.hid EQ
  clear hq0
  generalize readI l = x at *
  obtain ⟨st, k, kd, d, lo, hi, v⟩ := x
  simp only at *
  unfold iv at R PUT
  replace R := Lib.hid R
  replace PUT := Lib.hid PUT
  have HG := Lib.hid hG
  clear hG
  go_enter Try.func40, Try.ntmps40
  go_wp2_with (refine wpList_load_ab rfl _ (.tmp 1) rfl (w.heap.size) rfl _ _ _ (l) (hl) ((Whole.made w _ _).later _) Try.underlying58 (by kernel_rfl) ?_)
  refine (R.out _).mono ?_
  rintro e w1 ⟨D, rfl, s1, b1⟩
  obtain ⟨D', c', rfl⟩ : ∃ D' c', D = .slice D' d.length c' := by obtain ⟨A, c, e, _⟩ := s1; exact ⟨A, c, by rw [bys_len] at e; exact e⟩
  have p1 := ((Whole.made w _ _).later _).on b1
  have p2 := (Whole.second w _ _ _).on b1
  have B1 := Lib.hid ((two_more (Below.refl w.heap.size w) _ _).trans (b1.mono (by simp; omega)))
  have S1 := Lib.hid s1
  clear b1 s1
  go_wp2_with (refine wpList_store_row rfl _ (.tmp 4) (.tmp 6) rfl w1.heap.size _ rfl rfl _ _ (Whole.made w1 _ _) (by kernel_rfl) rfl (by simp [Value.oneCell']) ?_; rw [World.setRow_alloc_new])
  simp only [Act.put]
  have q4 := Whole.made w1 37 #[.int .i64 st, .string ⟨k.toArray⟩, .int .i64 kd, .slice D' d.length c', .int .i64 lo, .int .i64 hi, .int .i64 v]
  have q1 := p1.later (.cells #[.int .i64 st, .string ⟨k.toArray⟩, .int .i64 kd, .slice D' d.length c', .int .i64 lo, .int .i64 hi, .int .i64 v] 37)
  have q2 := p2.later (.cells #[.int .i64 st, .string ⟨k.toArray⟩, .int .i64 kd, .slice D' d.length c', .int .i64 lo, .int .i64 hi, .int .i64 v] 37)
  have S2 := Lib.hid (S1.out.keep (Keeps.alloc w1 (.cells #[.int .i64 st, .string ⟨k.toArray⟩, .int .i64 kd, .slice D' d.length c', .int .i64 lo, .int .i64 hi, .int .i64 v] 37)))
  have B2 := Lib.hid (B1.out.alloc B1.out.size (.cells #[.int .i64 st, .string ⟨k.toArray⟩, .int .i64 kd, .slice D' d.length c', .int .i64 lo, .int .i64 hi, .int .i64 v] 37))
  have ne := p2.lt
  clear p1 p2 S1 B1
  generalize w1.alloc (.cells #[.int .i64 st, .string ⟨k.toArray⟩, .int .i64 kd, .slice D' d.length c', .int .i64 lo, .int .i64 hi, .int .i64 v] 37) = w2 at *
  generalize w1.heap.size = g4 at *
  refine wp_region_facts 4 [] [] (by kernel_rfl) (by kernel_rfl) (by kernel_rfl) (free_draw w2) ?_
  simp only [List.take_succ_cons, List.take_zero, List.drop_succ_cons, List.drop_zero, List.zipIdx_cons, List.zipIdx_nil, Nat.zero_add, Nat.reduceAdd]
  repeat (first
    | (refine f_skip (fun V => by rfl) ?_; simp only [Act.put, List.setIfInBounds_toArray, List.set_cons_succ, List.set_cons_zero])
      | (refine f_load_row (by first | exact cls_free _ | exact cls_row _ _ _ _ | exact cls_fill _ _ _ _ _) (fun V => by rfl) _ _ rfl _ (fun V => by rfl) _ _ _ (fun w hb => q4.on hb) Try.underlying37 rfl (by kernel_rfl) ?_; simp only [Act.put, List.setIfInBounds_toArray, List.set_cons_succ, List.set_cons_zero])
    | (refine f_load_ab (by first | exact cls_free _ | exact cls_row _ _ _ _ | exact cls_fill _ _ _ _ _) (fun V => by rfl) _ _ rfl _ (fun V => by rfl) _ _ _ (l) (hl) (fun w hb => q1.on hb) Try.underlying58 (by kernel_rfl) ?_; simp only [Act.put, List.setIfInBounds_toArray, List.set_cons_succ, List.set_cons_zero])
    | (refine f_call (by first | exact cls_free _ | exact cls_row _ _ _ _ | exact cls_fill _ _ _ _ _) (fun V => by rfl) 42 _ _ rfl (enters_of Try.func42 rfl rfl) _ _ (fun V w hb hk => PUT.out w D' d.length c' (S2.out.keep (Keeps.below hb)) (by omega) (by omega)) (fun V => by rfl) ?_; simp only [Act.put, List.setIfInBounds_toArray, List.set_cons_succ, List.set_cons_zero])
    | (refine f_binop (by first | exact cls_free _ | exact cls_row _ _ _ _ | exact cls_fill _ _ _ _ _) (fun V => by rfl) _ _ _ _ _ rfl _ _ _ (EQ.out) (EG.out _ _) (fun V => by rfl) (fun V => by rfl) ?_; simp only [Act.put, List.setIfInBounds_toArray, List.set_cons_succ, List.set_cons_zero])
    | (refine f_quiet (by first | exact cls_free _ | exact cls_row _ _ _ _ | exact cls_fill _ _ _ _ _) (fun V => by rfl) (fun V => ⟨_, rfl, by simp⟩) ?_; apply Exists.intro; refine And.intro (fun V w hw K hK => ?_) ?_; ((try simp only [Act.put, List.setIfInBounds_toArray, List.set_cons_succ, List.set_cons_zero] at hK); go_big_quiet_op; exact hK); simp only [Act.put, List.setIfInBounds_toArray, List.set_cons_succ, List.set_cons_zero]))
  refine f_nil ?_
  intro V w3 hq hkn
  have q4' := q4.on hq
  have q2' := q2.on hq
  have S3 := Lib.hid (S2.out.keep (Keeps.below hq))
  have B3 := Lib.hid (B2.out.trans (Below.mono hq B2.out.size))
  clear hkn hq q1 q2 q4 S2 B2 EQ EG R PUT
  cases q with
  | true =>
    have HG' := Lib.hid (show getI l = _ by rw [HG.out, if_pos (beq_iff_eq.1 HQ0.out)])
    clear HG HQ0
    simp only [Bool.not_true]
    go_wp2_with (first
      | (refine wpList_load_row rfl 37 (.tmp 4) rfl (g4) rfl 37 _ _ _ (q4') Try.underlying37 rfl (by kernel_rfl) ?_)
      | (refine wpList_store_row rfl _ (.tmp 2) (.tmp 12) rfl (w.heap.size + 1) _ rfl rfl _ _ q2' (by kernel_rfl) rfl (by simp [Value.oneCell']) ?_))
    refine bodyPost_ret (v := .tuple #[.agg #[.int .i64 st, .string ⟨k.toArray⟩, .int .i64 kd, .slice D' d.length c', .int .i64 lo, .int .i64 hi, .int .i64 v], .int .i64 0]) ?_ rfl ?_
    · exact results_cell_tmp rfl _ _ (w.heap.size + 1) _ _ (0, 0) _ rfl (setRow_heap _ _ _ _ _ _ q2') Try.underlying37 rfl (by kernel_rfl) _ rfl
    · unfold Get6P
      rw [HG'.out]
      exact ⟨_, rfl, sv_but S3.out q2' (But.row _ _ _) rfl, below_setRow B3.out (Nat.le_succ _) _⟩
  | false =>
    have HG' := Lib.hid (show getI l = _ by rw [HG.out, if_neg (beq_eq_false_iff_ne.1 HQ0.out)])
    clear HG HQ0
    simp only [Bool.not_false]
    go_wp2_with (refine wpList_store_row rfl _ (.tmp 2) (.tmp 11) rfl (w.heap.size + 1) _ rfl rfl _ _ q2' (by kernel_rfl) rfl (by simp [Value.oneCell']) ?_)
    refine bodyPost_ret (v := .tuple #[.agg #[.int .i64 0, .string ⟨#[]⟩, .int .i64 0, .slice none 0 0, .int .i64 0, .int .i64 0, .int .i64 0], .int .i64 12]) ?_ rfl ?_
    · exact results_cell_tmp rfl _ _ (w.heap.size + 1) _ _ (0, 0) _ rfl (setRow_heap _ _ _ _ _ _ q2') Try.underlying37 rfl (by kernel_rfl) _ rfl
    · unfold Get6P
      rw [HG'.out]
      exact ⟨_, rfl, SV.nil _, below_setRow B3.out (Nat.le_succ _) _⟩
end Go.Proofs.Ytelamhdnefnceaa
