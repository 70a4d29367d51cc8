/- Layer 6: the contract of the reference's Get of an item, the main way. -/
import Derived.Test.YtelamhdnefnceaaSlotRefGet
namespace Go.Proofs.Ytelamhdnefnceaa
set_option maxRecDepth 20000
open Go.RowKit Go.Sort

theorem Try.zinfo37 : (Try.prog.info? 37).map (fun i => (i.zero, i.size)) = some (some (.agg #[.int .i64 0, .string ⟨#[]⟩, .int .i64 0, .slice none 0 0, .int .i64 0, .int .i64 0, .int .i64 0]), 7) := by kernel_rfl

theorem refC_len (l : List UInt8) : (refC l).1.d.length ≤ l.length := by
  unfold refC
  split
  · split <;> simp [zeroC]
  · split
    · simp [zeroC]
    · split
      · simp [zeroC]
      · split
        · simp [zeroC]
        · simp; omega

set_option maxHeartbeats 1000000 in
theorem rget6_main (B : Option Addr) (p : Nat) (l : List UInt8) (w : World) (hl : l.length = 64) (hv : SV w (.slice B 64 p) (bys l)) (hk : numOf (l.take 1) ≠ 0) (hn : ¬ 16 < numOf ((l.drop 1).take 1)) :
    Calls Try.prog 41 #[.slice B 64 p] w (RGet6P l w) := by
  have A0 := (fun w' h => at_yes (.slice B 64 p) l 0 1 w' (by omega) h (by omega) (by omega) (by omega))
  rw [List.drop_zero, wrap_num1] at A0
  have A1 := (fun w' h => at_yes (.slice B 64 p) l 1 1 w' (by omega) h (by omega) (by omega) (by omega))
  rw [wrap_num1] at A1
  have hG : refI l = if (refC (l.drop (2 + numOf ((l.drop 1).take 1)))).2.2 = 0 ∧ goodI (refX l) = true ∧ sbytes (refX l) = l then (refX l, 0) else (zeroI, 12) := by
    unfold refI; rw [if_neg hk, if_neg hn]
  have hX : refX l = ⟨numOf (l.take 1), (l.drop 2).take (numOf ((l.drop 1).take 1)), (refC (l.drop (2 + numOf ((l.drop 1).take 1)))).1⟩ := rfl
  have hst := num1_lt l
  generalize numOf ((l.drop 1).take 1) = n at *
  generalize numOf (l.take 1) = st at *
  have hb := hv.bd
  rw [bys_len] at hb
  -- the two cuts
  have m1 := fun w' => run_cut (P := Try.prog) (kd := .i64) (A := B) (n := 64) (c := p) (k := 2 + n) Try.underlying26 (e := 5) (by kernel_rfl) (by omega) w'
  have s1 := hv.cut (2 + n) (by omega)
  have m2 := fun w' => run_mid (P := Try.prog) (A := B) (n := 64) (c := p) (a := 2) (b := 2 + n) (k1 := .i64) (k2 := .i64) (i := 2) (j := 2 + (n : Int)) Try.underlying26 (e := 5) (by kernel_rfl) rfl (by omega) (by omega) (by omega) w'
  have s2 := hv.mid8 2 (2 + n) (by omega) (by omega)
  rw [Nat.add_sub_cancel_left] at s2
  simp only [Nat.add_sub_cancel_left] at m2
  rw [show ((2 + n : Nat) : Int) = 2 + (n : Int) from by omega] at m1
  generalize (if p = 2 + n then B else B.map (·.add (2 + n))) = D1 at m1 s1
  generalize (if p = 2 then B else B.map (·.add 2)) = D2 at m2 s2
  have hkl : ((l.drop 2).take n).length ≤ 1000000 := by simp; omega
  generalize (l.drop 2).take n = k at *
  have C1 := fun w' h => rget5_any (.slice D1 (64 - (2 + n)) (p - (2 + n))) (l.drop (2 + n)) w' (by simp; omega) (by simp; omega) h
  unfold RGet5P at C1
  have hcl := refC_len (l.drop (2 + n))
  have hcl2 : (l.drop (2 + n)).length ≤ 64 := by simp; omega
  generalize refC (l.drop (2 + n)) = G at *
  obtain ⟨⟨kd, d, lo, hi, v⟩, q, er⟩ := G
  generalize hx : refX l = x at *
  subst hX
  simp only at C1 hG hcl
  unfold cv at C1
  have hn0 : (0 : Int) ≤ n := by omega
  have hn1 : (n : Int) ≤ 16 := by omega
  obtain ⟨N1, hN1⟩ : ∃ N1, N1 = 64 - (2 + n) := ⟨_, rfl⟩
  obtain ⟨P1, hP1⟩ : ∃ P1, P1 = p - (2 + n) := ⟨_, rfl⟩
  obtain ⟨P2, hP2⟩ : ∃ P2, P2 = p - 2 := ⟨_, rfl⟩
  simp only [← hN1, ← hP1] at C1 m1
  rw [← hN1, ← hP1] at s1
  simp only [← hP2] at m2
  rw [← hP2] at s2
  have HV := Lib.hid hv
  have S1 := Lib.hid s1
  have S2 := Lib.hid s2
  replace A0 := Lib.hid A0
  replace A1 := Lib.hid A1
  replace C1 := Lib.hid C1
  have HG := Lib.hid hG
  have KA := fun (cs : Array Value) => Keeps.alloc w (.cells cs 37)
  have c1 : ((st : Int) == 0) = false := by simp; omega
  have c2 : ¬ (16 : Int) < n := by omega
  clear hv hk hl hn hb s1 s2 hG hN1 hP1 hP2 hx
  go_enter Try.func41, Try.ntmps41
  go_wp2_with fail
  refine (A0.out _ (HV.out.keep (KA _))).mono ?_
  rintro e w1 ⟨rfl, rfl⟩
  go_wp2_with fail
  refine (A1.out _ (HV.out.keep (KA _))).mono ?_
  rintro e w1 ⟨rfl, rfl⟩
  go_wp2_with fail
  refine (C1.out _ (S1.out.keep (KA _))).mono ?_
  rintro e w1 ⟨D, rfl, s1, b1⟩
  obtain ⟨D', c', rfl⟩ : ∃ D' c', D = .slice D' d.length c' := by obtain ⟨A, c, e, _⟩ := s1; exact ⟨A, c, by rw [bys_len] at e; exact e⟩
  have p1 := (Whole.made w _ _).on b1
  have B1 := Lib.hid (((Below.refl w.heap.size w).alloc (Nat.le_refl _) _).trans (b1.mono (by simp)))
  have SD := Lib.hid s1
  clear b1 s1 A0 A1 C1 KA
  go_wp2_with (refine wpList_store_row rfl _ (.tmp 8) (.tmp 39) rfl w1.heap.size _ rfl rfl _ _ (Whole.made w1 _ _) (by kernel_rfl) rfl (by simp [Value.oneCell']) ?_; rw [World.setRow_alloc_new])
  try simp only [Act.put]
  have q4 := Whole.made w1 35 #[.int .i64 kd, .slice D' d.length c', .int .i64 lo, .int .i64 hi, .int .i64 v]
  have q1 := p1.later (.cells #[.int .i64 kd, .slice D' d.length c', .int .i64 lo, .int .i64 hi, .int .i64 v] 35)
  have SD2 := Lib.hid (SD.out.keep (Keeps.alloc w1 (.cells #[.int .i64 kd, .slice D' d.length c', .int .i64 lo, .int .i64 hi, .int .i64 v] 35)))
  have B2 := Lib.hid (B1.out.alloc B1.out.size (.cells #[.int .i64 kd, .slice D' d.length c', .int .i64 lo, .int .i64 hi, .int .i64 v] 35))
  have ne := p1.lt
  have ne2 : w1.heap.size < (w1.alloc (.cells #[.int .i64 kd, .slice D' d.length c', .int .i64 lo, .int .i64 hi, .int .i64 v] 35)).heap.size := q4.lt
  clear p1 SD B1 m1 S1
  generalize w1.alloc (.cells #[.int .i64 kd, .slice D' d.length c', .int .i64 lo, .int .i64 hi, .int .i64 v] 35) = w2 at *
  generalize w1.heap.size = g4 at *
  have hz := (zero_of_info Try.zinfo37).1
  refine wp_region_facts 9 [] [11] (by kernel_rfl) (by kernel_rfl) (by kernel_rfl) (free_draw w2) ?_
  simp only [List.take_succ_cons, List.take_zero, List.drop_succ_cons, List.drop_zero, List.zipIdx_cons, List.zipIdx_nil, Nat.zero_add, Nat.reduceAdd]
  repeat (first
    | (refine f_skip (fun V => by rfl) ?_; simp only [Act.put, List.setIfInBounds_toArray, List.set_cons_succ, List.set_cons_zero])
      | (refine f_load_row (by first | exact cls_free _ | exact cls_row _ _ _ _ | exact cls_fill _ _ _ _ _) (fun V => by rfl) _ _ rfl _ (fun V => by rfl) _ _ _ (fun w hb => q4.on hb) Try.underlying35 rfl (by kernel_rfl) ?_; simp only [Act.put, List.setIfInBounds_toArray, List.set_cons_succ, List.set_cons_zero])
    | (refine f_str (by first | exact cls_free _ | exact cls_row _ _ _ _ | exact cls_fill _ _ _ _ _) (fun V => by rfl) _ 5 _ _ rfl Try.underlying26 Try.underlying5 Try.underlying9 (.slice D2 n P2) (k) (fun V => by rfl) (fun w hb => S2.out.keep (Keeps.below (B2.out.trans (Below.mono hb B2.out.size)))) ?_; simp only [Act.put, List.setIfInBounds_toArray, List.set_cons_succ, List.set_cons_zero])
    | (refine f_alloc (by first | exact cls_free _ | exact cls_row _ _ _ _ | exact cls_fill _ _ _ _ _) 37 rfl (fun V => by rfl) (by decide) w2.heap.size (fun w hb => Below.size hb) #[.int .i64 0, .string ⟨#[]⟩, .int .i64 0, .slice none 0 0, .int .i64 0, .int .i64 0, .int .i64 0] (hz) ?_; simp only [Act.put, List.setIfInBounds_toArray, List.set_cons_succ, List.set_cons_zero, keyOf, Option.getD_some])
    | (refine f_quiet (by first | exact cls_free _ | exact cls_row _ _ _ _ | exact cls_fill _ _ _ _ _) (fun V => by rfl) (fun V => ⟨_, rfl, by simp⟩) ?_; apply Exists.intro; refine And.intro (fun V w hw K hK => ?_) ?_; ((try simp only [Act.put, List.setIfInBounds_toArray, List.set_cons_succ, List.set_cons_zero] at hK); go_big_quiet_op; exact hK); simp only [Act.put, List.setIfInBounds_toArray, List.set_cons_succ, List.set_cons_zero]))
  refine f_nil ?_
  intro V w3 hq hkn
  obtain ⟨g, hg, hW, hgB⟩ := all_slot hkn 11 rfl
  clear hkn
  generalize V 8 = u at *
  subst hg
  have r1 := (q1.on hq).but (But.row g w3 #[.int .i64 st, .string ⟨k.toArray⟩, .int .i64 kd, .slice D' d.length c', .int .i64 lo, .int .i64 hi, .int .i64 v]) (by omega)
  have rg : Whole (w3.setRow g #[.int .i64 st, .string ⟨k.toArray⟩, .int .i64 kd, .slice D' d.length c', .int .i64 lo, .int .i64 hi, .int .i64 v]) g 37 #[.int .i64 st, .string ⟨k.toArray⟩, .int .i64 kd, .slice D' d.length c', .int .i64 lo, .int .i64 hi, .int .i64 v] := setRow_heap _ _ _ _ _ _ hW
  have SD4 := Lib.hid (sv_but (SD2.out.keep (Keeps.below hq)) hW (But.row g w3 #[.int .i64 st, .string ⟨k.toArray⟩, .int .i64 kd, .slice D' d.length c', .int .i64 lo, .int .i64 hi, .int .i64 v]) rfl)
  have B4 := Lib.hid (below_setRow (B2.out.trans (Below.mono hq B2.out.size)) (show w.heap.size ≤ g by omega) #[.int .i64 st, .string ⟨k.toArray⟩, .int .i64 kd, .slice D' d.length c', .int .i64 lo, .int .i64 hi, .int .i64 v])
  have RR := fun w' h => riright_any D' d.length c' ⟨st, k, ⟨kd, d, lo, hi, v⟩⟩ w' h (by omega) hkl
  have RB := fun w' h => ribytes_any D' d.length c' ⟨st, k, ⟨kd, d, lo, hi, v⟩⟩ w' h (by omega) hkl
  have hG := HG.out
  generalize goodI ⟨st, k, ⟨kd, d, lo, hi, v⟩⟩ = bg at *
  generalize sbytes ⟨st, k, ⟨kd, d, lo, hi, v⟩⟩ = sb at *
  have SM := fun w' u (hb : Below w.heap.size w w') h => same_any u (.slice B 64 p) sb l w' h (HV.out.keep (Keeps.below hb))
  generalize hq2 : (sb == l) = q2 at SM
  have HQ2 := Lib.hid hq2
  unfold iv at RR RB
  simp only at RR RB
  replace RR := Lib.hid RR
  replace RB := Lib.hid RB
  replace SM := Lib.hid SM
  replace HG := Lib.hid hG
  clear hq2 hG hz q1 q4 SD2 B2 ne2 hgB ne hq S2 m2 hcl hcl2 hst hkl HV
  by_cases he : er = 0
  · subst he
    cases bg with
    | false =>
      have HG' := Lib.hid (show refI l = (zeroI, 12) by rw [HG.out, if_neg]; rintro ⟨_, h, _⟩; cases h)
      clear HG RB SM HQ2
      go_wp2_with (first
        | (refine wpList_store_row rfl _ (.tmp 11) (.tmp 49) rfl g _ rfl rfl _ _ hW (by kernel_rfl) rfl (by simp [Value.oneCell']) ?_; generalize w3.setRow g #[.int .i64 st, .string ⟨k.toArray⟩, .int .i64 kd, .slice D' d.length c', .int .i64 lo, .int .i64 hi, .int .i64 v] = w4 at *)
        | (refine wpList_load_rowg rfl _ _ rfl (g) rfl _ _ _ _ (rg) Try.underlying37 rfl (by kernel_rfl) ?_)
        | (go_at_call 55; refine (RR.out _ SD4.out).mono ?_; rintro e w5 ⟨rfl, b5⟩; have r5 := r1.on b5; have B5 := Lib.hid (B4.out.trans (b5.mono B4.out.size)))
        | (refine wpList_store_row rfl _ (.tmp 2) (.tmp 64) rfl w.heap.size _ rfl rfl _ _ r5 (by kernel_rfl) rfl (by simp [Value.oneCell']) ?_))
      refine bodyPost_ret (v := .tuple #[.agg #[.int .i64 0, .string ⟨#[]⟩, .int .i64 0, .slice none 0 0, .int .i64 0, .int .i64 0, .int .i64 0], .int .i64 12]) ?_ rfl ?_
      · exact results_cell_tmp rfl _ _ (w.heap.size) _ _ (0, 0) _ rfl (setRow_heap _ _ _ _ _ _ r5) Try.underlying37 rfl (by kernel_rfl) _ rfl
      · unfold RGet6P
        rw [HG'.out]
        exact ⟨_, rfl, SV.nil _, below_setRow B5.out (Nat.le_refl _) _⟩
    | true =>
      have DO : True := trivial
      cases q2 with
      | false =>
        have HG' := Lib.hid (show refI l = (zeroI, 12) by rw [HG.out, if_neg]; rintro ⟨_, _, h⟩; exact beq_eq_false_iff_ne.1 HQ2.out h)
        clear HG HQ2
        go_wp2_with (first
          | (refine wpList_store_row rfl _ (.tmp 11) (.tmp 49) rfl g _ rfl rfl _ _ hW (by kernel_rfl) rfl (by simp [Value.oneCell']) ?_; generalize w3.setRow g #[.int .i64 st, .string ⟨k.toArray⟩, .int .i64 kd, .slice D' d.length c', .int .i64 lo, .int .i64 hi, .int .i64 v] = w4 at *)
          | (refine wpList_store_row rfl _ (.tmp 2) (.tmp 64) rfl w.heap.size _ rfl rfl _ _ r6 (by kernel_rfl) rfl (by simp [Value.oneCell']) ?_)
          | (go_at_call 19; refine (SM.out _ _ B6.out S6.out).mono ?_; rintro e w7 ⟨rfl, rfl⟩)
          | (go_at_call 44; refine (RB.out _ SD5.out).mono ?_; rintro e w6 ⟨v6, rfl, o6, b6⟩; have r6 := r5.on b6; have B6 := Lib.hid (B5.out.trans (b6.mono B5.out.size)); have S6 := Lib.hid o6.sv; clear o6 b6)
          | (refine wpList_load_rowg rfl _ _ rfl (g) rfl _ _ _ _ (rg5) Try.underlying37 rfl (by kernel_rfl) ?_)
          | (refine wpList_load_rowg rfl _ _ rfl (g) rfl _ _ _ _ (rg) Try.underlying37 rfl (by kernel_rfl) ?_)
          | (go_at_call 55; refine (RR.out _ SD4.out).mono ?_; rintro e w5 ⟨rfl, b5⟩; have r5 := r1.on b5; have rg5 := rg.on b5; have SD5 := Lib.hid (SD4.out.keep (Keeps.below b5)); have B5 := Lib.hid (B4.out.trans (b5.mono B4.out.size)); clear b5))
        refine bodyPost_ret (v := .tuple #[.agg #[.int .i64 0, .string ⟨#[]⟩, .int .i64 0, .slice none 0 0, .int .i64 0, .int .i64 0, .int .i64 0], .int .i64 12]) ?_ rfl ?_
        · exact results_cell_tmp rfl _ _ (w.heap.size) _ _ (0, 0) _ rfl (setRow_heap _ _ _ _ _ _ r6) Try.underlying37 rfl (by kernel_rfl) _ rfl
        · unfold RGet6P
          rw [HG'.out]
          exact ⟨_, rfl, SV.nil _, below_setRow B6.out (Nat.le_refl _) _⟩
      | true =>
        have HG' := Lib.hid (show refI l = (⟨st, k, ⟨kd, d, lo, hi, v⟩⟩, 0) by rw [HG.out, if_pos ⟨rfl, rfl, beq_iff_eq.1 HQ2.out⟩])
        clear HG HQ2
        go_wp2_with (first
          | (refine wpList_store_row rfl _ (.tmp 11) (.tmp 49) rfl g _ rfl rfl _ _ hW (by kernel_rfl) rfl (by simp [Value.oneCell']) ?_; generalize w3.setRow g #[.int .i64 st, .string ⟨k.toArray⟩, .int .i64 kd, .slice D' d.length c', .int .i64 lo, .int .i64 hi, .int .i64 v] = w4 at *)
          | (refine wpList_store_row rfl _ (.tmp 2) (.tmp 65) rfl w.heap.size _ rfl rfl _ _ r6 (by kernel_rfl) rfl (by simp [Value.oneCell']) ?_)
          | (go_at_call 19; refine (SM.out _ _ B6.out S6.out).mono ?_; rintro e w7 ⟨rfl, rfl⟩)
          | (go_at_call 44; refine (RB.out _ SD5.out).mono ?_; rintro e w6 ⟨v6, rfl, o6, b6⟩; have r6 := r5.on b6; have rg6 := rg5.on b6; have SD6 := Lib.hid (SD5.out.keep (Keeps.below b6)); have B6 := Lib.hid (B5.out.trans (b6.mono B5.out.size)); have S6 := Lib.hid o6.sv; clear o6 b6)
          | (refine wpList_load_rowg rfl _ _ rfl (g) rfl _ _ _ _ (rg6) Try.underlying37 rfl (by kernel_rfl) ?_)
          | (refine wpList_load_rowg rfl _ _ rfl (g) rfl _ _ _ _ (rg5) Try.underlying37 rfl (by kernel_rfl) ?_)
          | (refine wpList_load_rowg rfl _ _ rfl (g) rfl _ _ _ _ (rg) Try.underlying37 rfl (by kernel_rfl) ?_)
          | (go_at_call 55; refine (RR.out _ SD4.out).mono ?_; rintro e w5 ⟨rfl, b5⟩; have r5 := r1.on b5; have rg5 := rg.on b5; have SD5 := Lib.hid (SD4.out.keep (Keeps.below b5)); have B5 := Lib.hid (B4.out.trans (b5.mono B4.out.size)); clear b5))
        refine bodyPost_ret (v := .tuple #[.agg #[.int .i64 st, .string ⟨k.toArray⟩, .int .i64 kd, .slice D' d.length c', .int .i64 lo, .int .i64 hi, .int .i64 v], .int .i64 0]) ?_ rfl ?_
        · exact results_cell_tmp rfl _ _ (w.heap.size) _ _ (0, 0) _ rfl (setRow_heap _ _ _ _ _ _ r6) Try.underlying37 rfl (by kernel_rfl) _ rfl
        · unfold RGet6P
          rw [HG'.out]
          exact ⟨_, rfl, sv_but SD6.out r6 (But.row _ _ _) rfl, below_setRow B6.out (Nat.le_refl _) _⟩
  · have HG' := Lib.hid (show refI l = (zeroI, 12) by rw [HG.out, if_neg]; rintro ⟨h, _⟩; exact he h)
    have hne : (er != 0) = true := by simpa using he
    clear HG RB RR SM HQ2 he
    go_wp2_with (first
      | (refine wpList_store_row rfl _ (.tmp 11) (.tmp 49) rfl g _ rfl rfl _ _ hW (by kernel_rfl) rfl (by simp [Value.oneCell']) ?_; generalize w3.setRow g #[.int .i64 st, .string ⟨k.toArray⟩, .int .i64 kd, .slice D' d.length c', .int .i64 lo, .int .i64 hi, .int .i64 v] = w4 at *)
      | (refine wpList_store_row rfl _ (.tmp 2) (.tmp 64) rfl w.heap.size _ rfl rfl _ _ r1 (by kernel_rfl) rfl (by simp [Value.oneCell']) ?_))
    refine bodyPost_ret (v := .tuple #[.agg #[.int .i64 0, .string ⟨#[]⟩, .int .i64 0, .slice none 0 0, .int .i64 0, .int .i64 0, .int .i64 0], .int .i64 12]) ?_ rfl ?_
    · exact results_cell_tmp rfl _ _ (w.heap.size) _ _ (0, 0) _ rfl (setRow_heap _ _ _ _ _ _ r1) Try.underlying37 rfl (by kernel_rfl) _ rfl
    · unfold RGet6P
      rw [HG'.out]
      exact ⟨_, rfl, SV.nil _, below_setRow B4.out (Nat.le_refl _) _⟩

theorem rget6_any (v : Value) (l : List UInt8) (w : World) (hl : l.length = 64) (hv : SV w v (bys l)) : Calls Try.prog 41 #[v] w (RGet6P l w) := by
  obtain ⟨B, p, rfl⟩ : ∃ B p, v = .slice B 64 p := by obtain ⟨A, c, e, _⟩ := hv; exact ⟨A, c, by rw [bys_len, hl] at e; exact e⟩
  by_cases h1 : numOf (l.take 1) = 0
  · exact rget6_zero B p l w hl hv h1
  · by_cases h2 : 16 < numOf ((l.drop 1).take 1)
    · exact rget6_long B p l w hl hv h1 h2
    · exact rget6_main B p l w hl hv h1 h2
end Go.Proofs.Ytelamhdnefnceaa
