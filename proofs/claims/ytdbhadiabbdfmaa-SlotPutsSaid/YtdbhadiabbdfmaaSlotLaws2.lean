/- Layer 6: the three laws. -/
import Derived.Test.YtdbhadiabbdfmaaSlotLaws
namespace Go.Proofs.Ytdbhadiabbdfmaa
open Go.RowKit Go.Sort

theorem puts6_law (D : Value) (x : It) (w : World) (hD : SV w D (bys x.c.d)) (hd : x.c.d.length ≤ 9223372036854775807) (hk : x.k.length ≤ 9223372036854775807) (h64 : in64c x.c) :
    Calls Try.prog 3 #[iv D x] w fun e w' => e = .returned (.bool true) ∧ Below w.heap.size w w' := by
  obtain ⟨A, m, rfl⟩ := sv_open6 hD
  by_cases hb : 300 < x.k.length ∨ (x.k.length ≤ 300 ∧ 300 < x.c.d.length)
  · have BY := Lib.hid (fun w' => big6_yes A x.c.d.length m x w' hb)
    clear hD hb h64 hd hk
    obtain ⟨st, k, kd, d, lo, hi, v⟩ := x
    unfold iv at BY ⊢
    simp only at *
    go_enter Try.func3, Try.ntmps3
    go_wp2_with (first
      | (refine wpList_load_row rfl _ _ rfl (w.heap.size) rfl _ _ _ _ (Whole.made w _ _) Try.underlying26 rfl (by kernel_rfl) ?_)
      | (go_at_call 6; refine (BY.out _).mono ?_; rintro e w1 ⟨rfl, b1⟩)
      | (go_at_call 7; refine (live6_any _).mono ?_; rintro e w2 ⟨rfl, b2⟩))
    go_ret
    exact ⟨rfl, (((Below.refl w.heap.size w).alloc (Nat.le_refl _) _).trans (b1.mono (by simp))).trans (b2.mono (by have := b1.size; simp at this; omega))⟩
  · exact puts6_main A _ m x w hD (by omega) (by omega) h64

set_option maxRecDepth 100000 in
set_option maxHeartbeats 2000000 in
theorem gets6_law (l : List UInt8) (w : World) (hl : l.length = 64) :
    Calls Try.prog 4 #[.agg (ab l)] w fun e w' => e = .returned (.bool true) ∧ Below w.heap.size w w' := by
  have GT := fun w' => get6_any l w' hl
  have RG := fun w' v (h : SV w' v (bys l)) => rget6_any v l w' hl h
  unfold Get6P at GT
  unfold RGet6P at RG
  rw [← get_ref] at RG
  have hf := getI_err l
  have hsb := getI_sb (l := l)
  have hle := getI_len l
  generalize getI l = G at *
  obtain ⟨x, f⟩ := G
  simp only at *
  have SM := fun w' D E (h1 : SV w' D (bys x.c.d)) (h2 : SV w' E (bys x.c.d)) => risame_any D E x x w' h1 h2
  simp only [sameI_self] at SM
  have PT := fun w' D n m (h1 : SV w' (.slice D n m) (bys x.c.d)) hn => iput_any D n m x w' h1 hn (by omega)
  have EQ := Lib.hid (fun w' => run_eql_ab (P := Try.prog) Try.underlying29 Try.underlying5 (by kernel_rfl) l l hl hl w')
  have EG := Lib.hid (fun (s u : Operand) w' => run_eqGuard_agg (P := Try.prog) w' .eql 29 s u (ab l) (ab l) Try.eqGuard29)
  have EQ' := EQ.out
  rw [beq_self_eq_true] at EQ'
  replace EQ := Lib.hid EQ'
  clear EQ'
  rcases hf with rfl | rfl
  all_goals
    try (rw [hsb rfl] at PT)
    clear hsb
    obtain ⟨st, k, kd, d, lo, hi, v⟩ := x
    simp only at hle
    unfold iv at GT RG SM PT
    simp only at GT RG SM PT
    replace GT := Lib.hid GT
    replace RG := Lib.hid RG
    replace SM := Lib.hid SM
    replace PT := Lib.hid PT
    go_enter Try.func4, Try.ntmps4
    go_wp2_with (refine wpList_load_ab rfl _ (.tmp 1) rfl (w.heap.size) rfl _ _ _ (l) (hl) (Whole.made w _ _) Try.underlying29 (by kernel_rfl) ?_)
    refine (GT.out _).mono ?_
    rintro e w1 ⟨D, rfl, s1, b1⟩
    obtain ⟨D1, c1, rfl⟩ := sv_open6 s1
    have p1 := (Whole.made w _ _).on b1
    have B1 := Lib.hid (((Below.refl w.heap.size w).alloc (Nat.le_refl _) _).trans (b1.mono (by simp)))
    have S1 := Lib.hid s1
    clear b1 s1
    go_wp2_with (refine wpList_store_row rfl _ (.tmp 3) (.tmp 10) rfl w1.heap.size _ rfl rfl _ _ (Whole.made w1 _ _) (by kernel_rfl) rfl (by simp [Value.oneCell']) ?_; rw [World.setRow_alloc_new]; try simp only [Act.put])
    have r2 := Whole.made w1 26 #[.int .i64 st, .string ⟨k.toArray⟩, .int .i64 kd, .slice D1 d.length c1, .int .i64 lo, .int .i64 hi, .int .i64 v]
    have p2 := p1.later (.cells #[.int .i64 st, .string ⟨k.toArray⟩, .int .i64 kd, .slice D1 d.length c1, .int .i64 lo, .int .i64 hi, .int .i64 v] 26)
    have S2 := Lib.hid (S1.out.keep (Keeps.alloc w1 (.cells #[.int .i64 st, .string ⟨k.toArray⟩, .int .i64 kd, .slice D1 d.length c1, .int .i64 lo, .int .i64 hi, .int .i64 v] 26)))
    have B2 := Lib.hid (B1.out.alloc B1.out.size (.cells #[.int .i64 st, .string ⟨k.toArray⟩, .int .i64 kd, .slice D1 d.length c1, .int .i64 lo, .int .i64 hi, .int .i64 v] 26))
    clear p1 S1 B1
    generalize w1.alloc (.cells #[.int .i64 st, .string ⟨k.toArray⟩, .int .i64 kd, .slice D1 d.length c1, .int .i64 lo, .int .i64 hi, .int .i64 v] 26) = w2 at *
    generalize w1.heap.size = g1 at *
    go_wp2_with fail
    refine (RG.out _ _ (sv_ab p2 64 hl (by omega))).mono ?_
    rintro e w3 ⟨E, rfl, s3, b3⟩
    obtain ⟨E1, c2, rfl⟩ := sv_open6 s3
    have p3 := p2.on b3
    have r3 := r2.on b3
    have S3 := Lib.hid (S2.out.keep (Keeps.below b3))
    have T3 := Lib.hid s3
    have B3 := Lib.hid (B2.out.trans (b3.mono B2.out.size))
    clear b3 s3 p2 r2 S2 B2
    go_wp2_with (refine wpList_store_row rfl _ (.tmp 5) (.tmp 15) rfl w3.heap.size _ rfl rfl _ _ (Whole.made w3 _ _) (by kernel_rfl) rfl (by simp [Value.oneCell']) ?_; rw [World.setRow_alloc_new]; try simp only [Act.put])
    have t4 := Whole.made w3 26 #[.int .i64 st, .string ⟨k.toArray⟩, .int .i64 kd, .slice E1 d.length c2, .int .i64 lo, .int .i64 hi, .int .i64 v]
    have p4 := p3.later (.cells #[.int .i64 st, .string ⟨k.toArray⟩, .int .i64 kd, .slice E1 d.length c2, .int .i64 lo, .int .i64 hi, .int .i64 v] 26)
    have r4 := r3.later (.cells #[.int .i64 st, .string ⟨k.toArray⟩, .int .i64 kd, .slice E1 d.length c2, .int .i64 lo, .int .i64 hi, .int .i64 v] 26)
    have S4 := Lib.hid (S3.out.keep (Keeps.alloc w3 (.cells #[.int .i64 st, .string ⟨k.toArray⟩, .int .i64 kd, .slice E1 d.length c2, .int .i64 lo, .int .i64 hi, .int .i64 v] 26)))
    have T4 := Lib.hid (T3.out.keep (Keeps.alloc w3 (.cells #[.int .i64 st, .string ⟨k.toArray⟩, .int .i64 kd, .slice E1 d.length c2, .int .i64 lo, .int .i64 hi, .int .i64 v] 26)))
    have B4 := Lib.hid (B3.out.alloc B3.out.size (.cells #[.int .i64 st, .string ⟨k.toArray⟩, .int .i64 kd, .slice E1 d.length c2, .int .i64 lo, .int .i64 hi, .int .i64 v] 26))
    clear p3 r3 S3 T3 B3
    generalize w3.alloc (.cells #[.int .i64 st, .string ⟨k.toArray⟩, .int .i64 kd, .slice E1 d.length c2, .int .i64 lo, .int .i64 hi, .int .i64 v] 26) = w4 at *
    generalize w3.heap.size = g2 at *
    refine wp_region_facts 23 [] [] (by kernel_rfl) (by kernel_rfl) (by kernel_rfl) (free_draw w4) ?_
    simp only [List.take_succ_cons, List.take_zero, List.drop_succ_cons, List.drop_zero, List.zipIdx_cons, List.zipIdx_nil, Nat.zero_add, Nat.reduceAdd]
    repeat (first
      | (refine f_skip (fun V => by rfl) ?_; simp only [Act.put, List.setIfInBounds_toArray, List.set_cons_succ, List.set_cons_zero])
        | (refine f_load_row (by first | exact cls_free _ | exact cls_row _ _ _ _ | exact cls_fill _ _ _ _ _) (fun V => by rfl) _ _ rfl _ (fun V => by rfl) _ _ _ (fun w hb => r4.on hb) Try.underlying26 rfl (by kernel_rfl) ?_; simp only [Act.put, List.setIfInBounds_toArray, List.set_cons_succ, List.set_cons_zero])
          | (refine f_load_row (by first | exact cls_free _ | exact cls_row _ _ _ _ | exact cls_fill _ _ _ _ _) (fun V => by rfl) _ _ rfl _ (fun V => by rfl) _ _ _ (fun w hb => t4.on hb) Try.underlying26 rfl (by kernel_rfl) ?_; simp only [Act.put, List.setIfInBounds_toArray, List.set_cons_succ, List.set_cons_zero])
          | (refine f_load_ab (by first | exact cls_free _ | exact cls_row _ _ _ _ | exact cls_fill _ _ _ _ _) (fun V => by rfl) _ _ rfl _ (fun V => by rfl) _ _ _ (l) (hl) (fun w hb => p4.on hb) Try.underlying29 (by kernel_rfl) ?_; simp only [Act.put, List.setIfInBounds_toArray, List.set_cons_succ, List.set_cons_zero])
          | (refine f_call (by first | exact cls_free _ | exact cls_row _ _ _ _ | exact cls_fill _ _ _ _ _) (fun V => by rfl) 15 _ _ rfl (enters_of Try.func15 rfl rfl) _ _ (fun V w hb hk => SM.out w _ _ (S4.out.keep (Keeps.below hb)) (T4.out.keep (Keeps.below hb))) (fun V => by rfl) ?_; simp only [Act.put, List.setIfInBounds_toArray, List.set_cons_succ, List.set_cons_zero])
          | (refine f_call (by first | exact cls_free _ | exact cls_row _ _ _ _ | exact cls_fill _ _ _ _ _) (fun V => by rfl) 8 _ _ rfl (enters_of Try.func8 rfl rfl) _ _ (fun V w hb hk => PT.out w _ _ _ (S4.out.keep (Keeps.below hb)) (by omega)) (fun V => by rfl) ?_; simp only [Act.put, List.setIfInBounds_toArray, List.set_cons_succ, List.set_cons_zero])
          | (refine f_call (by first | exact cls_free _ | exact cls_row _ _ _ _ | exact cls_fill _ _ _ _ _) (fun V => by rfl) 9 _ _ rfl (enters_of Try.func9 rfl rfl) _ _ (fun V w hb hk => code6_b _ w) (fun V => by rfl) ?_; simp only [Act.put, List.setIfInBounds_toArray, List.set_cons_succ, List.set_cons_zero])
          | (refine f_binop (by first | exact cls_free _ | exact cls_row _ _ _ _ | exact cls_fill _ _ _ _ _) (fun V => by rfl) _ _ _ _ _ rfl _ _ _ (EQ.out) (EG.out _ _) (fun V => by rfl) (fun V => by rfl) ?_; simp only [Act.put, List.setIfInBounds_toArray, List.set_cons_succ, List.set_cons_zero])
          | (refine f_call (by first | exact cls_free _ | exact cls_row _ _ _ _ | exact cls_fill _ _ _ _ _) (fun V => by rfl) 7 _ _ rfl (enters_of Try.func7 rfl rfl) _ _ (fun V w hb hk => live6_any w) (fun V => by rfl) ?_; simp only [Act.put, List.setIfInBounds_toArray, List.set_cons_succ, List.set_cons_zero])
      | (refine f_quiet (by first | exact cls_free _ | exact cls_row _ _ _ _ | exact cls_fill _ _ _ _ _) (fun V => by rfl) (fun V => ⟨_, rfl, by simp⟩) ?_; apply Exists.intro; refine And.intro (fun V w hw K hK => ?_) ?_; ((try simp only [Act.put, List.setIfInBounds_toArray, List.set_cons_succ, List.set_cons_zero] at hK); go_big_quiet_op; exact hK); simp only [Act.put, List.setIfInBounds_toArray, List.set_cons_succ, List.set_cons_zero]))
    refine f_nil ?_
    intro V w5 hq hkn
    have B5 := Lib.hid (B4.out.trans (Below.mono hq B4.out.size))
    clear hkn
    go_wp2
    go_ret
    exact ⟨rfl, B5.out⟩

set_option maxRecDepth 100000 in
set_option maxHeartbeats 2000000 in
theorem sames6_main (A B : Option Addr) (n m p q : Nat) (x y : It) (w : World) (hA : SV w (.slice A n m) (bys x.c.d)) (hB : SV w (.slice B p q) (bys y.c.d)) (hn : n ≤ 300) (hp : p ≤ 300) (hx : x.k.length ≤ 300) (hy : y.k.length ≤ 300) (i1 : in64c x.c) (i2 : in64c y.c) :
    Calls Try.prog 5 #[iv (.slice A n m) x, iv (.slice B p q) y] w fun e w' => e = .returned (.bool true) ∧ Below w.heap.size w w' := by
  have BX := fun w' => big6_no A n m x w' hx hn
  have BY := fun w' => big6_no B p q y w' hy hp
  have S1 := fun w' (hb : Below w.heap.size w w') => isame_any (.slice A n m) (.slice B p q) x y w' (hA.keep (Keeps.below hb)) (hB.keep (Keeps.below hb))
  have S2 := fun w' (hb : Below w.heap.size w w') => risame_any (.slice A n m) (.slice B p q) x y w' (hA.keep (Keeps.below hb)) (hB.keep (Keeps.below hb))
  have RX := fun w' (hb : Below w.heap.size w w') => riright_any A n m x w' (hA.keep (Keeps.below hb)) (by omega) (by omega)
  have RY := fun w' (hb : Below w.heap.size w w') => riright_any B p q y w' (hB.keep (Keeps.below hb)) (by omega) (by omega)
  have PX := fun w' (hb : Below w.heap.size w w') => iput_any A n m x w' (hA.keep (Keeps.below hb)) (by omega) (by omega)
  have PY := fun w' (hb : Below w.heap.size w w') => iput_any B p q y w' (hB.keep (Keeps.below hb)) (by omega) (by omega)
  have EQ := (fun w' => run_eql_ab (P := Try.prog) Try.underlying29 Try.underlying5 (by kernel_rfl) (sbytes x) (sbytes y) (sbytes_len x) (sbytes_len y) w')
  have EG := Lib.hid (fun (s u : Operand) w' => run_eqGuard_agg (P := Try.prog) w' .eql 29 s u (ab (sbytes x)) (ab (sbytes y)) Try.eqGuard29)
  have hgp := fun h1 h2 => good_put (x := x) (y := y) h1 h2 i1 i2
  generalize sbytes x = sx at *
  generalize sbytes y = sy at *
  generalize (sx == sy) = sb at *
  generalize sameI x y = s at *
  generalize goodI x = gx at *
  generalize goodI y = gy at *
  have hc : gx = false ∨ (gx = true ∧ gy = false) ∨ (gx = true ∧ gy = true ∧ s = sb) := by
    cases gx
    · exact .inl rfl
    · cases gy
      · exact .inr (.inl ⟨rfl, rfl⟩)
      · exact .inr (.inr ⟨rfl, rfl, hgp rfl rfl⟩)
  obtain ⟨st, k, kd, d, lo, hi, v⟩ := x
  obtain ⟨st2, k2, kd2, d2, lo2, hi2, v2⟩ := y
  unfold iv at BX BY S1 S2 RX RY PX PY ⊢
  simp only at *
  replace BX := Lib.hid BX
  replace BY := Lib.hid BY
  clear hgp hA hB i1 i2
  rcases hc with rfl | ⟨rfl, rfl⟩ | ⟨rfl, rfl, rfl⟩
  all_goals
    replace S1 := Lib.hid S1
    replace S2 := Lib.hid S2
    replace RX := Lib.hid RX
    replace RY := Lib.hid RY
    replace PX := Lib.hid PX
    replace PY := Lib.hid PY
    replace EQ := Lib.hid EQ
    go_enter Try.func5, Try.ntmps5
    go_wp2_with (refine wpList_load_rowg rfl _ _ rfl (w.heap.size) rfl _ _ _ _ ((Whole.made w _ _).later _) Try.underlying26 rfl (by kernel_rfl) ?_)
    refine (BX.out _).mono ?_
    rintro e w1 ⟨rfl, b1⟩
    have p1 := ((Whole.made w _ _).later _).on b1
    have q1 := (Whole.second w _ _ _).on b1
    have B1 := Lib.hid ((two_more (Below.refl w.heap.size w) _ _).trans (b1.mono (by simp; omega)))
    clear b1
    go_wp2_with (refine wpList_load_rowg rfl _ _ rfl (w.heap.size + 1) rfl _ _ _ _ (q1) Try.underlying26 rfl (by kernel_rfl) ?_)
    refine (BY.out _).mono ?_
    rintro e w2 ⟨rfl, b2⟩
    have p2 := p1.on b2
    have q2 := q1.on b2
    have B2 := Lib.hid (B1.out.trans (b2.mono B1.out.size))
    clear b2 p1 q1 B1
    go_wp2_with (first | (refine wpList_load_row rfl 26 (.tmp 2) rfl (w.heap.size) rfl 26 _ _ _ (p2) Try.underlying26 rfl (by kernel_rfl) ?_) | (refine wpList_load_row rfl 26 (.tmp 3) rfl (w.heap.size + 1) rfl 26 _ _ _ (q2) Try.underlying26 rfl (by kernel_rfl) ?_))
    refine (S1.out _ B2.out).mono ?_
    rintro e w3 ⟨rfl, b3⟩
    have p3 := p2.on b3
    have q3 := q2.on b3
    have B3 := Lib.hid (B2.out.trans (b3.mono B2.out.size))
    clear b3 p2 q2 B2
    go_wp2_with (refine wpList_load_row rfl 26 (.tmp 2) rfl (w.heap.size) rfl 26 _ _ _ (p3) Try.underlying26 rfl (by kernel_rfl) ?_)
    refine (RX.out _ B3.out).mono ?_
    rintro e w4 ⟨rfl, b4⟩
    have p4 := p3.on b4
    have q4 := q3.on b4
    have B4 := Lib.hid (B3.out.trans (b4.mono B3.out.size))
    clear b4 p3 q3 B3
  · go_wp2_with (first | (refine wpList_load_row rfl 26 (.tmp 2) rfl (w.heap.size) rfl 26 _ _ _ (p4) Try.underlying26 rfl (by kernel_rfl) ?_) | (refine wpList_load_row rfl 26 (.tmp 3) rfl (w.heap.size + 1) rfl 26 _ _ _ (q4) Try.underlying26 rfl (by kernel_rfl) ?_))
    refine (S2.out _ B4.out).mono ?_
    rintro e w6 ⟨rfl, b6⟩
    have B6 := Lib.hid (B4.out.trans (b6.mono B4.out.size))
    clear b6
    cases s
    all_goals
      go_wp2_with fail
      refine (live6_any _).mono ?_
      rintro e w7 ⟨rfl, b7⟩
      have B7 := Lib.hid (B6.out.trans (b7.mono B6.out.size))
      clear b7
      go_wp2
      go_ret
      exact ⟨rfl, B7.out⟩
  · go_wp2_with (refine wpList_load_rowg rfl _ _ rfl (w.heap.size + 1) rfl _ _ _ _ (q4) Try.underlying26 rfl (by kernel_rfl) ?_)
    refine (RY.out _ B4.out).mono ?_
    rintro e w5 ⟨rfl, b5⟩
    have p5 := p4.on b5
    have q5 := q4.on b5
    have B5 := Lib.hid (B4.out.trans (b5.mono B4.out.size))
    clear b5 p4 q4 B4
    go_wp2_with (first | (refine wpList_load_row rfl 26 (.tmp 2) rfl (w.heap.size) rfl 26 _ _ _ (p5) Try.underlying26 rfl (by kernel_rfl) ?_) | (refine wpList_load_row rfl 26 (.tmp 3) rfl (w.heap.size + 1) rfl 26 _ _ _ (q5) Try.underlying26 rfl (by kernel_rfl) ?_))
    refine (S2.out _ B5.out).mono ?_
    rintro e w6 ⟨rfl, b6⟩
    have B6 := Lib.hid (B5.out.trans (b6.mono B5.out.size))
    clear b6
    cases s
    all_goals
      go_wp2_with fail
      refine (live6_any _).mono ?_
      rintro e w7 ⟨rfl, b7⟩
      have B7 := Lib.hid (B6.out.trans (b7.mono B6.out.size))
      clear b7
      go_wp2
      go_ret
      exact ⟨rfl, B7.out⟩
  · go_wp2_with (refine wpList_load_rowg rfl _ _ rfl (w.heap.size + 1) rfl _ _ _ _ (q4) Try.underlying26 rfl (by kernel_rfl) ?_)
    refine (RY.out _ B4.out).mono ?_
    rintro e w5 ⟨rfl, b5⟩
    have p5 := p4.on b5
    have q5 := q4.on b5
    have B5 := Lib.hid (B4.out.trans (b5.mono B4.out.size))
    clear b5 p4 q4 B4
    go_wp2_with fail
    refine wp_region_facts 18 [] [] (by kernel_rfl) (by kernel_rfl) (by kernel_rfl) (free_draw w5) ?_
    simp only [List.take_succ_cons, List.take_zero, List.drop_succ_cons, List.drop_zero, List.zipIdx_cons, List.zipIdx_nil, Nat.zero_add, Nat.reduceAdd]
    repeat (first
      | (refine f_skip (fun V => by rfl) ?_; simp only [Act.put, List.setIfInBounds_toArray, List.set_cons_succ, List.set_cons_zero])
        | (refine f_load_row (by first | exact cls_free _ | exact cls_row _ _ _ _ | exact cls_fill _ _ _ _ _) (fun V => by rfl) _ _ rfl _ (fun V => by rfl) _ _ _ (fun w hb => p5.on hb) Try.underlying26 rfl (by kernel_rfl) ?_; simp only [Act.put, List.setIfInBounds_toArray, List.set_cons_succ, List.set_cons_zero])
          | (refine f_load_row (by first | exact cls_free _ | exact cls_row _ _ _ _ | exact cls_fill _ _ _ _ _) (fun V => by rfl) _ _ rfl _ (fun V => by rfl) _ _ _ (fun w hb => q5.on hb) Try.underlying26 rfl (by kernel_rfl) ?_; simp only [Act.put, List.setIfInBounds_toArray, List.set_cons_succ, List.set_cons_zero])
          | (refine f_call (by first | exact cls_free _ | exact cls_row _ _ _ _ | exact cls_fill _ _ _ _ _) (fun V => by rfl) 15 _ _ rfl (enters_of Try.func15 rfl rfl) _ _ (fun V w hb hk => S2.out w (B5.out.trans (Below.mono hb B5.out.size))) (fun V => by rfl) ?_; simp only [Act.put, List.setIfInBounds_toArray, List.set_cons_succ, List.set_cons_zero])
          | (refine f_call (by first | exact cls_free _ | exact cls_row _ _ _ _ | exact cls_fill _ _ _ _ _) (fun V => by rfl) 8 _ _ rfl (enters_of Try.func8 rfl rfl) _ _ (fun V w hb hk => PX.out w (B5.out.trans (Below.mono hb B5.out.size))) (fun V => by rfl) ?_; simp only [Act.put, List.setIfInBounds_toArray, List.set_cons_succ, List.set_cons_zero])
          | (refine f_call (by first | exact cls_free _ | exact cls_row _ _ _ _ | exact cls_fill _ _ _ _ _) (fun V => by rfl) 8 _ _ rfl (enters_of Try.func8 rfl rfl) _ _ (fun V w hb hk => PY.out w (B5.out.trans (Below.mono hb B5.out.size))) (fun V => by rfl) ?_; simp only [Act.put, List.setIfInBounds_toArray, List.set_cons_succ, List.set_cons_zero])
          | (refine f_binop (by first | exact cls_free _ | exact cls_row _ _ _ _ | exact cls_fill _ _ _ _ _) (fun V => by rfl) _ _ _ _ _ rfl _ _ _ (EQ.out) (EG.out _ _) (fun V => by rfl) (fun V => by rfl) ?_; simp only [Act.put, List.setIfInBounds_toArray, List.set_cons_succ, List.set_cons_zero])
          | (refine f_call (by first | exact cls_free _ | exact cls_row _ _ _ _ | exact cls_fill _ _ _ _ _) (fun V => by rfl) 7 _ _ rfl (enters_of Try.func7 rfl rfl) _ _ (fun V w hb hk => live6_any w) (fun V => by rfl) ?_; simp only [Act.put, List.setIfInBounds_toArray, List.set_cons_succ, List.set_cons_zero])
      | (refine f_quiet (by first | exact cls_free _ | exact cls_row _ _ _ _ | exact cls_fill _ _ _ _ _) (fun V => by rfl) (fun V => ⟨_, rfl, by simp⟩) ?_; apply Exists.intro; refine And.intro (fun V w hw K hK => ?_) ?_; ((try simp only [Act.put, List.setIfInBounds_toArray, List.set_cons_succ, List.set_cons_zero] at hK); go_big_quiet_op; exact hK); simp only [Act.put, List.setIfInBounds_toArray, List.set_cons_succ, List.set_cons_zero]))
    refine f_nil ?_
    intro V w6 hq hkn
    have B6 := Lib.hid (B5.out.trans (Below.mono hq B5.out.size))
    clear hkn
    go_wp2
    go_ret
    exact ⟨rfl, B6.out⟩

theorem sames6_law (D E : Value) (x y : It) (w : World) (hD : SV w D (bys x.c.d)) (hd : x.c.d.length ≤ 9223372036854775807) (hk : x.k.length ≤ 9223372036854775807) (h64 : in64c x.c) (hE : SV w E (bys y.c.d)) (hd' : y.c.d.length ≤ 9223372036854775807) (hk' : y.k.length ≤ 9223372036854775807) (h64' : in64c y.c) :
    Calls Try.prog 5 #[iv D x, iv E y] w fun e w' => e = .returned (.bool true) ∧ Below w.heap.size w w' := by
  obtain ⟨A, m, rfl⟩ := sv_open6 hD
  obtain ⟨B, q, rfl⟩ := sv_open6 hE
  by_cases hb : 300 < x.k.length ∨ (x.k.length ≤ 300 ∧ 300 < x.c.d.length)
  · have BX := Lib.hid (fun w' => big6_yes A x.c.d.length m x w' hb)
    clear hD hE hb h64 h64' hd hk hd' hk'
    obtain ⟨st, k, kd, d, lo, hi, v⟩ := x
    obtain ⟨st2, k2, kd2, d2, lo2, hi2, v2⟩ := y
    unfold iv at BX ⊢
    simp only at *
    go_enter Try.func5, Try.ntmps5
    go_wp2_with (refine wpList_load_rowg rfl _ _ rfl (w.heap.size) rfl _ _ _ _ ((Whole.made w _ _).later _) Try.underlying26 rfl (by kernel_rfl) ?_)
    refine (BX.out _).mono ?_
    rintro e w1 ⟨rfl, b1⟩
    go_wp2_with fail
    refine (live6_any _).mono ?_
    rintro e w2 ⟨rfl, b2⟩
    go_wp2
    go_ret
    exact ⟨rfl, ((two_more (Below.refl w.heap.size w) _ _).trans (b1.mono (by simp; omega))).trans (b2.mono (by have := b1.size; simp at this; omega))⟩
  · by_cases hb' : 300 < y.k.length ∨ (y.k.length ≤ 300 ∧ 300 < y.c.d.length)
    · have BX := Lib.hid (fun w' => big6_no A x.c.d.length m x w' (by omega) (by omega))
      have BY := Lib.hid (fun w' => big6_yes B y.c.d.length q y w' hb')
      clear hD hE hb hb' h64 h64' hd hk hd' hk'
      obtain ⟨st, k, kd, d, lo, hi, v⟩ := x
      obtain ⟨st2, k2, kd2, d2, lo2, hi2, v2⟩ := y
      unfold iv at BX BY ⊢
      simp only at *
      go_enter Try.func5, Try.ntmps5
      go_wp2_with (refine wpList_load_rowg rfl _ _ rfl (w.heap.size) rfl _ _ _ _ ((Whole.made w _ _).later _) Try.underlying26 rfl (by kernel_rfl) ?_)
      refine (BX.out _).mono ?_
      rintro e w1 ⟨rfl, b1⟩
      have q1 := (Whole.second w _ _ _).on b1
      have B1 := Lib.hid ((two_more (Below.refl w.heap.size w) _ _).trans (b1.mono (by simp; omega)))
      clear b1
      go_wp2_with (refine wpList_load_rowg rfl _ _ rfl (w.heap.size + 1) rfl _ _ _ _ (q1) Try.underlying26 rfl (by kernel_rfl) ?_)
      refine (BY.out _).mono ?_
      rintro e w2 ⟨rfl, b2⟩
      have B2 := Lib.hid (B1.out.trans (b2.mono B1.out.size))
      clear b2
      go_wp2_with fail
      refine (live6_any _).mono ?_
      rintro e w3 ⟨rfl, b3⟩
      have B3 := Lib.hid (B2.out.trans (b3.mono B2.out.size))
      clear b3
      go_wp2
      go_ret
      exact ⟨rfl, B3.out⟩
    · exact sames6_main A B _ m _ q x y w hD hE (by omega) (by omega) (by omega) (by omega) h64 h64'
end Go.Proofs.Ytdbhadiabbdfmaa
