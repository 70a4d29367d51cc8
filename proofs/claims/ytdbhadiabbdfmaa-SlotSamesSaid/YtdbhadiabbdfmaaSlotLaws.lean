/- Layer 6: the page's example, and the three laws. -/
import Derived.Test.YtdbhadiabbdfmaaSlotGet
import Derived.Test.YtdbhadiabbdfmaaSlotRefItem
namespace Go.Proofs.Ytdbhadiabbdfmaa
open Go.RowKit Go.Sort

theorem code6_b (n : Int) (w : World) : Calls Try.prog 9 #[.int .i64 n] w fun e w' => e = .returned (.int .i64 n) ∧ Below w.heap.size w w' := by
  go_enter Try.func9, Try.ntmps9
  go_wp2
  go_ret
  exact ⟨rfl, Below.refl _ _⟩

theorem same6 (v u : Value) (l m : List UInt8) (w : World) (hv : SV w v (bys l)) (hu : SV w u (bys m)) :
    Calls Try.prog 12 #[v, u] w fun e w' => e = .returned (.bool (l == m)) ∧ Below w.heap.size w w' :=
  (same_any v u l m w hv hu).mono fun _ _ ⟨h1, h2⟩ => ⟨h1, h2 ▸ Below.refl _ _⟩

/-- The page's example. -/
def exI : It := ⟨1, [97], ⟨1, [], 0, 0, 0⟩⟩
theorem live6_any (w : World) : Calls Try.prog 7 #[] w fun e w' => e = .returned (.bool true) ∧ Below w.heap.size w w' := by
  have CP := fun w' => iput_any none 0 0 exI w' (SV.nil _) (by omega) (by simp [exI])
  have hl := sbytes_len exI
  have ht : (sbytes exI).take 6 = [1, 1, 97, 1, 0, 0] := by decide
  generalize sbytes exI = sb at *
  unfold iv exI at CP
  simp only at CP
  replace CP := Lib.hid CP
  have HT := Lib.hid ht
  have hz := (zero_of_info Try.zinfo29).1
  clear ht
  go_enter Try.func7, Try.ntmps7
  go_wp2_with fail
  refine (CP.out _).mono ?_
  rintro e w1 ⟨rfl, b1⟩
  go_wp2_with ((refine wpList_store_ab rfl _ (.tmp 1) (.tmp 4) rfl (w1.heap.size) rfl (sb) rfl _ _ (hl) (z64) (z64_len) (Whole.made w1 _ _) (by kernel_rfl) ?_); intro w2 p2 e2; have B2 := Lib.hid (e2 ▸ below_setRow (b1.alloc b1.size _) b1.size _); clear e2)
  refine (same6 _ _ ((sb).take 6) [1, 1, 97, 1, 0, 0] _ ((sv_ab_take p2.out 64 hl (by omega) 6 (by omega)).keep (Keeps.alloc _ _)) (sv_lit w2 [1, 1, 97, 1, 0, 0] 6 5 (0, 0) rfl (by omega))).mono ?_
  rintro e w3 ⟨rfl, b3⟩
  rw [HT.out]
  go_wp2
  go_ret
  exact ⟨rfl, (B2.out.alloc B2.out.size _).trans (b3.mono (by have := B2.out.size; simp; omega))⟩

theorem big6_yes (A : Option Addr) (n m : Nat) (x : It) (w : World) (h : 300 < x.k.length ∨ (x.k.length ≤ 300 ∧ 300 < n)) :
    Calls Try.prog 6 #[iv (.slice A n m) x] w fun e w' => e = .returned (.bool true) ∧ Below w.heap.size w w' := by
  obtain ⟨st, k, kd, d, lo, hi, v⟩ := x
  simp only at h
  unfold iv
  rcases h with h | ⟨h1, h2⟩
  · have h' : (300 : Int) < k.length := by omega
    clear h
    go_enter Try.func6, Try.ntmps6
    go_wp2
    go_ret
    exact ⟨rfl, (Below.refl _ _).alloc (Nat.le_refl _) _⟩
  · have h' : ¬ (300 : Int) < k.length := by omega
    have h'' : (300 : Int) < n := by omega
    clear h1 h2
    go_enter Try.func6, Try.ntmps6
    go_wp2
    go_ret
    exact ⟨rfl, (Below.refl _ _).alloc (Nat.le_refl _) _⟩
theorem big6_no (A : Option Addr) (n m : Nat) (x : It) (w : World) (h1 : x.k.length ≤ 300) (h2 : n ≤ 300) :
    Calls Try.prog 6 #[iv (.slice A n m) x] w fun e w' => e = .returned (.bool false) ∧ Below w.heap.size w w' := by
  obtain ⟨st, k, kd, d, lo, hi, v⟩ := x
  simp only at h1
  unfold iv
  have h' : ¬ (300 : Int) < k.length := by omega
  have h'' : ¬ (300 : Int) < n := by omega
  clear h1 h2
  go_enter Try.func6, Try.ntmps6
  go_wp2
  go_ret
  exact ⟨rfl, (Below.refl _ _).alloc (Nat.le_refl _) _⟩

theorem sv_open6 {w : World} {v : Value} {l : List UInt8} (h : SV w v (bys l)) : ∃ A c, v = .slice A l.length c := by obtain ⟨A, c, e, _⟩ := h; exact ⟨A, c, by rw [bys_len] at e; exact e⟩

set_option maxRecDepth 100000 in
set_option maxHeartbeats 2000000 in
theorem puts6_main (A : Option Addr) (n m : Nat) (x : It) (w : World) (hD : SV w (.slice A n m) (bys x.c.d)) (hn : n ≤ 300) (hk : x.k.length ≤ 300) (h64 : in64c x.c) :
    Calls Try.prog 3 #[iv (.slice A n m) x] w fun e w' => e = .returned (.bool true) ∧ Below w.heap.size w w' := by
  have BN := fun w' => big6_no A n m x w' hk hn
  have PT := fun w' (hb : Below w.heap.size w w') => iput_any A n m x w' (hD.keep (Keeps.below hb)) (by omega) (by omega)
  have CK := fun w' (hb : Below w.heap.size w w') => icheck_any A n m x w' (hD.keep (Keeps.below hb)) (by omega) (by omega)
  have RB := fun w' (hb : Below w.heap.size w w') => ribytes_any A n m x w' (hD.keep (Keeps.below hb)) (by omega) (by omega)
  have RR := fun w' (hb : Below w.heap.size w w') => riright_any A n m x w' (hD.keep (Keeps.below hb)) (by omega) (by omega)
  have GT := fun w' => get6_any (sbytes x) w' (sbytes_len x)
  have SM := fun w' (hb : Below w.heap.size w w') E y (h : SV w' E (bys y.c.d)) => risame_any (.slice A n m) E x y w' (hD.keep (Keeps.below hb)) h
  unfold Get6P at GT
  rw [getI_put x h64] at GT
  have hl := sbytes_len x
  have hsame : goodI x = true → sameI x (if goodI x = true then x else zeroI) = true := by intro h; rw [if_pos h]; exact sameI_self x
  have hgy : goodI x = true → (if goodI x = true then x else zeroI) = x := fun h => if_pos h
  unfold ckI6 at CK
  generalize sbytes x = sb at *
  generalize hy : (if goodI x = true then x else zeroI) = y at *
  clear hy
  have SMY := fun w' (hb : Below w.heap.size w w') E (h : SV w' E (bys y.c.d)) => SM w' hb E y h
  generalize hs : sameI x y = s at SMY
  clear SM hD h64 hgy
  obtain ⟨st, k, kd, d, lo, hi, v⟩ := x
  obtain ⟨st2, k2, kd2, d2, lo2, hi2, v2⟩ := y
  rw [hs] at hsame
  clear hs
  generalize goodI ⟨st, k, ⟨kd, d, lo, hi, v⟩⟩ = g at *
  unfold iv at BN PT CK RB RR GT SMY ⊢
  simp only at *
  have hgs : g = false ∨ (g = true ∧ s = true) := by
    cases hg : g
    · exact .inl rfl
    · exact .inr ⟨rfl, hsame hg⟩
  have hz := (zero_of_info Try.zinfo29).1
  replace BN := Lib.hid BN
  replace PT := Lib.hid PT
  replace RB := Lib.hid RB
  replace GT := Lib.hid GT
  clear hsame
  rcases hgs with rfl | ⟨rfl, rfl⟩
  all_goals
    simp only [Bool.false_eq_true, if_false, if_true] at CK
    replace CK := Lib.hid CK
    replace RR := Lib.hid RR
    replace SMY := Lib.hid SMY
    go_enter Try.func3, Try.ntmps3
    go_wp2_with (refine wpList_load_row rfl _ _ rfl (w.heap.size) rfl _ _ _ _ (Whole.made w _ _) Try.underlying26 rfl (by kernel_rfl) ?_)
    refine (BN.out _).mono ?_
    rintro e w1 ⟨rfl, b1⟩
    have p1 := (Whole.made w _ _).on b1
    have B1 := Lib.hid (((Below.refl w.heap.size w).alloc (Nat.le_refl _) _).trans (b1.mono (by simp)))
    clear b1
    go_wp2_with (refine wpList_load_row rfl _ _ rfl (w.heap.size) rfl _ _ _ _ (p1) Try.underlying26 rfl (by kernel_rfl) ?_)
    refine (PT.out _ B1.out).mono ?_
    rintro e w2 ⟨rfl, b2⟩
    have p2 := p1.on b2
    have B2 := Lib.hid (B1.out.trans (b2.mono B1.out.size))
    clear b2 p1
    go_wp2_with (first
      | ((refine wpList_store_ab rfl _ (.tmp 3) (.tmp 11) rfl (w2.heap.size) rfl (sb) rfl _ _ (hl) (z64) (z64_len) (Whole.made w2 _ _) (by kernel_rfl) ?_); intro w3 q3 e3; have p3 := (p2.later (.cells (ab z64) 29)).but (But.row w2.heap.size (w2.alloc (.cells (ab z64) 29)) (ab sb)) (Nat.ne_of_lt p2.lt); rw [← e3] at p3; have B3 := Lib.hid (e3 ▸ below_setRow (B2.out.alloc B2.out.size _) B2.out.size _); clear e3)
      | (refine wpList_load_row rfl _ _ rfl (w.heap.size) rfl _ _ _ _ (p3) Try.underlying26 rfl (by kernel_rfl) ?_))
    refine (CK.out _ B3.out).mono ?_
    rintro e w4 ⟨rfl, b4⟩
    have p4 := p3.on b4
    have q4 := q3.out.on b4
    have B4 := Lib.hid (B3.out.trans (b4.mono B3.out.size))
    clear b4 p3 q3 B3
    go_wp2_with fail
    refine (code6_b _ _).mono ?_
    rintro e w5 ⟨rfl, b5⟩
    have p5 := p4.on b5
    have q5 := q4.on b5
    have B5 := Lib.hid (B4.out.trans (b5.mono B4.out.size))
    clear b5 p4 q4 B4
    go_wp2_with (refine wpList_load_ab rfl _ (.tmp 3) rfl (w2.heap.size) rfl _ _ _ (sb) (hl) (q5) Try.underlying29 (by kernel_rfl) ?_)
    refine (GT.out _).mono ?_
    rintro e w6 ⟨E, rfl, s6, b6⟩
    obtain ⟨E', c', rfl⟩ := sv_open6 s6
    have p6 := p5.on b6
    have q6 := q5.on b6
    have B6 := Lib.hid (B5.out.trans (b6.mono B5.out.size))
    have S6 := Lib.hid s6
    clear b6 s6 p5 q5 B5
    go_wp2_with (refine wpList_store_row rfl _ (.tmp 5) (.tmp 18) rfl w6.heap.size _ rfl rfl _ _ (Whole.made w6 _ _) (by kernel_rfl) rfl (by simp [Value.oneCell']) ?_; rw [World.setRow_alloc_new])
    try simp only [Act.put]
    have r6 := Whole.made w6 26 #[.int .i64 st2, .string ⟨k2.toArray⟩, .int .i64 kd2, .slice E' d2.length c', .int .i64 lo2, .int .i64 hi2, .int .i64 v2]
    have p7 := p6.later (.cells #[.int .i64 st2, .string ⟨k2.toArray⟩, .int .i64 kd2, .slice E' d2.length c', .int .i64 lo2, .int .i64 hi2, .int .i64 v2] 26)
    have q7 := q6.later (.cells #[.int .i64 st2, .string ⟨k2.toArray⟩, .int .i64 kd2, .slice E' d2.length c', .int .i64 lo2, .int .i64 hi2, .int .i64 v2] 26)
    have S7 := Lib.hid (S6.out.keep (Keeps.alloc w6 (.cells #[.int .i64 st2, .string ⟨k2.toArray⟩, .int .i64 kd2, .slice E' d2.length c', .int .i64 lo2, .int .i64 hi2, .int .i64 v2] 26)))
    have B7 := Lib.hid (B6.out.alloc B6.out.size (.cells #[.int .i64 st2, .string ⟨k2.toArray⟩, .int .i64 kd2, .slice E' d2.length c', .int .i64 lo2, .int .i64 hi2, .int .i64 v2] 26))
    clear p6 q6 S6 B6
    generalize w6.alloc (.cells #[.int .i64 st2, .string ⟨k2.toArray⟩, .int .i64 kd2, .slice E' d2.length c', .int .i64 lo2, .int .i64 hi2, .int .i64 v2] 26) = w7 at *
    generalize w6.heap.size = g5 at *
    have hll : decide (sb.length = 64) = true := by simp [hl]
    refine wp_region_facts 37 [] [22] (by kernel_rfl) (by kernel_rfl) (by kernel_rfl) (free_draw w7) ?_
    simp only [List.take_succ_cons, List.take_zero, List.drop_succ_cons, List.drop_zero, List.zipIdx_cons, List.zipIdx_nil, Nat.zero_add, Nat.reduceAdd]
    repeat (first
      | (refine f_skip (fun V => by rfl) ?_; simp only [Act.put, List.setIfInBounds_toArray, List.set_cons_succ, List.set_cons_zero])
        | (refine f_load_row (by first | exact cls_free _ | exact cls_row _ _ _ _ | exact cls_fill _ _ _ _ _) (fun V => by rfl) _ _ rfl _ (fun V => by rfl) _ _ _ (fun w hb => p7.on hb) Try.underlying26 rfl (by kernel_rfl) ?_; simp only [Act.put, List.setIfInBounds_toArray, List.set_cons_succ, List.set_cons_zero])
          | (refine f_load_row (by first | exact cls_free _ | exact cls_row _ _ _ _ | exact cls_fill _ _ _ _ _) (fun V => by rfl) _ _ rfl _ (fun V => by rfl) _ _ _ (fun w hb => r6.on hb) Try.underlying26 rfl (by kernel_rfl) ?_; simp only [Act.put, List.setIfInBounds_toArray, List.set_cons_succ, List.set_cons_zero])
          | (refine f_callF (by first | exact cls_free _ | exact cls_row _ _ _ _ | exact cls_fill _ _ _ _ _) (fSV (bys sb)) (stays_sv _) (fun V => by rfl) (by decide) 13 _ _ rfl (enters_of Try.func13 rfl rfl) _ (fun V w hb hk => (RB.out w (B7.out.trans (Below.mono hb B7.out.size))).mono fun e w' ⟨v, h1, h2, h3⟩ => ⟨v, h1, h2.sv, h3⟩) (fun V => by rfl) ?_; simp only [Act.put, List.setIfInBounds_toArray, List.set_cons_succ, List.set_cons_zero, keyOf, Option.getD_some])
          | (refine f_call (by first | exact cls_free _ | exact cls_row _ _ _ _ | exact cls_fill _ _ _ _ _) (fun V => by rfl) 12 _ _ rfl (enters_of Try.func12 rfl rfl) _ _ (fun V w hb hk => (same6 _ _ sb sb w (sv_ab (q7.on hb) 64 hl (by omega)) (hk.slot 22 rfl rfl)).mono fun e w' ⟨h1, h2⟩ => ⟨by rw [h1, beq_self_eq_true], h2⟩) (fun V => by rfl) ?_; simp only [Act.put, List.setIfInBounds_toArray, List.set_cons_succ, List.set_cons_zero])
          | (refine f_call (by first | exact cls_free _ | exact cls_row _ _ _ _ | exact cls_fill _ _ _ _ _) (fun V => by rfl) 14 _ _ rfl (enters_of Try.func14 rfl rfl) _ _ (fun V w hb hk => RR.out w (B7.out.trans (Below.mono hb B7.out.size))) (fun V => by rfl) ?_; simp only [Act.put, List.setIfInBounds_toArray, List.set_cons_succ, List.set_cons_zero])
          | (refine f_call (by first | exact cls_free _ | exact cls_row _ _ _ _ | exact cls_fill _ _ _ _ _) (fun V => by rfl) 9 _ _ rfl (enters_of Try.func9 rfl rfl) _ _ (fun V w hb hk => code6_b _ w) (fun V => by rfl) ?_; simp only [Act.put, List.setIfInBounds_toArray, List.set_cons_succ, List.set_cons_zero])
          | (refine f_call (by first | exact cls_free _ | exact cls_row _ _ _ _ | exact cls_fill _ _ _ _ _) (fun V => by rfl) 15 _ _ rfl (enters_of Try.func15 rfl rfl) _ _ (fun V w hb hk => SMY.out w (B7.out.trans (Below.mono hb B7.out.size)) _ (S7.out.keep (Keeps.below hb))) (fun V => by rfl) ?_; simp only [Act.put, List.setIfInBounds_toArray, List.set_cons_succ, List.set_cons_zero])
          | (refine f_call (by first | exact cls_free _ | exact cls_row _ _ _ _ | exact cls_fill _ _ _ _ _) (fun V => by rfl) 7 _ _ rfl (enters_of Try.func7 rfl rfl) _ _ (fun V w hb hk => live6_any w) (fun V => by rfl) ?_; simp only [Act.put, List.setIfInBounds_toArray, List.set_cons_succ, List.set_cons_zero])
      | (refine f_quiet (by first | exact cls_free _ | exact cls_row _ _ _ _ | exact cls_fill _ _ _ _ _) (fun V => by rfl) (fun V => ⟨_, rfl, by simp⟩) ?_; apply Exists.intro; refine And.intro (fun V w hw K hK => ?_) ?_; ((try simp only [Act.put, List.setIfInBounds_toArray, List.set_cons_succ, List.set_cons_zero] at hK); go_big_quiet_op; exact hK); simp only [Act.put, List.setIfInBounds_toArray, List.set_cons_succ, List.set_cons_zero]))
    refine f_nil ?_
    intro V w8 hq hkn
    have B8 := Lib.hid (B7.out.trans (Below.mono hq B7.out.size))
    clear hkn
    go_wp2
    go_ret
    exact ⟨rfl, B8.out⟩
end Go.Proofs.Ytdbhadiabbdfmaa
