/- Layer 3: the page's example, and the three laws. -/
import Derived.Test.YtpgdmliofgejlaaWideRows
namespace Go.Proofs.Ytpgdmliofgejlaa
open Go.RowKit

theorem big_add (w : World) : Calls Try.prog 6 #[.int .i64 9223372036854775807, .int .i64 1] w fun e w' => e = .returned (.tuple #[.int .i64 0, .bool false]) ∧ Below w.heap.size w w' := by
  have h := add_any 9223372036854775807 1 w (by unfold in64; omega) (by unfold in64; omega)
  rwa [(fit_no (x := 9223372036854775807 + 1) (by unfold in64; omega)).1, (fit_no (x := 9223372036854775807 + 1) (by unfold in64; omega)).2] at h
theorem big_plus (w : World) : Calls Try.prog 20 #[wide 9223372036854775807, .int .i64 1] w fun e w' => e = .returned (wide 9223372036854775808) ∧ Below w.heap.size w w' :=
  plus_any 9223372036854775807 1 w (by unfold inSum; omega) (by unfold in64; omega)
theorem big_minus (w : World) : Calls Try.prog 19 #[wide 9223372036854775808, .int .i64 1] w fun e w' => e = .returned (wide 9223372036854775807) ∧ Below w.heap.size w w' :=
  minus_any 9223372036854775808 1 w (by unfold inSum; omega) (by unfold in64; omega)
theorem big_int (w : World) : Calls Try.prog 13 #[wide 9223372036854775807] w fun e w' => e = .returned (.tuple #[.int .i64 9223372036854775807, .bool true]) ∧ Below w.heap.size w w' := by
  have h := int_any 9223372036854775807 w
  rwa [(fit_yes (x := 9223372036854775807) (by unfold in64; omega)).1, (fit_yes (x := 9223372036854775807) (by unfold in64; omega)).2] at h

theorem live3_any (w : World) : Calls Try.prog 10 #[] w fun e w' => e = .returned (.bool true) ∧ Below w.heap.size w w' := by
  have ho := fun w => of_any 9223372036854775807 w (by unfold in64; omega)
  have HO := Lib.hid ho
  clear ho
  go_enter Try.func10, Try.ntmps10
  go_wp2_with (first
    | (go_at_call 6; refine (big_add _).mono ?_; rintro e w1 ⟨rfl, b1⟩)
    | (go_at_call 22; refine (HO.out _).mono ?_; rintro e w2 ⟨rfl, b2⟩)
    | (go_at_call 20; refine (big_plus _).mono ?_; rintro e w3 ⟨rfl, b3⟩)
    | (go_at_call 19; refine (big_minus _).mono ?_; rintro e w4 ⟨rfl, b4⟩)
    | (go_at_call 13; refine (big_int _).mono ?_; rintro e w5 ⟨rfl, b5⟩))
  go_ret
  exact ⟨rfl, bthen b1 (bthen b2 (bthen b3 (bthen b4 b5)))⟩

theorem adds_law (a b : Int) (w : World) (ha : in64 a) (hb : in64 b) : Calls Try.prog 3 #[.int .i64 a, .int .i64 b] w fun e w' => e = .returned (.bool true) ∧ Below w.heap.size w w' := by
  go_enter Try.func3, Try.ntmps3
  go_wp2_with (first
    | (go_at_call 6; refine (add_any a b _ ha hb).mono ?_; rintro e w1 ⟨rfl, b1⟩)
    | (go_at_call 7; refine (sub_any a b _ ha hb).mono ?_; rintro e w2 ⟨rfl, b2⟩)
    | (go_at_call 8; refine (refAdd_any a b _ ha hb).mono ?_; rintro e w3 ⟨rfl, b3⟩)
    | (go_at_call 9; refine (refSub_any a b _ ha hb).mono ?_; rintro e w4 ⟨rfl, b4⟩)
    | (go_at_call 10; refine (live3_any _).mono ?_; rintro e w5 ⟨rfl, b5⟩))
  go_ret
  exact ⟨rfl, bthen b1 (bthen b2 (bthen b3 (bthen b4 b5)))⟩

theorem num_eq (x y : Int) : decide (x / 4294967296 = y / 4294967296 ∧ x % 4294967296 = y % 4294967296) = decide (x = y) := by rw [decide_eq_decide]; omega
theorem run_eql_num (x y : Int) (w : World) : (binOp .eql 33 (num x) (num y)).run Try.prog w = .ok (.bool (decide (x = y))) w := by
  rw [← num_eq]
  unfold num
  by_cases h1 : x / 4294967296 = y / 4294967296 <;> by_cases h2 : x % 4294967296 = y % 4294967296 <;> go_simp
theorem run_guard_num (op : BinOp) (s t : Operand) (x y : Int) (w : World) : (eqGuard op 33 s t (num x) (num y)).run Try.prog w = .ok () w := by
  unfold num
  go_simp

set_option maxHeartbeats 1000000 in
theorem sums3_main (A B C : Option Addr) (n m p c d f : Nat) (l : List Int) (o : List Bool) (q : List Int) (w : World) (hl : SV w (.slice A n c) (ints l)) (ho : SV w (.slice B m d) (bls o)) (hq : SV w (.slice C p f) (ints q))
    (hi : ∀ x ∈ l, in64 x) (hj : ∀ x ∈ q, in64 x) (hn : n ≤ 60) (hp : p ≤ 60) :
    Calls Try.prog 4 #[.slice A n c, .slice B m d, .slice C p f] w fun e w' => e = .returned (.bool true) ∧ Below w.heap.size w w' := by
  have q1 : decide ((60 : Int) < n) = false := by simp; omega
  have q2 : decide ((60 : Int) < p) = false := by simp; omega
  have bx := tot_bd l o hi (by have := hl.bd.1; simp at this; omega)
  have bq := tot_bd q [] hj (by have := hq.bd.1; simp at this; omega)
  have s1 : inSum (tot l o) := by unfold inSum; omega
  have s2 : inSum (tot q []) := by unfold inSum; omega
  have s3 : inSum (tot l o + tot q []) := by unfold inSum; omega
  have n1 : inNum (tot l o) := by unfold inNum; omega
  have n2 : inNum (tot q []) := by unfold inNum; omega
  have n3 : inNum (tot l o + tot q []) := by unfold inNum; omega
  clear bx bq
  have nb : SV w (.slice none 0 0) (bls []) := SV.nil _
  have HS1 := fun w' (hb : Below w.heap.size w w') => sum_any A B n m c d l o w' (hl.keep (Keeps.below hb)) (ho.keep (Keeps.below hb)) hi hn
  have HS2 := fun w' (hb : Below w.heap.size w w') => sum_any C none p 0 f 0 q [] w' (hq.keep (Keeps.below hb)) (nb.keep (Keeps.below hb)) hj hp
  have HA1 := fun w' (hb : Below w.heap.size w w') => all_any A B n m c d l o w' (hl.keep (Keeps.below hb)) (ho.keep (Keeps.below hb)) hi hn
  have HA2 := fun w' (hb : Below w.heap.size w w') => all_any C none p 0 f 0 q [] w' (hq.keep (Keeps.below hb)) (nb.keep (Keeps.below hb)) hj hp
  have G1 := Lib.hid HS1
  have G2 := Lib.hid HS2
  have G3 := Lib.hid HA1
  have G4 := Lib.hid HA2
  clear HS1 HS2 HA1 HA2 hl ho hq nb hi hj
  generalize tot l o = X at *
  generalize tot q [] = Y at *
  go_enter Try.func4, Try.ntmps4
  have t1 : True := trivial
  have t3 : True := trivial
  have t5 : True := trivial
  have t6 : True := trivial
  go_wp2_with (first
    | (go_at_call 11; refine (G2.out _ b1).mono ?_; simp only [wide]; rintro e w2 ⟨rfl, b2⟩)
    | (go_at_call 11; clear t1; refine (G1.out _ (Below.refl _ _)).mono ?_; simp only [wide]; rintro e w1 ⟨rfl, b1⟩)
    | (go_at_call 12; refine (G4.out _ (bthen (b12 _ _) b3)).mono ?_; simp only [num]; rintro e w4 ⟨rfl, b4⟩; have c7 := c7.on b4; have c8 := c8.on b4; have b14 := bthen (bthen (b12 _ _) b3) b4)
    | (go_at_call 12; have b12 := fun (o1 o2 : Obj) => two_more (bthen b1 b2) o1 o2; clear t3; refine (G3.out _ (b12 _ _)).mono ?_; simp only [num]; rintro e w3 ⟨rfl, b3⟩; have c7 := ((Whole.made w2 _ _).later _).on b3; have c8 := (Whole.second w2 _ _ _).on b3)
    | (go_at_call 14; have tok := b9; refine (refInt_any (X + Y) _ n3).mono ?_; rintro e w10 ⟨rfl, b10⟩; have c7 := c7.on b10; have c8 := c8.on b10; have c9 := c9.on b10; have c10 := c10.on b10; have b10 := bthen b9 b10)
    | (go_at_call 16; refine (refJoin_any X Y _ n1 n2).mono ?_; rintro e w9 ⟨rfl, b9⟩; have c7 := c7.on b9; have c8 := c8.on b9; have c9 := c9.on b9; have c10 := c10.on b9; have b9 := bthen b8 b9)
    | (go_at_call 13; refine (int_any (X + Y) w7).mono ?_; rintro e w8 ⟨rfl, b8⟩; have c7 := c7.on b8; have c8 := c8.on b8; have c9 := c9.on b8; have c10 := c10.on b8; have b8 := bthen b7 b8)
    | (go_at_call 15; refine (join_any X Y _ s1 s2).mono ?_; rintro e w7 ⟨rfl, b7⟩; have c7 := c7.on b7; have c8 := c8.on b7; have c9 := c9.on b7; have c10 := c10.on b7; have b7 := bthen b16 b7)
    | (go_at_call 14; clear t6; refine (refInt_any X _ n1).mono ?_; rintro e w6 ⟨rfl, b6⟩; have c7 := c7.on b6; have c8 := c8.on b6; have c9 := c9.on b6; have c10 := c10.on b6; have b16 := bthen b15 b6)
    | (go_at_call 13; clear t5; refine (int_any X _).mono ?_; rintro e w5 ⟨rfl, b5⟩; have c7 := ((c7.later _).later _).on b5; have c8 := ((c8.later _).later _).on b5; have c9 := ((Whole.made w4 _ _).later _).on b5; have c10 := (Whole.second w4 _ _ _).on b5; have b15 := bthen (two_more b14 _ _) b5)
    | (refine wpList_load_row rfl 30 (.tmp 7) rfl (w2.heap.size) rfl 30 _ _ _ ((c7.later _).later _) Try.underlying30 rfl (by kernel_rfl) ?_)
    | (refine wpList_load_row rfl 30 (.tmp 7) rfl (w2.heap.size) rfl 30 _ _ _ c7 Try.underlying30 rfl (by kernel_rfl) ?_)
    | (refine wpList_load_row rfl 30 (.tmp 8) rfl (w2.heap.size + 1) rfl 30 _ _ _ c8 Try.underlying30 rfl (by kernel_rfl) ?_)
    | (refine wpList_load_row rfl 33 (.tmp 9) rfl (w4.heap.size) rfl 33 _ _ _ c9 Try.underlying33 rfl (by kernel_rfl) ?_)
    | (refine wpList_load_row rfl 33 (.tmp 10) rfl (w4.heap.size + 1) rfl 33 _ _ _ c10 Try.underlying33 rfl (by kernel_rfl) ?_))
  refine wp_region_tail (C := fun w' => ∃ p : Regrown, w' = Go.Sort.grow (redrawn w10 p.d) p.os) 40 (by kernel_rfl) (by kernel_rfl) (by kernel_rfl) (rg_draw w10) ?_
  simp only [List.take_succ_cons, List.take_zero, List.drop_succ_cons, List.drop_zero]
  repeat (first
    | go_big_quiet_skip
    | (go_big_quiet_want; first
      | (refine q_load_row _ _ rfl _ rfl _ _ _ _ c7 Try.underlying30 rfl (by kernel_rfl) ?_; go_big_quiet_on; simp only [Act.put, List.setIfInBounds_toArray, List.set_cons_succ, List.set_cons_zero])
      | (refine q_load_row _ _ rfl _ rfl _ _ _ _ c8 Try.underlying30 rfl (by kernel_rfl) ?_; go_big_quiet_on; simp only [Act.put, List.setIfInBounds_toArray, List.set_cons_succ, List.set_cons_zero])
      | (refine q_load_row _ _ rfl _ rfl _ _ _ _ c9 Try.underlying33 rfl (by kernel_rfl) ?_; go_big_quiet_on; simp only [Act.put, List.setIfInBounds_toArray, List.set_cons_succ, List.set_cons_zero])
      | (refine q_load_row _ _ rfl _ rfl _ _ _ _ c10 Try.underlying33 rfl (by kernel_rfl) ?_; go_big_quiet_on; simp only [Act.put, List.setIfInBounds_toArray, List.set_cons_succ, List.set_cons_zero])
      | (refine q_binop _ _ _ _ _ rfl _ _ _ (run_eql_wide X Y) (run_guard_wide _ _ _ _ _) rfl rfl ?_; go_big_quiet_on; simp only [Act.put, List.setIfInBounds_toArray, List.set_cons_succ, List.set_cons_zero])
      | (refine q_binop _ _ _ _ _ rfl _ _ _ (run_eql_num X Y) (run_guard_num _ _ _ _ _) rfl rfl ?_; go_big_quiet_on; simp only [Act.put, List.setIfInBounds_toArray, List.set_cons_succ, List.set_cons_zero])
      | (refine q_call 17 _ _ rfl _ _ (enters_of Try.func17 rfl rfl) (fun w hw => less_any X Y w) rfl ?_; go_big_quiet_on; simp only [Act.put, List.setIfInBounds_toArray, List.set_cons_succ, List.set_cons_zero])
      | (refine q_call 18 _ _ rfl _ _ (enters_of Try.func18 rfl rfl) (fun w hw => refLess_any X Y w) rfl ?_; go_big_quiet_on; simp only [Act.put, List.setIfInBounds_toArray, List.set_cons_succ, List.set_cons_zero])
      | (refine q_call 10 _ _ rfl _ _ (enters_of Try.func10 rfl rfl) (fun w hw => live3_any w) rfl ?_; go_big_quiet_on; simp only [Act.put, List.setIfInBounds_toArray, List.set_cons_succ, List.set_cons_zero])
      | (go_big_quiet_op; go_big_quiet_on)))
  refine wpQuiet_nil ?_
  intro w' hq
  have hq := rg_below hq
  go_wp2
  go_ret
  exact ⟨rfl, bthen b10 hq⟩

theorem sub_bd (l : List Int) (o : List Bool) (h : ∀ x ∈ l, in64 x) (hl : l.length ≤ 60) (j : Nat) (hj : j ≤ l.length) : inSum (tot l o - upto l o j) ∧ inSum (upto l o j) := by
  have a := tot_bd l o h hl
  have b := upto_bd l o h j
  unfold inSum
  omega

theorem run_same_wide (x : Int) (w : World) : (binOp .eql 30 (wide x) (wide x)).run Try.prog w = .ok (.bool true) w := by rw [run_eql_wide]; simp

set_option maxHeartbeats 1000000 in
theorem order_main (A B : Option Addr) (m c d k : Nat) (l : List Int) (o : List Bool) (w : World) (hl : SV w (.slice A l.length c) (ints l)) (ho : SV w (.slice B m d) (bls o))
    (hi : ∀ x ∈ l, in64 x) (hn : l.length ≤ 60) (hk : k ≤ l.length) :
    Calls Try.prog 5 #[.slice A l.length c, .slice B m d, .int .i64 k] w fun e w' => e = .returned (.bool true) ∧ Below w.heap.size w w' := by
  have q1 : decide ((60 : Int) < l.length) = false := by simp; omega
  have q2 : decide ((k : Int) < 0) = false := by simp
  have q3 : decide (l.length < k) = false := by simp; omega
  obtain ⟨-, l2, l3⟩ := hl.bd
  obtain ⟨o1, o2, o3⟩ := ho.bd
  simp only [bls_len] at o1
  subst o1
  have hkc : k ≤ c := by omega
  obtain ⟨A', m', d', hr, hcase⟩ : ∃ A' m' d', SV w (.slice A' m' d') (bls (o.drop k)) ∧ ((k < o.length ∧ ∀ w', (Instr.sliceAt 27 (.slice B o.length d) (some (.int .i64 k)) none none).run Try.prog w' = .ok (.slice A' m' d') w') ∨
      (decide (k < o.length) = false ∧ A' = none ∧ m' = 0 ∧ d' = 0)) := by
    by_cases hk2 : k < o.length
    · refine ⟨_, _, _, ?_, .inl ⟨hk2, fun w' => run_cut Try.underlying27 (e := 4) (by kernel_rfl) (by omega) w'⟩⟩
      have := ho.cutv k (by omega)
      rwa [show (bls o).drop k = bls (o.drop k) by simp [bls]] at this
    · refine ⟨none, 0, 0, ?_, .inr ⟨by simpa using hk2, rfl, rfl, rfl⟩⟩
      rw [List.drop_of_length_le (by omega)]
      exact SV.nil w
  have hlt' := hl.takev k (by omega)
  have hld := hl.cutv k hk
  rw [show (ints l).take k = ints (l.take k) by simp [ints]] at hlt'
  rw [show (ints l).drop k = ints (l.drop k) by simp [ints]] at hld
  have S0 := Lib.hid (fun w' (hb : Below w.heap.size w w') => sum_any A B l.length o.length c d l o w' (hl.keep (Keeps.below hb)) (ho.keep (Keeps.below hb)) hi hn)
  have S1 := Lib.hid (fun w' (hb : Below w.heap.size w w') => sum_any _ B k o.length c d (l.take k) o w' (hlt'.keep (Keeps.below hb)) (ho.keep (Keeps.below hb)) (fun x hx => hi x (List.mem_of_mem_take hx)) (by omega))
  have S2 := Lib.hid (fun w' (hb : Below w.heap.size w w') => sum_any _ A' (l.length - k) m' (c - k) d' (l.drop k) (o.drop k) w' (hld.keep (Keeps.below hb)) (hr.keep (Keeps.below hb)) (fun x hx => hi x (List.mem_of_mem_drop hx)) (by omega))
  have E1 := Lib.hid (tot_split l o k hk)
  have hjn := fun w => join_any (tot (l.take k) o) (tot (l.drop k) (o.drop k)) w (by rw [tot_take l o k hk]; exact (sub_bd l o hi hn k hk).2) (by rw [tot_drop l o k hk]; exact (sub_bd l o hi hn k hk).1)
  rw [tot_split l o k hk] at hjn
  have HJ := Lib.hid hjn
  clear hjn
  have i1 : inSum (tot (l.take k) o) := by rw [tot_take l o k hk]; exact (sub_bd l o hi hn k hk).2
  have i2 : inSum (tot (l.drop k) (o.drop k)) := by rw [tot_drop l o k hk]; exact (sub_bd l o hi hn k hk).1
  have HD := Lib.hid (sub_bd l o hi hn)
  have HC := Lib.hid hcase
  have HL := Lib.hid hl
  have HO := Lib.hid ho
  have HI := Lib.hid hi
  clear hcase hlt' hld hr hl ho hi
  go_enter Try.func5, Try.ntmps5
  go_wp2
  go_loopw [8] (fun i wr => ∃ j : Nat, j ≤ l.length ∧ i = .int .i64 ((j : Int) - 1) ∧ Whole wr w.heap.size 30 #[.int .i64 (hiW (tot l o - upto l o j)), .int .u64 (loN (tot l o - upto l o j) : Int)] ∧ Below w.heap.size w wr) (fun i _ => (intOf i + 1).toNat)
  case atStart => exact ⟨l.length, Nat.le_refl _, rfl, by rw [show tot l o - upto l o l.length = 0 by unfold tot; omega]; exact Whole.made _ _ _, (Below.refl _ _).alloc (Nat.le_refl _) _⟩
  case round =>
    obtain ⟨j1, hj, rfl, c1, hb⟩ := hrel
    by_cases hj0 : j1 = 0
    · subst hj0
      rw [show tot l o - upto l o 0 = tot l o by simp [upto]] at c1
      have hsp : Value.int .i64 (((0 : Nat) : Int) - 1) = .int .i64 (-1) := rfl
      rw [hsp]
      clear hsp
      rcases HC.out with ⟨hk2, hrun⟩ | ⟨hk2, rfl, rfl, rfl⟩
      all_goals
        have HK := Lib.hid hk2
        go_wp2
        refine wp_region_tail (C := fun w' => ∃ p : Regrown, w' = Go.Sort.grow (redrawn wr p.d) p.os) 24 (by kernel_rfl) (by kernel_rfl) (by kernel_rfl) (rg_draw wr) ?_
        simp only [List.take_succ_cons, List.take_zero, List.drop_succ_cons, List.drop_zero]
        repeat (first
          | go_big_quiet_skip
          | (go_big_quiet_want; first
            | (refine q_load_row _ _ rfl _ rfl _ _ _ _ c1 Try.underlying30 rfl (by kernel_rfl) ?_; go_big_quiet_on; simp only [Act.put, List.setIfInBounds_toArray, List.set_cons_succ, List.set_cons_zero])
            | (refine q_take _ _ _ rfl 3 Try.underlying26 (by kernel_rfl) _ _ _ rfl _ _ rfl hkc ?_; go_big_quiet_on; simp only [Act.put, List.setIfInBounds_toArray, List.set_cons_succ, List.set_cons_zero])
            | (refine q_cut _ _ _ rfl 3 Try.underlying26 (by kernel_rfl) _ _ _ rfl _ _ rfl hk ?_; go_big_quiet_on; simp only [Act.put, List.setIfInBounds_toArray, List.set_cons_succ, List.set_cons_zero])
            | (refine q_call 11 _ _ rfl _ _ (enters_of Try.func11 rfl rfl) (fun w hw => S0.out w (hb.trans (hw.mono hb.size))) rfl ?_; go_big_quiet_on; simp only [Act.put, List.setIfInBounds_toArray, List.set_cons_succ, List.set_cons_zero])
            | (refine q_call 11 _ _ rfl _ _ (enters_of Try.func11 rfl rfl) (fun w hw => S1.out w (hb.trans (hw.mono hb.size))) rfl ?_; go_big_quiet_on; simp only [Act.put, List.setIfInBounds_toArray, List.set_cons_succ, List.set_cons_zero])
            | (refine q_call 11 _ _ rfl _ _ (enters_of Try.func11 rfl rfl) (fun w hw => S2.out w (hb.trans (hw.mono hb.size))) rfl ?_; go_big_quiet_on; simp only [Act.put, List.setIfInBounds_toArray, List.set_cons_succ, List.set_cons_zero])
            | (refine q_call 15 _ _ rfl _ _ (enters_of Try.func15 rfl rfl) (fun w hw => HJ.out w) rfl ?_; go_big_quiet_on; simp only [Act.put, List.setIfInBounds_toArray, List.set_cons_succ, List.set_cons_zero])
            | (refine q_binop _ _ _ _ _ rfl _ _ _ (run_same_wide (tot l o)) (run_guard_wide _ _ _ _ _) rfl rfl ?_; go_big_quiet_on; simp only [Act.put, List.setIfInBounds_toArray, List.set_cons_succ, List.set_cons_zero])
            | (refine q_call 10 _ _ rfl _ _ (enters_of Try.func10 rfl rfl) (fun w hw => live3_any w) rfl ?_; go_big_quiet_on; simp only [Act.put, List.setIfInBounds_toArray, List.set_cons_succ, List.set_cons_zero])
            | (go_big_quiet_op; go_big_quiet_on)))
        refine wpQuiet_nil ?_
        intro w' hq
        have hq := rg_below hq
        go_wp2
        all_goals
          go_ret
          exact ⟨rfl, hb.trans (hq.mono hb.size)⟩
    · obtain ⟨j, rfl⟩ : ∃ j, j1 = j + 1 := ⟨j1 - 1, by omega⟩
      have hjl : j < l.length := by omega
      have hsp : .int .i64 (((j + 1 : Nat) : Int) - 1) = Value.int .i64 j := by congr 1; omega
      have hn1 := (HD.out (j + 1) hj).1
      obtain ⟨b, off, u, rfl, hu, hc⟩ := HL.out.at hjl
      have hc' : wr.cell? ⟨b, off + j, none⟩ = some u := (hb.cell (World.block_lt_of_cell? w _ hc)).trans hc
      obtain ⟨x, hx⟩ : ∃ x, l[j]? = some x := ⟨_, List.getElem?_eq_getElem (by omega)⟩
      have hux : u = .int .i64 x := by simp [ints, hx] at hu; exact hu.symm
      subst hux
      have hx64 := HI.out x (List.mem_of_getElem? hx)
      have HX := Lib.hid hx
      clear hx
      rw [hsp]
      clear hsp
      by_cases ho1 : o[j]? = some true
      · have hjm : j < o.length := by have := (List.getElem?_eq_some_iff.1 ho1).1; omega
        obtain ⟨b', off', u', rfl, hu', hd⟩ := HO.out.at hjm
        have hd' : wr.cell? ⟨b', off' + j, none⟩ = some u' := (hb.cell (World.block_lt_of_cell? w _ hd)).trans hd
        have hu2 : u' = .bool true := by simp [bls, ho1] at hu'; exact hu'.symm
        subst hu2
        have HT : Hid (tot l o - upto l o j = tot l o - upto l o (j + 1) - x) := Lib.hid (by simp [upto, term, ho1, HX.out]; omega)
        clear ho1 hu' hu
        go_wp2
        refine wp_region_tail (C := fun w' => ∃ p : Regrown, w' = Go.Sort.grow (redrawn wr p.d) p.os) 6 (by kernel_rfl) (by kernel_rfl) (by kernel_rfl) (rg_draw wr) ?_
        simp only [List.take_succ_cons, List.take_zero, List.drop_succ_cons, List.drop_zero]
        repeat (first
          | go_big_quiet_skip
          | (go_big_quiet_want; first
            | (refine q_load_row _ _ rfl _ rfl _ _ _ _ c1 Try.underlying30 rfl (by kernel_rfl) ?_; go_big_quiet_on; simp only [Act.put, List.setIfInBounds_toArray, List.set_cons_succ, List.set_cons_zero])
                  | (refine q_index _ _ _ rfl 3 1 Try.underlying26 (by kernel_rfl) _ _ _ rfl _ _ rfl hjl ?_; go_big_quiet_on; simp only [Act.put, List.setIfInBounds_toArray, List.set_cons_succ, List.set_cons_zero, Nat.mul_one, Addr.add_lit])
                  | (refine q_load_cell _ _ rfl _ rfl _ hc' _ Try.underlying3 rfl ?_; go_big_quiet_on; simp only [Act.put, List.setIfInBounds_toArray, List.set_cons_succ, List.set_cons_zero])
                  | (refine q_call 19 _ _ rfl _ _ (enters_of Try.func19 rfl rfl) (fun w hw => minus_any _ x w hn1 hx64) rfl ?_; go_big_quiet_on; simp only [Act.put, List.setIfInBounds_toArray, List.set_cons_succ, List.set_cons_zero])
            | (go_big_quiet_op; go_big_quiet_on)))
        refine wpQuiet_nil ?_
        intro w' hq
        have hq := rg_below hq
        simp only [wide]
        have c1' := c1.below hq c1.lt
        (refine wpList_store_row rfl _ _ _ rfl (w.heap.size) _ rfl rfl _ _ c1' (by kernel_rfl) rfl (by simp [Value.oneCell']) ?_)
        go_wp2
        go_roundw
        case rel => exact ⟨j, by omega, by go_num, by rw [HT.out]; exact setRow_heap _ _ _ _ _ _ c1', below_setRow (hb.trans (hq.mono hb.size)) (Nat.le_refl _) _⟩
        case measure => simp [intOf] <;> omega
      · have HT : Hid (tot l o - upto l o j = tot l o - upto l o (j + 1) + x) := Lib.hid (by simp [upto, term, ho1, HX.out]; omega)
        by_cases hjm : j < o.length
        · obtain ⟨b', off', u', rfl, hu', hd⟩ := HO.out.at hjm
          have hd' : wr.cell? ⟨b', off' + j, none⟩ = some u' := (hb.cell (World.block_lt_of_cell? w _ hd)).trans hd
          have hu2 : u' = .bool false := by
            cases hz : o[j]? with
            | none => simp [bls, hz] at hu'
            | some z => simp [bls, hz] at hu'; subst hu'; cases z <;> simp_all
          subst hu2
          clear ho1 hu' hu
          go_wp2
          refine wp_region_tail (C := fun w' => ∃ p : Regrown, w' = Go.Sort.grow (redrawn wr p.d) p.os) 6 (by kernel_rfl) (by kernel_rfl) (by kernel_rfl) (rg_draw wr) ?_
          simp only [List.take_succ_cons, List.take_zero, List.drop_succ_cons, List.drop_zero]
          repeat (first
            | go_big_quiet_skip
            | (go_big_quiet_want; first
              | (refine q_load_row _ _ rfl _ rfl _ _ _ _ c1 Try.underlying30 rfl (by kernel_rfl) ?_; go_big_quiet_on; simp only [Act.put, List.setIfInBounds_toArray, List.set_cons_succ, List.set_cons_zero])
                      | (refine q_index _ _ _ rfl 3 1 Try.underlying26 (by kernel_rfl) _ _ _ rfl _ _ rfl hjl ?_; go_big_quiet_on; simp only [Act.put, List.setIfInBounds_toArray, List.set_cons_succ, List.set_cons_zero, Nat.mul_one, Addr.add_lit])
                      | (refine q_load_cell _ _ rfl _ rfl _ hc' _ Try.underlying3 rfl ?_; go_big_quiet_on; simp only [Act.put, List.setIfInBounds_toArray, List.set_cons_succ, List.set_cons_zero])
                      | (refine q_call 20 _ _ rfl _ _ (enters_of Try.func20 rfl rfl) (fun w hw => plus_any _ x w hn1 hx64) rfl ?_; go_big_quiet_on; simp only [Act.put, List.setIfInBounds_toArray, List.set_cons_succ, List.set_cons_zero])
              | (go_big_quiet_op; go_big_quiet_on)))
          refine wpQuiet_nil ?_
          intro w' hq
          have hq := rg_below hq
          simp only [wide]
          have c1' := c1.below hq c1.lt
          (refine wpList_store_row rfl _ _ _ rfl (w.heap.size) _ rfl rfl _ _ c1' (by kernel_rfl) rfl (by simp [Value.oneCell']) ?_)
          go_wp2
          go_roundw
          case rel => exact ⟨j, by omega, by go_num, by rw [HT.out]; exact setRow_heap _ _ _ _ _ _ c1', below_setRow (hb.trans (hq.mono hb.size)) (Nat.le_refl _) _⟩
          case measure => simp [intOf] <;> omega
        · have hq4 : decide (j < o.length) = false := by simpa using hjm
          clear ho1 hu
          go_wp2
          refine wp_region_tail (C := fun w' => ∃ p : Regrown, w' = Go.Sort.grow (redrawn wr p.d) p.os) 6 (by kernel_rfl) (by kernel_rfl) (by kernel_rfl) (rg_draw wr) ?_
          simp only [List.take_succ_cons, List.take_zero, List.drop_succ_cons, List.drop_zero]
          repeat (first
            | go_big_quiet_skip
            | (go_big_quiet_want; first
              | (refine q_load_row _ _ rfl _ rfl _ _ _ _ c1 Try.underlying30 rfl (by kernel_rfl) ?_; go_big_quiet_on; simp only [Act.put, List.setIfInBounds_toArray, List.set_cons_succ, List.set_cons_zero])
                      | (refine q_index _ _ _ rfl 3 1 Try.underlying26 (by kernel_rfl) _ _ _ rfl _ _ rfl hjl ?_; go_big_quiet_on; simp only [Act.put, List.setIfInBounds_toArray, List.set_cons_succ, List.set_cons_zero, Nat.mul_one, Addr.add_lit])
                      | (refine q_load_cell _ _ rfl _ rfl _ hc' _ Try.underlying3 rfl ?_; go_big_quiet_on; simp only [Act.put, List.setIfInBounds_toArray, List.set_cons_succ, List.set_cons_zero])
                      | (refine q_call 20 _ _ rfl _ _ (enters_of Try.func20 rfl rfl) (fun w hw => plus_any _ x w hn1 hx64) rfl ?_; go_big_quiet_on; simp only [Act.put, List.setIfInBounds_toArray, List.set_cons_succ, List.set_cons_zero])
              | (go_big_quiet_op; go_big_quiet_on)))
          refine wpQuiet_nil ?_
          intro w' hq
          have hq := rg_below hq
          simp only [wide]
          have c1' := c1.below hq c1.lt
          (refine wpList_store_row rfl _ _ _ rfl (w.heap.size) _ rfl rfl _ _ c1' (by kernel_rfl) rfl (by simp [Value.oneCell']) ?_)
          go_wp2
          go_roundw
          case rel => exact ⟨j, by omega, by go_num, by rw [HT.out]; exact setRow_heap _ _ _ _ _ _ c1', below_setRow (hb.trans (hq.mono hb.size)) (Nat.le_refl _) _⟩
          case measure => simp [intOf] <;> omega

/-! What the laws come to, for all arguments -/
theorem sums3_law (A B C : Option Addr) (n m p c d f : Nat) (l : List Int) (o : List Bool) (q : List Int) (w : World) (hl : SV w (.slice A n c) (ints l)) (ho : SV w (.slice B m d) (bls o)) (hq : SV w (.slice C p f) (ints q))
    (hi : ∀ x ∈ l, in64 x) (hj : ∀ x ∈ q, in64 x) :
    Calls Try.prog 4 #[.slice A n c, .slice B m d, .slice C p f] w fun e w' => e = .returned (.bool true) ∧ Below w.heap.size w w' := by
  by_cases h1 : (60 : Int) < n
  · clear hl ho hq
    go_enter Try.func4, Try.ntmps4
    go_wp2_with (go_at_call 10; refine (live3_any _).mono ?_; rintro e w1 ⟨rfl, b1⟩)
    go_ret
    exact ⟨rfl, b1⟩
  · by_cases h2 : (60 : Int) < p
    · have q1 : decide ((60 : Int) < n) = false := by simpa using h1
      clear hl ho hq
      go_enter Try.func4, Try.ntmps4
      go_wp2_with (go_at_call 10; refine (live3_any _).mono ?_; rintro e w1 ⟨rfl, b1⟩)
      go_ret
      exact ⟨rfl, b1⟩
    · exact sums3_main A B C n m p c d f l o q w hl ho hq hi hj (by omega) (by omega)

theorem order_law (A B : Option Addr) (n m c d : Nat) (k : Int) (l : List Int) (o : List Bool) (w : World) (hl : SV w (.slice A n c) (ints l)) (ho : SV w (.slice B m d) (bls o)) (hi : ∀ x ∈ l, in64 x) :
    Calls Try.prog 5 #[.slice A n c, .slice B m d, .int .i64 k] w fun e w' => e = .returned (.bool true) ∧ Below w.heap.size w w' := by
  have hn := hl.bd.1
  rw [ints_len] at hn
  subst hn
  by_cases h1 : (60 : Int) < l.length
  · clear hl ho
    go_enter Try.func5, Try.ntmps5
    go_wp2_with (go_at_call 10; refine (live3_any _).mono ?_; rintro e w1 ⟨rfl, b1⟩)
    go_ret
    exact ⟨rfl, b1⟩
  · have q1 : decide ((60 : Int) < l.length) = false := by simpa using h1
    by_cases h2 : k < 0
    · clear hl ho
      go_enter Try.func5, Try.ntmps5
      go_wp2_with (go_at_call 10; refine (live3_any _).mono ?_; rintro e w1 ⟨rfl, b1⟩)
      go_ret
      exact ⟨rfl, b1⟩
    · have q2 : decide (k < 0) = false := by simpa using h2
      by_cases h3 : (l.length : Int) < k
      · clear hl ho
        go_enter Try.func5, Try.ntmps5
        go_wp2_with (go_at_call 10; refine (live3_any _).mono ?_; rintro e w1 ⟨rfl, b1⟩)
        go_ret
        exact ⟨rfl, b1⟩
      · obtain ⟨j, rfl⟩ := Int.eq_ofNat_of_zero_le (show 0 ≤ k by omega)
        exact order_main A B m c d j l o w hl ho hi (by omega) (by omega)
end Go.Proofs.Ytpgdmliofgejlaa
