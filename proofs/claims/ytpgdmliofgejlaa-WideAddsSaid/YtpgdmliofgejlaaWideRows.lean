/- Layer 3: rows of numbers, some of them taken off: the program's sum and the reference's All. -/
import Derived.Test.YtpgdmliofgejlaaWide
import Derived.Test.YtpgdmliofgejlaaWideRef
namespace Go.Proofs.Ytpgdmliofgejlaa
open Go.RowKit

def ints (l : List Int) : List Value := l.map (Value.int .i64)
def bls (l : List Bool) : List Value := l.map Value.bool
@[simp] theorem ints_len (l : List Int) : (ints l).length = l.length := by simp [ints]
@[simp] theorem bls_len (l : List Bool) : (bls l).length = l.length := by simp [bls]

theorem all_any (A B : Option Addr) (n m c d : Nat) (l : List Int) (o : List Bool) (w : World) (hl : SV w (.slice A n c) (ints l)) (ho : SV w (.slice B m d) (bls o)) (hi : ∀ x ∈ l, in64 x) (hn : n ≤ 60) :
    Calls Try.prog 12 #[.slice A n c, .slice B m d] w fun e w' => e = .returned (num (tot l o)) ∧ Below w.heap.size w w' := by
  obtain ⟨l1, l2, l3⟩ := hl.bd
  obtain ⟨o1, o2, o3⟩ := ho.bd
  simp only [ints_len, bls_len] at l1 o1
  subst l1 o1
  go_enter Try.func12, Try.ntmps12
  go_wp2
  go_loopw [6] (fun i wr => ∃ k : Nat, k ≤ l.length ∧ i = .int .i64 k ∧ Whole wr (w.heap.size + 1) 33 #[.int .i64 (upto l o k / 4294967296), .int .i64 (upto l o k % 4294967296)] ∧ Whole wr w.heap.size 33 #[.int .i64 0, .int .i64 0] ∧ Below w.heap.size w wr) (fun i _ => l.length - (intOf i).toNat)
  case atStart => exact ⟨0, by omega, rfl, Whole.second _ _ _ _, (Whole.made _ _ _).later _, ((Below.refl _ _).alloc (Nat.le_refl _) _).alloc (by simp) _⟩
  case round =>
    obtain ⟨k, hk, rfl, c1, c0, hb⟩ := hrel
    by_cases hlt : k < l.length
    · obtain ⟨b, off, u, rfl, hu, hc⟩ := hl.at hlt
      have hc' : wr.cell? ⟨b, off + k, none⟩ = some u := (hb.cell (World.block_lt_of_cell? w _ hc)).trans hc
      obtain ⟨x, hx⟩ : ∃ x, l[k]? = some x := ⟨_, List.getElem?_eq_getElem (by omega)⟩
      have hux : u = .int .i64 x := by simp [ints, hx] at hu; exact hu.symm
      subst hux
      have hx64 := hi x (List.mem_of_getElem? hx)
      have hub := upto_bd l o hi k
      have hn1 : inNum (upto l o k) := by unfold inNum; omega
      have hn2 : inNum x := inNum64 hx64
      have HX := Lib.hid hx
      clear hx hub
      by_cases ho1 : o[k]? = some true
      · have hkm : k < o.length := by have := (List.getElem?_eq_some_iff.1 ho1).1; omega
        obtain ⟨b', off', u', rfl, hu', hd⟩ := ho.at hkm
        have hd' : wr.cell? ⟨b', off' + k, none⟩ = some u' := (hb.cell (World.block_lt_of_cell? w _ hd)).trans hd
        have hu2 : u' = .bool true := by simp [bls, ho1] at hu'; exact hu'.symm
        subst hu2
        have HT : Hid (upto l o (k + 1) = upto l o k - x) := Lib.hid (by simp [upto, term, ho1, HX.out]; omega)
        have HO := Lib.hid ho1
        clear ho1 hu' hu
        go_wp2
        refine wp_region_tail (C := fun w' => ∃ p : Regrown, w' = Go.Sort.grow (redrawn wr p.d) p.os) 7 (by kernel_rfl) (by kernel_rfl) (by kernel_rfl) (rg_draw wr) ?_
        simp only [List.take_succ_cons, List.take_zero, List.drop_succ_cons, List.drop_zero]
        repeat (first
          | go_big_quiet_skip
          | (go_big_quiet_want; first
            | (refine q_load_row _ _ rfl _ rfl _ _ _ _ c1 Try.underlying33 rfl (by kernel_rfl) ?_; go_big_quiet_on; simp only [Act.put, List.setIfInBounds_toArray, List.set_cons_succ, List.set_cons_zero])
                  | (refine q_index _ _ _ rfl 3 1 Try.underlying26 (by kernel_rfl) _ _ _ rfl _ _ rfl hlt ?_; go_big_quiet_on; simp only [Act.put, List.setIfInBounds_toArray, List.set_cons_succ, List.set_cons_zero, Nat.mul_one, Addr.add_lit])
            | (refine q_load_cell _ _ rfl _ rfl _ hc' _ Try.underlying3 rfl ?_; go_big_quiet_on; simp only [Act.put, List.setIfInBounds_toArray, List.set_cons_succ, List.set_cons_zero])
                  | (refine q_call 23 _ _ rfl _ _ (enters_of Try.func23 rfl rfl) (fun w hw => refOf_any x w hx64) rfl ?_; go_big_quiet_on; simp only [Act.put, List.setIfInBounds_toArray, List.set_cons_succ, List.set_cons_zero])
                  | (refine q_call 24 _ _ rfl _ _ (enters_of Try.func24 rfl rfl) (fun w hw => refTake_any (upto l o k) x w hn1 hn2) rfl ?_; go_big_quiet_on; simp only [Act.put, List.setIfInBounds_toArray, List.set_cons_succ, List.set_cons_zero])
            | (go_big_quiet_op; go_big_quiet_on)))
        refine wpQuiet_nil ?_
        intro w' hq
        have hq := rg_below hq
        simp only [num]
        have c1' := c1.below hq c1.lt
        (refine wpList_store_row rfl _ _ _ rfl (w.heap.size + 1) _ rfl rfl _ _ c1' (by kernel_rfl) rfl (by simp [Value.oneCell']) ?_)
        go_wp2
        go_roundw
        case rel => exact ⟨k + 1, by omega, by go_num, by rw [HT.out]; exact setRow_heap _ _ _ _ _ _ c1', (setRow_other _ _ _ _ (by omega)).trans (c0.below hq c0.lt), below_setRow (hb.trans (hq.mono hb.size)) (Nat.le_succ _) _⟩
        case measure => simp [intOf]; omega
      · have HT : Hid (upto l o (k + 1) = upto l o k + x) := Lib.hid (by simp [upto, term, ho1, HX.out])
        by_cases hkm : k < o.length
        · obtain ⟨b', off', u', rfl, hu', hd⟩ := ho.at hkm
          have hd' : wr.cell? ⟨b', off' + k, none⟩ = some u' := (hb.cell (World.block_lt_of_cell? w _ hd)).trans hd
          have hu2 : u' = .bool false := by
            cases hz : o[k]? with
            | none => simp [bls, hz] at hu'
            | some z => simp [bls, hz] at hu'; subst hu'; cases z <;> simp_all
          subst hu2
          clear ho1 hu' hu
          go_wp2
          refine wp_region_tail (C := fun w' => ∃ p : Regrown, w' = Go.Sort.grow (redrawn wr p.d) p.os) 7 (by kernel_rfl) (by kernel_rfl) (by kernel_rfl) (rg_draw wr) ?_
          simp only [List.take_succ_cons, List.take_zero, List.drop_succ_cons, List.drop_zero]
          repeat (first
            | go_big_quiet_skip
            | (go_big_quiet_want; first
              | (refine q_load_row _ _ rfl _ rfl _ _ _ _ c1 Try.underlying33 rfl (by kernel_rfl) ?_; go_big_quiet_on; simp only [Act.put, List.setIfInBounds_toArray, List.set_cons_succ, List.set_cons_zero])
                      | (refine q_index _ _ _ rfl 3 1 Try.underlying26 (by kernel_rfl) _ _ _ rfl _ _ rfl hlt ?_; go_big_quiet_on; simp only [Act.put, List.setIfInBounds_toArray, List.set_cons_succ, List.set_cons_zero, Nat.mul_one, Addr.add_lit])
              | (refine q_load_cell _ _ rfl _ rfl _ hc' _ Try.underlying3 rfl ?_; go_big_quiet_on; simp only [Act.put, List.setIfInBounds_toArray, List.set_cons_succ, List.set_cons_zero])
                      | (refine q_call 23 _ _ rfl _ _ (enters_of Try.func23 rfl rfl) (fun w hw => refOf_any x w hx64) rfl ?_; go_big_quiet_on; simp only [Act.put, List.setIfInBounds_toArray, List.set_cons_succ, List.set_cons_zero])
                      | (refine q_call 16 _ _ rfl _ _ (enters_of Try.func16 rfl rfl) (fun w hw => refJoin_any (upto l o k) x w hn1 hn2) rfl ?_; go_big_quiet_on; simp only [Act.put, List.setIfInBounds_toArray, List.set_cons_succ, List.set_cons_zero])
              | (go_big_quiet_op; go_big_quiet_on)))
          refine wpQuiet_nil ?_
          intro w' hq
          have hq := rg_below hq
          simp only [num]
          have c1' := c1.below hq c1.lt
          (refine wpList_store_row rfl _ _ _ rfl (w.heap.size + 1) _ rfl rfl _ _ c1' (by kernel_rfl) rfl (by simp [Value.oneCell']) ?_)
          go_wp2
          go_roundw
          case rel => exact ⟨k + 1, by omega, by go_num, by rw [HT.out]; exact setRow_heap _ _ _ _ _ _ c1', (setRow_other _ _ _ _ (by omega)).trans (c0.below hq c0.lt), below_setRow (hb.trans (hq.mono hb.size)) (Nat.le_succ _) _⟩
          case measure => simp [intOf]; omega
        · have hq : decide (k < o.length) = false := by simpa using hkm
          clear ho1 hu
          go_wp2
          refine wp_region_tail (C := fun w' => ∃ p : Regrown, w' = Go.Sort.grow (redrawn wr p.d) p.os) 7 (by kernel_rfl) (by kernel_rfl) (by kernel_rfl) (rg_draw wr) ?_
          simp only [List.take_succ_cons, List.take_zero, List.drop_succ_cons, List.drop_zero]
          repeat (first
            | go_big_quiet_skip
            | (go_big_quiet_want; first
              | (refine q_load_row _ _ rfl _ rfl _ _ _ _ c1 Try.underlying33 rfl (by kernel_rfl) ?_; go_big_quiet_on; simp only [Act.put, List.setIfInBounds_toArray, List.set_cons_succ, List.set_cons_zero])
                      | (refine q_index _ _ _ rfl 3 1 Try.underlying26 (by kernel_rfl) _ _ _ rfl _ _ rfl hlt ?_; go_big_quiet_on; simp only [Act.put, List.setIfInBounds_toArray, List.set_cons_succ, List.set_cons_zero, Nat.mul_one, Addr.add_lit])
              | (refine q_load_cell _ _ rfl _ rfl _ hc' _ Try.underlying3 rfl ?_; go_big_quiet_on; simp only [Act.put, List.setIfInBounds_toArray, List.set_cons_succ, List.set_cons_zero])
                      | (refine q_call 23 _ _ rfl _ _ (enters_of Try.func23 rfl rfl) (fun w hw => refOf_any x w hx64) rfl ?_; go_big_quiet_on; simp only [Act.put, List.setIfInBounds_toArray, List.set_cons_succ, List.set_cons_zero])
                      | (refine q_call 16 _ _ rfl _ _ (enters_of Try.func16 rfl rfl) (fun w hw => refJoin_any (upto l o k) x w hn1 hn2) rfl ?_; go_big_quiet_on; simp only [Act.put, List.setIfInBounds_toArray, List.set_cons_succ, List.set_cons_zero])
              | (go_big_quiet_op; go_big_quiet_on)))
          refine wpQuiet_nil ?_
          intro w' hq
          have hq := rg_below hq
          simp only [num]
          have c1' := c1.below hq c1.lt
          (refine wpList_store_row rfl _ _ _ rfl (w.heap.size + 1) _ rfl rfl _ _ c1' (by kernel_rfl) rfl (by simp [Value.oneCell']) ?_)
          go_wp2
          go_roundw
          case rel => exact ⟨k + 1, by omega, by go_num, by rw [HT.out]; exact setRow_heap _ _ _ _ _ _ c1', (setRow_other _ _ _ _ (by omega)).trans (c0.below hq c0.lt), below_setRow (hb.trans (hq.mono hb.size)) (Nat.le_succ _) _⟩
          case measure => simp [intOf]; omega
    · have hk' : k = l.length := by omega
      have e : upto l o k = tot l o := by unfold tot; rw [← hk']
      have E := Lib.hid e
      clear e hk'
      have hq : decide (k < l.length) = false := by simpa using hlt
      go_wp2_with (first
        | (refine wpList_load_row rfl _ _ rfl (w.heap.size + 1) rfl _ _ _ _ c1 Try.underlying33 rfl (by kernel_rfl) ?_)
        | (refine wpList_store_row rfl _ _ _ rfl (w.heap.size) _ rfl rfl _ _ c0 (by kernel_rfl) rfl (by simp [Value.oneCell']) ?_))
      refine bodyPost_ret (v := num (tot l o)) ?_ rfl ⟨rfl, below_setRow hb (Nat.le_refl _) _⟩
      rw [← E.out]
      exact results_cell_row rfl _ _ (w.heap.size) _ _ (0, 0) _ rfl (setRow_heap _ _ _ _ _ _ c0) Try.underlying33 rfl (by kernel_rfl)
theorem sum_any (A B : Option Addr) (n m c d : Nat) (l : List Int) (o : List Bool) (w : World) (hl : SV w (.slice A n c) (ints l)) (ho : SV w (.slice B m d) (bls o)) (hi : ∀ x ∈ l, in64 x) (hn : n ≤ 60) :
    Calls Try.prog 11 #[.slice A n c, .slice B m d] w fun e w' => e = .returned (wide (tot l o)) ∧ Below w.heap.size w w' := by
  obtain ⟨l1, l2, l3⟩ := hl.bd
  obtain ⟨o1, o2, o3⟩ := ho.bd
  simp only [ints_len, bls_len] at l1 o1
  subst l1 o1
  go_enter Try.func11, Try.ntmps11
  go_wp2_with (first
    | (go_at_call 22; refine (of_any 0 _ (by unfold in64; omega)).mono ?_; simp only [wide]; rintro e w1 ⟨rfl, b1⟩; have d0 := (Whole.made _ _ _).below b1 (by simp))
    | (refine wpList_store_row rfl _ _ _ rfl (w1.heap.size) _ rfl rfl _ _ Whole.made _ _ _ (by kernel_rfl) rfl (by simp [Value.oneCell']) ?_))
  have hz : w.heap.size + 1 ≤ w1.heap.size := by have := b1.size; simpa using this
  have b01 : Below w.heap.size w w1 := ((Below.refl _ _).alloc (Nat.le_refl _) _).trans (b1.mono (by simp))
  clear b1
  go_loopw [6] (fun i wr => ∃ k : Nat, k ≤ l.length ∧ i = .int .i64 k ∧ Whole wr w1.heap.size 30 #[.int .i64 (hiW (upto l o k)), .int .u64 (loN (upto l o k) : Int)] ∧ Whole wr w.heap.size 30 #[.int .i64 0, .int .u64 0] ∧ Below w.heap.size w wr) (fun i _ => l.length - (intOf i).toNat)
  case atStart => exact ⟨0, by omega, rfl, Whole.made _ _ _, d0.later _, b01.alloc b01.size _⟩
  case round =>
    obtain ⟨k, hk, rfl, c1, c0, hb⟩ := hrel
    by_cases hlt : k < l.length
    · obtain ⟨b, off, u, rfl, hu, hc⟩ := hl.at hlt
      have hc' : wr.cell? ⟨b, off + k, none⟩ = some u := (hb.cell (World.block_lt_of_cell? w _ hc)).trans hc
      obtain ⟨x, hx⟩ : ∃ x, l[k]? = some x := ⟨_, List.getElem?_eq_getElem (by omega)⟩
      have hux : u = .int .i64 x := by simp [ints, hx] at hu; exact hu.symm
      subst hux
      have hx64 := hi x (List.mem_of_getElem? hx)
      have hub := upto_bd l o hi k
      have hn1 : inSum (upto l o k) := by unfold inSum; omega
      have HX := Lib.hid hx
      clear hx hub
      by_cases ho1 : o[k]? = some true
      · have hkm : k < o.length := by have := (List.getElem?_eq_some_iff.1 ho1).1; omega
        obtain ⟨b', off', u', rfl, hu', hd⟩ := ho.at hkm
        have hd' : wr.cell? ⟨b', off' + k, none⟩ = some u' := (hb.cell (World.block_lt_of_cell? w _ hd)).trans hd
        have hu2 : u' = .bool true := by simp [bls, ho1] at hu'; exact hu'.symm
        subst hu2
        have HT : Hid (upto l o (k + 1) = upto l o k - x) := Lib.hid (by simp [upto, term, ho1, HX.out]; omega)
        have HO := Lib.hid ho1
        clear ho1 hu' hu
        go_wp2
        refine wp_region_tail (C := fun w' => ∃ p : Regrown, w' = Go.Sort.grow (redrawn wr p.d) p.os) 6 (by kernel_rfl) (by kernel_rfl) (by kernel_rfl) (rg_draw wr) ?_
        simp only [List.take_succ_cons, List.take_zero, List.drop_succ_cons, List.drop_zero]
        repeat (first
          | go_big_quiet_skip
          | (go_big_quiet_want; first
            | (refine q_load_row _ _ rfl _ rfl _ _ _ _ c1 Try.underlying30 rfl (by kernel_rfl) ?_; go_big_quiet_on; simp only [Act.put, List.setIfInBounds_toArray, List.set_cons_succ, List.set_cons_zero])
                  | (refine q_index _ _ _ rfl 3 1 Try.underlying26 (by kernel_rfl) _ _ _ rfl _ _ rfl hlt ?_; go_big_quiet_on; simp only [Act.put, List.setIfInBounds_toArray, List.set_cons_succ, List.set_cons_zero, Nat.mul_one, Addr.add_lit])
            | (refine q_load_cell _ _ rfl _ rfl _ hc' _ Try.underlying3 rfl ?_; go_big_quiet_on; simp only [Act.put, List.setIfInBounds_toArray, List.set_cons_succ, List.set_cons_zero])
                  | (refine q_call 19 _ _ rfl _ _ (enters_of Try.func19 rfl rfl) (fun w hw => minus_any (upto l o k) x w hn1 hx64) rfl ?_; go_big_quiet_on; simp only [Act.put, List.setIfInBounds_toArray, List.set_cons_succ, List.set_cons_zero])
            | (go_big_quiet_op; go_big_quiet_on)))
        refine wpQuiet_nil ?_
        intro w' hq
        have hq := rg_below hq
        simp only [wide]
        have c1' := c1.below hq c1.lt
        (refine wpList_store_row rfl _ _ _ rfl (w1.heap.size) _ rfl rfl _ _ c1' (by kernel_rfl) rfl (by simp [Value.oneCell']) ?_)
        go_wp2
        go_roundw
        case rel => exact ⟨k + 1, by omega, by go_num, by rw [HT.out]; exact setRow_heap _ _ _ _ _ _ c1', (setRow_other _ _ _ _ (by omega)).trans (c0.below hq c0.lt), below_setRow (hb.trans (hq.mono hb.size)) (by omega) _⟩
        case measure => simp [intOf]; omega
      · have HT : Hid (upto l o (k + 1) = upto l o k + x) := Lib.hid (by simp [upto, term, ho1, HX.out])
        by_cases hkm : k < o.length
        · obtain ⟨b', off', u', rfl, hu', hd⟩ := ho.at hkm
          have hd' : wr.cell? ⟨b', off' + k, none⟩ = some u' := (hb.cell (World.block_lt_of_cell? w _ hd)).trans hd
          have hu2 : u' = .bool false := by
            cases hz : o[k]? with
            | none => simp [bls, hz] at hu'
            | some z => simp [bls, hz] at hu'; subst hu'; cases z <;> simp_all
          subst hu2
          clear ho1 hu' hu
          go_wp2
          refine wp_region_tail (C := fun w' => ∃ p : Regrown, w' = Go.Sort.grow (redrawn wr p.d) p.os) 6 (by kernel_rfl) (by kernel_rfl) (by kernel_rfl) (rg_draw wr) ?_
          simp only [List.take_succ_cons, List.take_zero, List.drop_succ_cons, List.drop_zero]
          repeat (first
            | go_big_quiet_skip
            | (go_big_quiet_want; first
              | (refine q_load_row _ _ rfl _ rfl _ _ _ _ c1 Try.underlying30 rfl (by kernel_rfl) ?_; go_big_quiet_on; simp only [Act.put, List.setIfInBounds_toArray, List.set_cons_succ, List.set_cons_zero])
                      | (refine q_index _ _ _ rfl 3 1 Try.underlying26 (by kernel_rfl) _ _ _ rfl _ _ rfl hlt ?_; go_big_quiet_on; simp only [Act.put, List.setIfInBounds_toArray, List.set_cons_succ, List.set_cons_zero, Nat.mul_one, Addr.add_lit])
              | (refine q_load_cell _ _ rfl _ rfl _ hc' _ Try.underlying3 rfl ?_; go_big_quiet_on; simp only [Act.put, List.setIfInBounds_toArray, List.set_cons_succ, List.set_cons_zero])
                      | (refine q_call 20 _ _ rfl _ _ (enters_of Try.func20 rfl rfl) (fun w hw => plus_any (upto l o k) x w hn1 hx64) rfl ?_; go_big_quiet_on; simp only [Act.put, List.setIfInBounds_toArray, List.set_cons_succ, List.set_cons_zero])
              | (go_big_quiet_op; go_big_quiet_on)))
          refine wpQuiet_nil ?_
          intro w' hq
          have hq := rg_below hq
          simp only [wide]
          have c1' := c1.below hq c1.lt
          (refine wpList_store_row rfl _ _ _ rfl (w1.heap.size) _ rfl rfl _ _ c1' (by kernel_rfl) rfl (by simp [Value.oneCell']) ?_)
          go_wp2
          go_roundw
          case rel => exact ⟨k + 1, by omega, by go_num, by rw [HT.out]; exact setRow_heap _ _ _ _ _ _ c1', (setRow_other _ _ _ _ (by omega)).trans (c0.below hq c0.lt), below_setRow (hb.trans (hq.mono hb.size)) (by omega) _⟩
          case measure => simp [intOf]; omega
        · have hq : decide (k < o.length) = false := by simpa using hkm
          clear ho1 hu
          go_wp2
          refine wp_region_tail (C := fun w' => ∃ p : Regrown, w' = Go.Sort.grow (redrawn wr p.d) p.os) 6 (by kernel_rfl) (by kernel_rfl) (by kernel_rfl) (rg_draw wr) ?_
          simp only [List.take_succ_cons, List.take_zero, List.drop_succ_cons, List.drop_zero]
          repeat (first
            | go_big_quiet_skip
            | (go_big_quiet_want; first
              | (refine q_load_row _ _ rfl _ rfl _ _ _ _ c1 Try.underlying30 rfl (by kernel_rfl) ?_; go_big_quiet_on; simp only [Act.put, List.setIfInBounds_toArray, List.set_cons_succ, List.set_cons_zero])
                      | (refine q_index _ _ _ rfl 3 1 Try.underlying26 (by kernel_rfl) _ _ _ rfl _ _ rfl hlt ?_; go_big_quiet_on; simp only [Act.put, List.setIfInBounds_toArray, List.set_cons_succ, List.set_cons_zero, Nat.mul_one, Addr.add_lit])
              | (refine q_load_cell _ _ rfl _ rfl _ hc' _ Try.underlying3 rfl ?_; go_big_quiet_on; simp only [Act.put, List.setIfInBounds_toArray, List.set_cons_succ, List.set_cons_zero])
                      | (refine q_call 20 _ _ rfl _ _ (enters_of Try.func20 rfl rfl) (fun w hw => plus_any (upto l o k) x w hn1 hx64) rfl ?_; go_big_quiet_on; simp only [Act.put, List.setIfInBounds_toArray, List.set_cons_succ, List.set_cons_zero])
              | (go_big_quiet_op; go_big_quiet_on)))
          refine wpQuiet_nil ?_
          intro w' hq
          have hq := rg_below hq
          simp only [wide]
          have c1' := c1.below hq c1.lt
          (refine wpList_store_row rfl _ _ _ rfl (w1.heap.size) _ rfl rfl _ _ c1' (by kernel_rfl) rfl (by simp [Value.oneCell']) ?_)
          go_wp2
          go_roundw
          case rel => exact ⟨k + 1, by omega, by go_num, by rw [HT.out]; exact setRow_heap _ _ _ _ _ _ c1', (setRow_other _ _ _ _ (by omega)).trans (c0.below hq c0.lt), below_setRow (hb.trans (hq.mono hb.size)) (by omega) _⟩
          case measure => simp [intOf]; omega
    · have hk' : k = l.length := by omega
      have e : upto l o k = tot l o := by unfold tot; rw [← hk']
      have E := Lib.hid e
      clear e hk'
      have hq : decide (k < l.length) = false := by simpa using hlt
      go_wp2_with (first
        | (refine wpList_load_row rfl _ _ rfl (w1.heap.size) rfl _ _ _ _ c1 Try.underlying30 rfl (by kernel_rfl) ?_)
        | (refine wpList_store_row rfl _ _ _ rfl (w.heap.size) _ rfl rfl _ _ c0 (by kernel_rfl) rfl (by simp [Value.oneCell']) ?_))
      refine bodyPost_ret (v := wide (tot l o)) ?_ rfl ⟨rfl, below_setRow hb (Nat.le_refl _) _⟩
      rw [← E.out]
      exact results_cell_row rfl _ _ (w.heap.size) _ _ (0, 0) _ rfl (setRow_heap _ _ _ _ _ _ c0) Try.underlying30 rfl (by kernel_rfl)
end Go.Proofs.Ytpgdmliofgejlaa
