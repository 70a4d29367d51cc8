/- Layer 6: the contract of the program's Put. -/
import Derived.Lib.AppendStr
import Derived.Test.YtelamhdnefnceaaSlot
import Derived.Test.YtelamhdnefnceaaCellPut
namespace Go.Proofs.Ytelamhdnefnceaa
set_option maxRecDepth 20000
open Go.RowKit Go.Sort

theorem Try.zinfo58 : (Try.prog.info? 58).map (fun i => (i.zero, i.size)) = some (some (.agg (ab z64)), 64) := by kernel_rfl

theorem iput_zero (A : Option Addr) (n m : Nat) (x : It) (w : World) (h0 : x.s = 0) :
    Calls Try.prog 42 #[iv (.slice A n m) x] w fun e w' => e = .returned (.agg (ab z64)) ∧ Below w.heap.size w w' := by
  obtain ⟨st, k, kd, d, lo, hi, v⟩ := x
  simp only at h0
  subst h0
  unfold iv
  have hz := (zero_of_info Try.zinfo58).1
  go_enter Try.func42, Try.ntmps42
  go_wp2_with (first
    | ((refine wpList_load_ab rfl _ (.tmp 3) rfl (w.heap.size + 1 + 1) rfl _ _ _ (z64) (z64_len) (Whole.third w _ _ _ _) Try.underlying58 (by kernel_rfl) ?_))
    | ((refine wpList_store_ab rfl _ (.tmp 2) (.tmp 13) rfl (w.heap.size + 1) rfl (z64) rfl _ _ (z64_len) (z64) (z64_len) ((Whole.second w _ _ _).later _) (by kernel_rfl) ?_); intro w1 p1 e1; have b1 := Lib.hid e1; clear e1))
  refine bodyPost_ret (v := .agg (ab z64)) ?_ rfl ⟨rfl, by rw [b1.out]; exact below_setRow ((two_more (Below.refl _ _) _ _).alloc (by simp; omega) _) (Nat.le_succ _) _⟩
  exact results_ab rfl _ _ (w.heap.size + 1) _ _ _ (z64) (z64_len) rfl (p1.out) Try.underlying58 (by kernel_rfl)

theorem iput_bad (A : Option Addr) (n m : Nat) (x : It) (w : World) (hD : SV w (.slice A n m) (bys x.c.d)) (hn : n ≤ 1000000) (hk : x.k.length ≤ 1000000) (h0 : x.s ≠ 0) (hg : goodI x = false) :
    Calls Try.prog 42 #[iv (.slice A n m) x] w fun e w' => e = .returned (.agg (ab z64)) ∧ Below w.heap.size w w' := by
  have CK := fun w' (hb : Below w.heap.size w w') => icheck_any A n m x w' (hD.keep (Keeps.below hb)) hn hk
  unfold ckI6 at CK
  rw [hg] at CK
  simp only [Bool.false_eq_true, if_false] at CK
  replace CK := Lib.hid CK
  have hs : (x.s == 0) = false := by simpa using h0
  clear hg h0 hD
  obtain ⟨st, k, kd, d, lo, hi, v⟩ := x
  simp only at hs
  unfold iv at CK ⊢
  have hz := (zero_of_info Try.zinfo58).1
  go_enter Try.func42, Try.ntmps42
  go_wp2_with (first
    | (refine wpList_load_row rfl _ _ rfl (w.heap.size) rfl _ _ _ _ (((Whole.made w _ _).later _).later _) Try.underlying37 rfl (by kernel_rfl) ?_)
    | (go_at_call 56; refine (CK.out _ ((two_more (Below.refl _ _) _ _).alloc (by simp; omega) _)).mono ?_; rintro e w1 ⟨rfl, b1⟩; have p2 := ((Whole.second w _ _ _).later _).on b1; have p3 := (Whole.third w _ _ _ _).on b1)
    | ((refine wpList_load_ab rfl _ (.tmp 3) rfl (w.heap.size + 1 + 1) rfl _ _ _ (z64) (z64_len) (p3) Try.underlying58 (by kernel_rfl) ?_))
    | ((refine wpList_store_ab rfl _ (.tmp 2) (.tmp 13) rfl (w.heap.size + 1) rfl (z64) rfl _ _ (z64_len) (z64) (z64_len) (p2) (by kernel_rfl) ?_); intro w2 p4 e1; have b2 := Lib.hid e1; clear e1))
  refine bodyPost_ret (v := .agg (ab z64)) ?_ rfl ⟨rfl, by rw [b2.out]; exact below_setRow (((two_more (Below.refl w.heap.size w) _ _).alloc (by simp; omega) _).trans (b1.mono (by simp; omega))) (Nat.le_succ _) _⟩
  exact results_ab rfl _ _ (w.heap.size + 1) _ _ _ (z64) (z64_len) rfl (p4.out) Try.underlying58 (by kernel_rfl)

theorem iput_good (A : Option Addr) (n m : Nat) (x : It) (w : World) (hD : SV w (.slice A n m) (bys x.c.d)) (hn : n ≤ 1000000) (hk : x.k.length ≤ 1000000) (h0 : x.s ≠ 0) (hg : goodI x = true) :
    Calls Try.prog 42 #[iv (.slice A n m) x] w fun e w' => e = .returned (.agg (ab (sbytes x))) ∧ Below w.heap.size w w' := by
  have CK := fun w' (hb : Below w.heap.size w w') => icheck_any A n m x w' (hD.keep (Keeps.below hb)) hn hk
  unfold ckI6 at CK
  rw [hg] at CK
  simp only [if_true] at CK
  replace CK := Lib.hid CK
  have hs : (x.s == 0) = false := by simpa using h0
  have hkl := (key_len (goodI_parts h0 hg).2.1).2
  have HB := Lib.hid (ibytes_yes h0 hg)
  have HL := Lib.hid (ibytes_len x)
  unfold sbytes
  generalize ibytes x = ib at *
  have HD := Lib.hid hD
  clear hg h0 hD hk
  obtain ⟨st, k, kd, d, lo, hi', v⟩ := x
  simp only at hs hkl HB HD
  unfold iv at CK ⊢
  have P1 := Lib.hid (fun w => own_put (.slice none 0 0) [] 1 st w (by simp) (SV.nil w) (by omega) (by omega))
  have P2 := Lib.hid (fun w v h => own_put v (beb 1 (ub st)) 1 k.length w (by simp) h (by omega) (by omega))
  have P3 := Lib.hid (fun w' u (hb : Below w.heap.size w w') h => cput_any u (beb 1 (ub st) ++ beb 1 (ub k.length) ++ k) A n m ⟨kd, d, lo, hi', v⟩ w' h (by simp; omega) (HD.out.keep (Keeps.below hb)) hn)
  have hz := (zero_of_info Try.zinfo58).1
  go_enter Try.func42, Try.ntmps42
  go_wp2_with (refine wpList_load_row rfl _ _ rfl (w.heap.size) rfl _ _ _ _ (((Whole.made w _ _).later _).later _) Try.underlying37 rfl (by kernel_rfl) ?_)
  refine (CK.out _ ((two_more (Below.refl _ _) _ _).alloc (by simp; omega) _)).mono ?_
  rintro e w1 ⟨rfl, b1⟩
  have p1 := (((Whole.made w _ _).later _).later _).on b1
  have p2 := ((Whole.second w _ _ _).later _).on b1
  have p3 := (Whole.third w _ _ _ _).on b1
  have B1 := Lib.hid (((two_more (Below.refl w.heap.size w) _ _).alloc (by simp; omega) _).trans (b1.mono (by simp; omega)))
  have q0 := p1.cell 0
  have q1 := p1.cell 1
  simp at q0 q1
  clear b1
  go_wp2_with fail
  refine (P1.out _).mono ?_
  rintro e w2 ⟨v2, rfl, o2, b2⟩
  rw [List.nil_append] at o2
  have S2 := Lib.hid o2.sv
  have B2 := Lib.hid (B1.out.trans (b2.mono B1.out.size))
  replace p1 := p1.on b2
  replace p2 := p2.on b2
  replace p3 := p3.on b2
  replace q1 := p1.cell 1
  simp at q1
  clear b2 o2 q0
  go_wp2_with fail
  refine (P2.out _ _ S2.out).mono ?_
  rintro e w3 ⟨v3, rfl, o3, b3⟩
  have O3 := Lib.hid o3
  have Z3 := Lib.hid b3.size
  have B3 := Lib.hid (B2.out.trans (b3.mono B2.out.size))
  have L2 := Lib.hid p3.lt
  replace p1 := p1.on b3
  replace p2 := p2.on b3
  replace p3 := p3.on b3
  replace q1 := p1.cell 1
  simp at q1
  clear b3 o3
  obtain ⟨i0, hi, hz0, hz1, hz2⟩ := info_parts Try.info5
  go_wp2_with ((at_builtin; refine wpList_apps rfl (.tmp 22) (.tmp 24) 26 9 rfl (w2.heap.size) 5 i0 Try.underlying26 Try.underlying9 hi hz0 hz1 hz2 (v3) (beb 1 (ub st) ++ beb 1 (ub k.length)) (k) rfl rfl (O3.out) (by simp; omega) (Z3.out) ?_); intro v4 w4 O4 B4)
  have l2 := L2.out
  replace p1 := p1.below B4.out (by omega)
  replace p2 := p2.below B4.out (by omega)
  replace p3 := p3.below B4.out (by omega)
  have S4 := Lib.hid O4.out.sv
  have B4' := Lib.hid (B3.out.trans (B4.out.mono B2.out.size))
  clear q1
  unfold cv at P3
  have hl1 := Lib.hid (show pad ib = ib ++ z64.drop ib.length by unfold pad z64; rw [List.drop_replicate])
  have hlb : ib.length ≤ 64 := by have := HL.out; omega
  refine wp_region_facts 6 [5] [30, 31] (by kernel_rfl) (by kernel_rfl) (by kernel_rfl) (fill_draw p3 (pad ib)) ?_
  simp only [List.take_succ_cons, List.take_zero, List.drop_succ_cons, List.drop_zero, List.zipIdx_cons, List.zipIdx_nil, Nat.zero_add, Nat.reduceAdd]
  repeat (first
    | (refine f_skip (fun V => by rfl) ?_; simp only [Act.put, List.setIfInBounds_toArray, List.set_cons_succ, List.set_cons_zero])
      | (refine f_load_mid (by first | exact cls_free _ | exact cls_row _ _ _ _ | exact cls_fill _ _ _ _ _) (fun V => by rfl) 35 _ rfl _ _ (fun V => by rfl) [.int .i64 kd, .slice A n m, .int .i64 lo, .int .i64 hi', .int .i64 v] _ (fun w hb => (p1.but hb.1 (by omega)).mid 2 5 rfl) Try.underlying35 rfl (by kernel_rfl) ?_; simp only [Act.put, List.setIfInBounds_toArray, List.set_cons_succ, List.set_cons_zero])
    | (refine f_callF (by first | exact cls_free _ | exact cls_row _ _ _ _ | exact cls_fill _ _ _ _ _) (fSV (bys ib)) (stays_sv _) (fun V => by rfl) (by decide) 57 _ _ rfl (enters_of Try.func57 rfl rfl) _ (fun V w hb hk => (P3.out w v4 (But.below B4'.out hb.1 (by omega) B4'.out.size) (O4.out.but hb.1 l2).sv).mono fun e w' ⟨v, h1, h2, h3⟩ => ⟨v, h1, by have := h2.sv; rwa [← HB.out] at this, h3⟩) (fun V => by rfl) ?_; simp only [Act.put, List.setIfInBounds_toArray, List.set_cons_succ, List.set_cons_zero, keyOf, Option.getD_some])
    | (refine f_copy (fun V => by rfl) (by decide) (by decide) (.tmp 26) (.tmp 30) 26 26 rfl 5 Try.underlying26 (by kernel_rfl) _ (fun V => by rfl) _ (fun V => by rfl) (ib) (z64_len) (hlb) (hl1.out) (fun V w hb hk => hk.slot 30 rfl rfl) ?_; simp only [Act.put, List.setIfInBounds_toArray, List.set_cons_succ, List.set_cons_zero, keyOf, Option.getD_some])
    | (refine f_quiet (by first | exact cls_free _ | exact cls_row _ _ _ _ | exact cls_fill _ _ _ _ _) (fun V => by rfl) (fun V => ⟨_, rfl, by simp⟩) ?_; apply Exists.intro; refine And.intro (fun V w hw K hK => ?_) ?_; ((try simp only [Act.put, List.setIfInBounds_toArray, List.set_cons_succ, List.set_cons_zero] at hK); go_big_quiet_op; exact hK); simp only [Act.put, List.setIfInBounds_toArray, List.set_cons_succ, List.set_cons_zero]))
  refine f_nil ?_
  intro V w5 hq hkn
  have hwr := all_slot hkn 31 rfl
  simp only at hwr
  have p5 := p2.but hq.1 (by omega)
  have hpl : (pad ib).length = 64 := pad_len hlb
  have B5 := Lib.hid (But.below B4'.out hq.1 (by omega) B4'.out.size)
  generalize hout : pad ib = out at *
  have HO := Lib.hid hout
  clear hkn hq hl1 hout
  go_wp2_with (first
    | ((refine wpList_load_ab rfl _ (.tmp 3) rfl (w.heap.size + 1 + 1) rfl _ _ _ (out) (hpl) (hwr) Try.underlying58 (by kernel_rfl) ?_))
    | ((refine wpList_store_ab rfl _ (.tmp 2) (.tmp 32) rfl (w.heap.size + 1) rfl (out) rfl _ _ (hpl) (z64) (z64_len) (p5) (by kernel_rfl) ?_); intro w6 p6 e6; have b6 := Lib.hid e6; clear e6))
  refine bodyPost_ret (v := .agg (ab out)) ?_ rfl ⟨by rw [HO.out], by rw [b6.out]; exact below_setRow B5.out (Nat.le_succ _) _⟩
  exact results_ab rfl _ _ (w.heap.size + 1) _ _ _ (out) (hpl) rfl (p6.out) Try.underlying58 (by kernel_rfl)

theorem iput_any (A : Option Addr) (n m : Nat) (x : It) (w : World) (hD : SV w (.slice A n m) (bys x.c.d)) (hn : n ≤ 1000000) (hk : x.k.length ≤ 1000000) :
    Calls Try.prog 42 #[iv (.slice A n m) x] w fun e w' => e = .returned (.agg (ab (sbytes x))) ∧ Below w.heap.size w w' := by
  by_cases h0 : x.s = 0
  · rw [sbytes_no (.inl h0)]; exact iput_zero A n m x w h0
  · cases hg : goodI x
    · rw [sbytes_no (.inr hg)]; exact iput_bad A n m x w hD hn hk h0 hg
    · exact iput_good A n m x w hD hn hk h0 hg
end Go.Proofs.Ytelamhdnefnceaa
