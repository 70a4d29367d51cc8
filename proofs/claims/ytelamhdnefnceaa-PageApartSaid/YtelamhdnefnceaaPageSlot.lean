/- Layer 7: contracts of the program's slots of a page, and of Seal. -/
import Derived.Test.YtelamhdnefnceaaPage
namespace Go.Proofs.Ytelamhdnefnceaa
set_option maxRecDepth 20000
open Go.RowKit Go.Sort

theorem isSlot_yes (k : Nat) (w : World) (h : k < 7) : Calls Try.prog 38 #[.int .i64 k] w fun e w' => e = .returned (.bool true) ∧ w = w' := by
  go_enter Try.func38, Try.ntmps38
  go_wp2
  go_ret
  exact ⟨ret_bool (by simp; omega), rfl⟩
theorem isSlot_no (i : Int) (w : World) (h : i < 0 ∨ 6 < i) : Calls Try.prog 38 #[.int .i64 i] w fun e w' => e = .returned (.bool false) ∧ w = w' := by
  by_cases h1 : i < 0
  · have h2 : ¬ (0 ≤ i) := by omega
    go_enter Try.func38, Try.ntmps38
    go_wp2
    go_ret
    exact ⟨rfl, rfl⟩
  · have h2 : 0 ≤ i := by omega
    have h3 : ¬ (i < 7) := by omega
    clear h h1
    go_enter Try.func38, Try.ntmps38
    go_wp2
    go_ret
    exact ⟨rfl, rfl⟩
theorem slotAt_any (k : Nat) (w : World) (h : k < 7) : Calls Try.prog 39 #[.int .i64 k] w fun e w' => e = .returned (.int .i64 ((32 + 64 * k : Nat) : Int)) ∧ Below w.heap.size w w' := by
  go_enter Try.func39, Try.ntmps39
  go_wp2
  go_ret
  exact ⟨ret_int (by omega), Below.refl _ _⟩

theorem sv_open7 {w : World} {D : Value} {l : List UInt8} (h : SV w D (bys l)) : ∃ A c, D = .slice A l.length c := by
  obtain ⟨A, c, e, _⟩ := h
  exact ⟨A, c, by rw [bys_len] at e; exact e⟩

/-- The item of a slot, and the code. -/
def pslot (l : List UInt8) (i : Int) : It × Int := if i < 0 ∨ 6 < i then (zeroI, 2) else getI (slotL l i.toNat)
theorem pslot_no {l : List UInt8} {i : Int} (h : i < 0 ∨ 6 < i) : pslot l i = (zeroI, 2) := if_pos h
theorem pslot_yes {l : List UInt8} {k : Nat} (h : k < 7) : pslot l k = getI (slotL l k) := by
  unfold pslot
  rw [if_neg (by omega)]
  rfl
def PSlotP (l : List UInt8) (i : Int) (w : World) (e : Ending) (w' : World) : Prop := ∃ D, e = .returned (.tuple #[iv D (pslot l i).1, .int .i64 (pslot l i).2]) ∧ SV w' D (bys (pslot l i).1.c.d) ∧ Below w.heap.size w w'

theorem pslot_out (l : List UInt8) (i : Int) (w : World) (_hl : l.length = 512) (h : i < 0 ∨ 6 < i) : Calls Try.prog 24 #[.agg (ab l), .int .i64 i] w (PSlotP l i w) := by
  have hp := Lib.hid (pslot_no (l := l) h)
  have NO := Lib.hid (fun w => isSlot_no i w h)
  clear h
  go_enter Try.func24, Try.ntmps24
  go_wp2_with fail
  refine (NO.out _).mono ?_
  rintro e w1 ⟨rfl, rfl⟩
  go_wp2_with (refine wpList_store_row rfl _ (.tmp 4) (.tmp 10) rfl (w.heap.size + 1) _ rfl rfl _ _ (Whole.second w _ _ _) (by kernel_rfl) rfl (by simp [Value.oneCell']) ?_)
  refine bodyPost_ret (v := .tuple #[.agg #[.int .i64 0, .string ⟨#[]⟩, .int .i64 0, .slice none 0 0, .int .i64 0, .int .i64 0, .int .i64 0], .int .i64 2]) ?_ rfl ?_
  · exact results_cell_tmp rfl _ _ (w.heap.size + 1) _ _ (0, 0) _ rfl (setRow_heap _ _ _ _ _ _ (Whole.second w _ _ _)) Try.underlying37 rfl (by kernel_rfl) _ rfl
  · unfold PSlotP
    rw [hp.out]
    exact ⟨_, rfl, SV.nil _, below_setRow (two_more (Below.refl _ _) _ _) (Nat.le_succ _) _⟩
theorem pslot_in (l : List UInt8) (k : Nat) (w : World) (hl : l.length = 512) (h : k < 7) : Calls Try.prog 24 #[.agg (ab l), .int .i64 k] w (PSlotP l k w) := by
  have hp := pslot_yes (l := l) h
  have hsl := slot_len hl h
  have hz := (zero_of_info Try.zinfo58).1
  have YES := Lib.hid (fun w => isSlot_yes k w h)
  have AT := Lib.hid (fun w => slotAt_any k w h)
  have GT := fun w => get6_any (slotL l k) w hsl
  unfold Get6P at GT
  rw [← hp] at GT
  have HL : slotL l k = putAt z64 0 ((l.drop (32 + 64 * k)).take 64) := by
    show slotL l k = putAt z64 0 (slotL l k)
    simp [putAt, hsl, z64_len]
  replace HL := Lib.hid HL
  generalize slotL l k = sl at *
  unfold PSlotP
  generalize pslot l k = G at *
  obtain ⟨x, f⟩ := G
  obtain ⟨st, kk, kd, d, lo, hi, v⟩ := x
  unfold iv at GT ⊢
  simp only at *
  replace GT := Lib.hid GT
  clear hp
  go_enter Try.func24, Try.ntmps24
  go_wp2_with fail
  refine (YES.out _).mono ?_
  rintro e w1 ⟨rfl, rfl⟩
  go_wp2_with fail
  have p1 := ((Whole.made w 23 (ab l)).later (.cells #[.int .i64 0, .string ⟨#[]⟩, .int .i64 0, .slice none 0 0, .int .i64 0, .int .i64 0, .int .i64 0] 37)).later (.cells (ab z64) 58)
  have p2 := (Whole.second w (.cells (ab l) 23) 37 #[.int .i64 0, .string ⟨#[]⟩, .int .i64 0, .slice none 0 0, .int .i64 0, .int .i64 0, .int .i64 0]).later (.cells (ab z64) 58)
  have p3 := Whole.third w (.cells (ab l) 23) (.cells #[.int .i64 0, .string ⟨#[]⟩, .int .i64 0, .slice none 0 0, .int .i64 0, .int .i64 0, .int .i64 0] 37) 58 (ab z64)
  have B3 := Lib.hid ((two_more (Below.refl w.heap.size w) (.cells (ab l) 23) (.cells #[.int .i64 0, .string ⟨#[]⟩, .int .i64 0, .slice none 0 0, .int .i64 0, .int .i64 0, .int .i64 0] 37)).alloc (by simp; omega) (.cells (ab z64) 58))
  generalize ((w.alloc (.cells (ab l) 23)).alloc (.cells #[.int .i64 0, .string ⟨#[]⟩, .int .i64 0, .slice none 0 0, .int .i64 0, .int .i64 0, .int .i64 0] 37)).alloc (.cells (ab z64) 58) = w3 at *
  refine wp_region_facts 5 [4] [15] (by kernel_rfl) (by kernel_rfl) (by kernel_rfl) (fill_draw p3 sl) ?_
  simp only [List.take_succ_cons, List.take_zero, List.drop_succ_cons, List.drop_zero, List.zipIdx_cons, List.zipIdx_nil, Nat.zero_add, Nat.reduceAdd]
  repeat (first
    | (refine f_skip (fun V => by rfl) ?_; simp only [Act.put, List.setIfInBounds_toArray, List.set_cons_succ, List.set_cons_zero])
      | (refine f_cut_arr (by first | exact cls_free _ | exact cls_row _ _ _ _ | exact cls_fill _ _ _ _ _) (fun V => by rfl) 23 _ _ rfl (w.heap.size) (fun V => by rfl) 5 _ Try.underlying23 (by kernel_rfl) _ _ (32 + 64 * k) (fun V => by rfl) (rfl) (by omega) ?_; simp only [Act.put, List.setIfInBounds_toArray, List.set_cons_succ, List.set_cons_zero])
    | (refine f_call (by first | exact cls_free _ | exact cls_row _ _ _ _ | exact cls_fill _ _ _ _ _) (fun V => by rfl) 39 _ _ rfl (enters_of Try.func39 rfl rfl) _ _ (fun V w hb hk => AT.out w) (fun V => by rfl) ?_; simp only [Act.put, List.setIfInBounds_toArray, List.set_cons_succ, List.set_cons_zero])
    | (refine f_copy_at (fun V => by rfl) (by decide) (by decide) (.tmp 11) (.tmp 14) 26 26 rfl 5 Try.underlying26 (by kernel_rfl) _ (0) (64) _ (fun V => by rfl) _ (fun V => by rfl) (l.drop (32 + 64 * k)) (z64_len) (by omega) (HL.out) (fun V w hb hk => sv_ab_cut (p1.but hb.1 (by omega)) 512 hl (by omega) (32 + 64 * k) (by omega)) ?_; simp only [Act.put, List.setIfInBounds_toArray, List.set_cons_succ, List.set_cons_zero, keyOf, Option.getD_some])
    | (refine f_quiet (by first | exact cls_free _ | exact cls_row _ _ _ _ | exact cls_fill _ _ _ _ _) (fun V => by rfl) (fun V => ⟨_, rfl, by simp⟩) ?_; apply Exists.intro; refine And.intro (fun V w hw K hK => ?_) ?_; ((try simp only [Act.put, List.setIfInBounds_toArray, List.set_cons_succ, List.set_cons_zero] at hK); go_big_quiet_op; exact hK); simp only [Act.put, List.setIfInBounds_toArray, List.set_cons_succ, List.set_cons_zero]))
  refine f_nil ?_
  intro V w4 hq hkn
  have hwr := all_slot hkn 15 rfl
  simp only at hwr
  have p4 := p2.but hq.1 (by omega)
  have B4 := Lib.hid (But.below B3.out hq.1 (by omega) B3.out.size)
  clear hkn hq
  go_wp2_with (refine wpList_load_ab rfl _ (.tmp 6) rfl (w.heap.size + 1 + 1) rfl _ _ _ (sl) (hsl) (hwr) Try.underlying58 (by kernel_rfl) ?_)
  refine (GT.out _).mono ?_
  rintro e w5 ⟨D, rfl, s5, b5⟩
  obtain ⟨D, c, rfl⟩ := sv_open7 s5
  have p5 := p4.on b5
  have B5 := Lib.hid (B4.out.trans (b5.mono B4.out.size))
  clear b5
  go_wp2_with (refine wpList_store_row rfl _ (.tmp 4) (.tmp 18) rfl (w.heap.size + 1) _ rfl rfl _ _ p5 (by kernel_rfl) rfl (by simp [Value.oneCell']) ?_)
  refine bodyPost_ret (v := .tuple #[.agg #[.int .i64 st, .string ⟨kk.toArray⟩, .int .i64 kd, .slice D d.length c, .int .i64 lo, .int .i64 hi, .int .i64 v], .int .i64 f]) ?_ rfl ?_
  · exact results_cell_tmp rfl _ _ (w.heap.size + 1) _ _ (0, 0) _ rfl (setRow_heap _ _ _ _ _ _ p5) Try.underlying37 rfl (by kernel_rfl) _ rfl
  · exact ⟨_, rfl, sv_but s5 p5 (But.row _ _ _) rfl, below_setRow B5.out (Nat.le_succ _) _⟩
theorem pslot_any (l : List UInt8) (i : Int) (w : World) (hl : l.length = 512) : Calls Try.prog 24 #[.agg (ab l), .int .i64 i] w (PSlotP l i w) := by
  by_cases h : i < 0 ∨ 6 < i
  · exact pslot_out l i w hl h
  · obtain ⟨k, rfl⟩ : ∃ k : Nat, i = k := ⟨i.toNat, by omega⟩
    exact pslot_in l k w hl (by omega)

/-- The page with another item in a slot. -/
def pwslot (l : List UInt8) (i : Int) (x : It) : List UInt8 := if i < 0 ∨ 6 < i then l else putAt l (32 + 64 * i.toNat) (sbytes x)
theorem pwslot_no {l : List UInt8} {i : Int} {x : It} (h : i < 0 ∨ 6 < i) : pwslot l i x = l := if_pos h
theorem pwslot_yes {l : List UInt8} {k : Nat} {x : It} (h : k < 7) : pwslot l k x = putAt l (32 + 64 * k) (sbytes x) := by
  unfold pwslot
  rw [if_neg (by omega)]
  rfl
theorem pwslot_len {l : List UInt8} {i : Int} {x : It} (hl : l.length = 512) : (pwslot l i x).length = 512 := by
  unfold pwslot
  split
  · exact hl
  · rw [putAt_len (by rw [sbytes_len]; omega), hl]

theorem pwslot_out (l : List UInt8) (i : Int) (A : Option Addr) (n m : Nat) (x : It) (w : World) (hl : l.length = 512) (h : i < 0 ∨ 6 < i) :
    Calls Try.prog 26 #[.agg (ab l), .int .i64 i, iv (.slice A n m) x] w fun e w' => e = .returned (.agg (ab (pwslot l i x))) ∧ Below w.heap.size w w' := by
  have hz := (zero_of_info Try.zinfo23).1
  rw [pwslot_no h]
  have NO := Lib.hid (fun w => isSlot_no i w h)
  clear h
  obtain ⟨st, kk, kd, d, lo, hi, v⟩ := x
  unfold iv
  simp only
  go_enter Try.func26, Try.ntmps26
  go_wp2_with fail
  refine (NO.out _).mono ?_
  rintro e w1 ⟨rfl, rfl⟩
  go_wp2_with (first
    | ((refine wpList_load_ab rfl _ (.tmp 3) rfl (w.heap.size) rfl _ _ _ (l) (hl) (((Whole.made w _ _).later _).later _) Try.underlying23 (by kernel_rfl) ?_))
    | ((refine wpList_store_ab rfl _ (.tmp 6) (.tmp 17) rfl (w.heap.size + 1 + 1) rfl (l) rfl _ _ (hl) (z512) (z512_len) (Whole.third w _ _ _ _) (by kernel_rfl) ?_); intro w4 p4 e4; have b4 := Lib.hid e4; clear e4))
  refine bodyPost_ret (v := .agg (ab l)) ?_ rfl ⟨rfl, by rw [b4.out]; exact below_setRow ((two_more (Below.refl _ _) _ _).alloc (by simp; omega) _) (by omega) _⟩
  exact results_ab rfl _ _ (w.heap.size + 1 + 1) _ _ _ (l) (hl) rfl (p4.out) Try.underlying23 (by kernel_rfl)
theorem pwslot_in (l : List UInt8) (k : Nat) (A : Option Addr) (n m : Nat) (x : It) (w : World) (hl : l.length = 512) (h : k < 7) (hD : SV w (.slice A n m) (bys x.c.d)) (hn : n ≤ 1000000) (hk : x.k.length ≤ 1000000) :
    Calls Try.prog 26 #[.agg (ab l), .int .i64 k, iv (.slice A n m) x] w fun e w' => e = .returned (.agg (ab (pwslot l k x))) ∧ Below w.heap.size w w' := by
  have hz := (zero_of_info Try.zinfo23).1
  have hz2 := (zero_of_info Try.zinfo58).1
  have YES := Lib.hid (fun w => isSlot_yes k w h)
  have AT := Lib.hid (fun w => slotAt_any k w h)
  have hpl := pwslot_len (l := l) (i := k) (x := x) hl
  have PT := fun w' (hb : Below w.heap.size w w') => iput_any A n m x w' (hD.keep (Keeps.below hb)) hn hk
  have hsl := sbytes_len x
  have HL : pwslot l k x = putAt l (32 + 64 * k) ((sbytes x).take (512 - (32 + 64 * k))) := by rw [pwslot_yes h, List.take_of_length_le (by omega)]
  replace HL := Lib.hid HL
  generalize pwslot l k x = out at *
  generalize sbytes x = sb at *
  clear hD
  obtain ⟨st, kk, kd, d, lo, hi, v⟩ := x
  unfold iv at PT ⊢
  simp only at *
  replace PT := Lib.hid PT
  go_enter Try.func26, Try.ntmps26
  go_wp2_with fail
  refine (YES.out _).mono ?_
  rintro e w1 ⟨rfl, rfl⟩
  have p0 : Whole (((w.alloc (.cells (ab l) 23)).alloc (.cells #[.int .i64 st, .string ⟨kk.toArray⟩, .int .i64 kd, .slice A n m, .int .i64 lo, .int .i64 hi, .int .i64 v] 37)).alloc (.cells (ab z512) 23)) w.heap.size 23 (ab l) := ((Whole.made w _ _).later _).later _
  have p1 := (Whole.second w (.cells (ab l) 23) 37 #[.int .i64 st, .string ⟨kk.toArray⟩, .int .i64 kd, .slice A n m, .int .i64 lo, .int .i64 hi, .int .i64 v]).later (.cells (ab z512) 23)
  have p2 := Whole.third w (.cells (ab l) 23) (.cells #[.int .i64 st, .string ⟨kk.toArray⟩, .int .i64 kd, .slice A n m, .int .i64 lo, .int .i64 hi, .int .i64 v] 37) 23 (ab z512)
  have B2 := Lib.hid ((two_more (Below.refl w.heap.size w) (.cells (ab l) 23) (.cells #[.int .i64 st, .string ⟨kk.toArray⟩, .int .i64 kd, .slice A n m, .int .i64 lo, .int .i64 hi, .int .i64 v] 37)).alloc (by simp; omega) (.cells (ab z512) 23))
  generalize ((w.alloc (.cells (ab l) 23)).alloc (.cells #[.int .i64 st, .string ⟨kk.toArray⟩, .int .i64 kd, .slice A n m, .int .i64 lo, .int .i64 hi, .int .i64 v] 37)).alloc (.cells (ab z512) 23) = w2 at *
  go_wp2_with (refine wpList_load_row rfl 37 (.tmp 5) rfl (w.heap.size + 1) rfl 37 _ _ _ (p1) Try.underlying37 rfl (by kernel_rfl) ?_)
  refine (PT.out _ B2.out).mono ?_
  rintro e w3 ⟨rfl, b3⟩
  have q0 := p0.on b3
  have q2 := p2.on b3
  have B3 := Lib.hid (B2.out.trans (b3.mono B2.out.size))
  clear b3 p0 p1 p2 B2 PT
  go_wp2_with ((refine wpList_store_ab rfl _ (.tmp 7) (.tmp 11) rfl (w3.heap.size) rfl (sb) rfl _ _ (hsl) (z64) (z64_len) (Whole.made w3 _ _) (by kernel_rfl) ?_); intro w4 p4 e4; rw [World.setRow_alloc_new] at e4)
  have L3 := q2.lt
  replace q0 := q0.later (.cells (ab sb) 58)
  replace q2 := q2.later (.cells (ab sb) 58)
  have B4 := Lib.hid (B3.out.alloc B3.out.size (.cells (ab sb) 58))
  rw [← e4] at q0 q2 B4
  clear e4
  simp only [Act.put]
  replace p4 := p4.out
  generalize w3.heap.size = g7 at *
  refine wp_region_facts 5 [4] [16] (by kernel_rfl) (by kernel_rfl) (by kernel_rfl) (fill_draw q0 out) ?_
  simp only [List.take_succ_cons, List.take_zero, List.drop_succ_cons, List.drop_zero, List.zipIdx_cons, List.zipIdx_nil, Nat.zero_add, Nat.reduceAdd]
  repeat (first
    | (refine f_skip (fun V => by rfl) ?_; simp only [Act.put, List.setIfInBounds_toArray, List.set_cons_succ, List.set_cons_zero])
      | (refine f_cut_arr (by first | exact cls_free _ | exact cls_row _ _ _ _ | exact cls_fill _ _ _ _ _) (fun V => by rfl) 23 _ _ rfl (w.heap.size) (fun V => by rfl) 5 _ Try.underlying23 (by kernel_rfl) _ _ (32 + 64 * k) (fun V => by rfl) (rfl) (by omega) ?_; simp only [Act.put, List.setIfInBounds_toArray, List.set_cons_succ, List.set_cons_zero])
    | (refine f_call (by first | exact cls_free _ | exact cls_row _ _ _ _ | exact cls_fill _ _ _ _ _) (fun V => by rfl) 39 _ _ rfl (enters_of Try.func39 rfl rfl) _ _ (fun V w hb hk => AT.out w) (fun V => by rfl) ?_; simp only [Act.put, List.setIfInBounds_toArray, List.set_cons_succ, List.set_cons_zero])
    | (refine f_copy_at (fun V => by rfl) (by decide) (by decide) (.tmp 14) (.tmp 15) 26 26 rfl 5 Try.underlying26 (by kernel_rfl) _ (32 + 64 * k) (512 - (32 + 64 * k)) _ (fun V => by rfl) _ (fun V => by rfl) (sb) (hl) (by omega) (HL.out) (fun V w hb hk => sv_ab (p4.but hb.1 (by omega)) 64 hsl (by omega)) ?_; simp only [Act.put, List.setIfInBounds_toArray, List.set_cons_succ, List.set_cons_zero, keyOf, Option.getD_some])
    | (refine f_quiet (by first | exact cls_free _ | exact cls_row _ _ _ _ | exact cls_fill _ _ _ _ _) (fun V => by rfl) (fun V => ⟨_, rfl, by simp⟩) ?_; apply Exists.intro; refine And.intro (fun V w hw K hK => ?_) ?_; ((try simp only [Act.put, List.setIfInBounds_toArray, List.set_cons_succ, List.set_cons_zero] at hK); go_big_quiet_op; exact hK); simp only [Act.put, List.setIfInBounds_toArray, List.set_cons_succ, List.set_cons_zero]))
  refine f_nil ?_
  intro V w5 hq hkn
  have hwr := all_slot hkn 16 rfl
  simp only at hwr
  have q5 := q2.but hq.1 (by omega)
  have B5 := Lib.hid (But.below B4.out hq.1 (Nat.le_refl _) B4.out.size)
  clear hkn hq
  go_wp2_with (first
    | ((refine wpList_load_ab rfl _ (.tmp 3) rfl (w.heap.size) rfl _ _ _ (out) (hpl) (hwr) Try.underlying23 (by kernel_rfl) ?_))
    | ((refine wpList_store_ab rfl _ (.tmp 6) (.tmp 17) rfl (w.heap.size + 1 + 1) rfl (out) rfl _ _ (hpl) (z512) (z512_len) (q5) (by kernel_rfl) ?_); intro w6 p6 e6; have b6 := Lib.hid e6; clear e6))
  refine bodyPost_ret (v := .agg (ab out)) ?_ rfl ⟨rfl, by rw [b6.out]; exact below_setRow B5.out (by omega) _⟩
  exact results_ab rfl _ _ (w.heap.size + 1 + 1) _ _ _ (out) (hpl) rfl (p6.out) Try.underlying23 (by kernel_rfl)
theorem pwslot_any (l : List UInt8) (i : Int) (A : Option Addr) (n m : Nat) (x : It) (w : World) (hl : l.length = 512) (hD : SV w (.slice A n m) (bys x.c.d)) (hn : n ≤ 1000000) (hk : x.k.length ≤ 1000000) :
    Calls Try.prog 26 #[.agg (ab l), .int .i64 i, iv (.slice A n m) x] w fun e w' => e = .returned (.agg (ab (pwslot l i x))) ∧ Below w.heap.size w w' := by
  by_cases h : i < 0 ∨ 6 < i
  · exact pwslot_out l i A n m x w hl h
  · obtain ⟨k, rfl⟩ : ∃ k : Nat, i = k := ⟨i.toNat, by omega⟩
    exact pwslot_in l k A n m x w hl (by omega) hD hn hk

theorem own_seal (v : Value) (l : List UInt8) (w : World) (hl : l.length ≤ 1073741824) (hv : SV w v (bys l)) : Calls Try.prog 45 #[v] w fun e w' => ∃ v, e = .returned v ∧ SV w' v (bys (sealb l)) ∧ Below w.heap.size w w' :=
  (seal_any v l w hl hv).mono fun e w' ⟨v', h1, h2, h3⟩ => ⟨v', h1, SV.own (show w'.ownsRow w.heap.size 5 1 v' (bys (sealb l)).length (bys (sealb l)) by rw [bys_len]; exact h2), h3⟩
theorem pseal_any (l : List UInt8) (w : World) (hl : l.length = 512) :
    Calls Try.prog 30 #[.agg (ab l)] w fun e w' => e = .returned (.agg (ab (sealP l))) ∧ Below w.heap.size w w' := by
  have hz := (zero_of_info Try.zinfo23).1
  have SE := Lib.hid (fun w v (h : SV w v (bys (l.drop 4))) => own_seal v (l.drop 4) w (by simp; omega) h)
  have hpl := sealP_len hl
  have HL : sealP l = putAt l 0 ((sealP l).take 512) := by
    rw [List.take_of_length_le (by omega)]
    simp [putAt, hpl, ← hl]
  replace HL := Lib.hid HL
  have HS := Lib.hid (show sealb (l.drop 4) = sealP l from rfl)
  have HD : (sealP l).drop 4 = l.drop 4 := by unfold sealP sealb; rw [List.drop_left' (beb_len 4 _)]
  generalize sealP l = out at *
  have SD : ∀ w g, Whole w g 23 (ab l) ∨ Whole w g 23 (ab out) → SV w (.slice (some ⟨g, 4, none⟩) (512 - 4) (512 - 4)) (bys (l.drop 4)) := fun w g h => by
    rcases h with h | h
    · exact sv_ab_cut h 512 hl (by omega) 4 (by omega)
    · have := sv_ab_cut h 512 hpl (by omega) 4 (by omega)
      rwa [HD] at this
  replace SD := Lib.hid SD
  clear HD
  go_enter Try.func30, Try.ntmps30
  go_wp2_with fail
  have p1 : Whole _ w.heap.size 23 (ab l) := (Whole.made w 23 (ab l)).later (.cells (ab z512) 23)
  have p2 := Whole.second w (.cells (ab l) 23) 23 (ab z512)
  have B2 := Lib.hid (two_more (Below.refl w.heap.size w) (.cells (ab l) 23) (.cells (ab z512) 23))
  generalize (w.alloc (.cells (ab l) 23)).alloc (.cells (ab z512) 23) = w2 at *
  refine wp_region_facts 4 [3] [5, 6] (by kernel_rfl) (by kernel_rfl) (by kernel_rfl) (fill_draw p1 out) ?_
  simp only [List.take_succ_cons, List.take_zero, List.drop_succ_cons, List.drop_zero, List.zipIdx_cons, List.zipIdx_nil, Nat.zero_add, Nat.reduceAdd]
  repeat (first
    | (refine f_skip (fun V => by rfl) ?_; simp only [Act.put, List.setIfInBounds_toArray, List.set_cons_succ, List.set_cons_zero])
      | (refine f_cut_arr (by first | exact cls_free _ | exact cls_row _ _ _ _ | exact cls_fill _ _ _ _ _) (fun V => by rfl) 23 _ _ rfl (w.heap.size) (fun V => by rfl) 5 _ Try.underlying23 (by kernel_rfl) _ _ (4) (fun V => by rfl) (rfl) (by omega) ?_; simp only [Act.put, List.setIfInBounds_toArray, List.set_cons_succ, List.set_cons_zero])
    | (refine f_callF (by first | exact cls_free _ | exact cls_row _ _ _ _ | exact cls_fill _ _ _ _ _) (fSV (bys out)) (stays_sv _) (fun V => by rfl) (by decide) 45 _ _ rfl (enters_of Try.func45 rfl rfl) _ (fun V w hb hk => by have := SE.out w _ (SD.out w _ hb.2); rwa [HS.out] at this) (fun V => by rfl) ?_; simp only [Act.put, List.setIfInBounds_toArray, List.set_cons_succ, List.set_cons_zero, keyOf, Option.getD_some])
    | (refine f_copy_at (fun V => by rfl) (by decide) (by decide) (.tmp 3) (.tmp 5) 26 26 rfl 5 Try.underlying26 (by kernel_rfl) _ (0) (512) _ (fun V => by rfl) _ (fun V => by rfl) (out) (hl) (by omega) (HL.out) (fun V w hb hk => hk.slot 5 rfl rfl) ?_; simp only [Act.put, List.setIfInBounds_toArray, List.set_cons_succ, List.set_cons_zero, keyOf, Option.getD_some])
    | (refine f_quiet (by first | exact cls_free _ | exact cls_row _ _ _ _ | exact cls_fill _ _ _ _ _) (fun V => by rfl) (fun V => ⟨_, rfl, by simp⟩) ?_; apply Exists.intro; refine And.intro (fun V w hw K hK => ?_) ?_; ((try simp only [Act.put, List.setIfInBounds_toArray, List.set_cons_succ, List.set_cons_zero] at hK); go_big_quiet_op; exact hK); simp only [Act.put, List.setIfInBounds_toArray, List.set_cons_succ, List.set_cons_zero]))
  refine f_nil ?_
  intro V w3 hq hkn
  have hwr := all_slot hkn 6 rfl
  simp only at hwr
  have p3 := p2.but hq.1 (by omega)
  have B3 := Lib.hid (But.below B2.out hq.1 (Nat.le_refl _) B2.out.size)
  clear hkn hq
  go_wp2_with (first
    | ((refine wpList_load_ab rfl _ (.tmp 1) rfl (w.heap.size) rfl _ _ _ (out) (hpl) (hwr) Try.underlying23 (by kernel_rfl) ?_))
    | ((refine wpList_store_ab rfl _ (.tmp 2) (.tmp 7) rfl (w.heap.size + 1) rfl (out) rfl _ _ (hpl) (z512) (z512_len) (p3) (by kernel_rfl) ?_); intro w4 p4 e4; have b4 := Lib.hid e4; clear e4))
  refine bodyPost_ret (v := .agg (ab out)) ?_ rfl ⟨rfl, by rw [b4.out]; exact below_setRow B3.out (Nat.le_succ _) _⟩
  exact results_ab rfl _ _ (w.heap.size + 1) _ _ _ (out) (hpl) rfl (p4.out) Try.underlying23 (by kernel_rfl)
end Go.Proofs.Ytelamhdnefnceaa
