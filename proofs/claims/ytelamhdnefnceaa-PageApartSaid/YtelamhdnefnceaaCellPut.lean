/- Layer 5: contracts of the program's form and Put, of the library's Grow and Concat at []byte, of the reference's Bytes. -/
import Derived.Test.YtelamhdnefnceaaCellMath
import Derived.Test.YtelamhdnefnceaaCell
import Derived.Test.YtelamhdnefnceaaCellRef
import Derived.Test.YtelamhdnefnceaaBePut
import Derived.Test.YtelamhdnefnceaaBeRef
import Derived.Test.YtelamhdnefnceaaChecked
namespace Go.Proofs.Ytelamhdnefnceaa
set_option maxRecDepth 20000
open Go.RowKit Go.Sort

/-- A slice of bytes that is the call's own came back. -/
def OwnB (l : List UInt8) (w : World) (e : Ending) (w' : World) : Prop := ∃ v, e = .returned v ∧ fOwn w.heap.size 5 (bys l) v w' ∧ Below w.heap.size w w'
theorem own_put (v : Value) (l : List UInt8) (m : Nat) (x : Int) (w : World) (hl : l.length ≤ 1073741824) (hv : SV w v (bys l)) (m1 : 1 ≤ m) (m8 : m ≤ 8) :
    Calls Try.prog 52 #[v, .int .i64 m, .int .i64 x] w (OwnB (l ++ beb m (ub x)) w) :=
  (put_yes v l m x w hl hv m1 m8).mono fun _ _ ⟨v', h1, h2, h3⟩ => ⟨v', h1, by unfold fOwn; rw [bys_len, List.length_append, beb_len]; exact h2, h3⟩
theorem fOwn.low {B B' : Nat} {e : TypeId} {xs : List Value} {v : Value} {w : World} (h : fOwn B e xs v w) (hb : B' ≤ B) : fOwn B' e xs v w := own_lower h hb
theorem fOwn.on {B : Nat} {e : TypeId} {xs : List Value} {v : Value} {w w' : World} (h : fOwn B e xs v w) (hb : Below w.heap.size w w') : fOwn B e xs v w' := ownsRow_later h hb

theorem form_any (A : Option Addr) (n m : Nat) (c : Cl) (w : World) (hv : SV w (.slice A n m) (bys c.d)) (hl : n ≤ 1073741824) :
    Calls Try.prog 75 #[cv (.slice A n m) c] w (OwnB (cbytes c) w) := by
  have hn : n = c.d.length := by have := hv.bd.1; simpa using this
  have CC := fun w => check5_any A n m c w hn (by omega)
  cases hg : good c
  · rw [ckC_no hg] at CC
    replace CC := Lib.hid CC
    have fin : ∀ w', Below w.heap.size w w' → OwnB (cbytes c) w (.returned (.slice none 0 0)) w' := fun w' hb => ⟨_, rfl, by rw [cbytes_no hg]; exact World.ownsRow_nil _ _ _ _, hb⟩
    have FIN := Lib.hid fin
    clear fin hv hg
    generalize cbytes c = l at *
    obtain ⟨k, d, lo, hi, v⟩ := c
    unfold cv at CC ⊢
    subst hn
    go_enter Try.func75, Try.ntmps75
    go_wp2_with (first
      | (go_at_call 73; refine (CC.out _).mono ?_; rintro e w1 ⟨rfl, b1⟩)
      | (refine wpList_load_row rfl _ _ rfl (w.heap.size) rfl _ _ _ _ (Whole.made w _ _) Try.underlying35 rfl (by kernel_rfl) ?_))
    go_ret
    exact FIN.out _ (((Below.refl _ _).alloc (Nat.le_refl _) _).trans (b1.mono (by simp)))
  · rw [ckC_yes hg] at CC
    replace CC := Lib.hid CC
    by_cases hk : c.k = 1
    · have hd : c.d.length ≤ 32 := by simp [good, hk] at hg; omega
      rw [cbytes_rec hg hk]
      obtain ⟨k, d, lo, hi, v⟩ := c
      simp only at *
      subst hk
      clear hg
      unfold cv at CC ⊢
      have P1 := Lib.hid (fun w => own_put (.slice none 0 0) [] 1 1 w (by simp) (SV.nil w) (by omega) (by omega))
      have P2 := Lib.hid (fun w v h => own_put v (beb 1 (ub 1)) 1 d.length w (by simp) h (by omega) (by omega))
      have HV := Lib.hid hv
      clear hv
      subst hn
      go_enter Try.func75, Try.ntmps75
      go_wp2_with (refine wpList_load_row rfl _ _ rfl (w.heap.size) rfl _ _ _ _ (Whole.made w _ _) Try.underlying35 rfl (by kernel_rfl) ?_)
      refine (CC.out _).mono ?_
      rintro e w1 ⟨rfl, b1⟩
      have b1' := ((Below.refl w.heap.size w).alloc (Nat.le_refl _) _).trans (b1.mono (by simp))
      have p1 := (Whole.made w _ _).on b1
      have q0 := p1.cell 0
      simp at q0
      go_wp2_with fail
      refine (P1.out _).mono ?_
      rintro e w2 ⟨v2, rfl, o2, b2⟩
      rw [List.nil_append] at o2
      have b2' := b1'.trans (b2.mono b1'.size)
      have p2 := p1.on b2
      have r0 := p2.cell 0
      have r1 := p2.cell 1
      simp at r0 r1
      have HB2 := Lib.hid b2'
      have HO2 := Lib.hid (o2.low b1'.size)
      clear b1 b2 b1' b2' p1 q0 o2
      obtain ⟨i0, hi, hz0, hz1, hz2⟩ := info_parts Try.info5
      go_wp2_with fail
      refine wp_region_facts 8 [7] [17, 20] (by kernel_rfl) (by kernel_rfl) (by kernel_rfl) (free_draw w2) ?_
      simp only [List.take_succ_cons, List.take_zero, List.drop_succ_cons, List.drop_zero, List.zipIdx_cons, List.zipIdx_nil, Nat.zero_add, Nat.reduceAdd]
      repeat (first
        | (refine f_skip (fun V => by rfl) ?_; simp only [Act.put, List.setIfInBounds_toArray, List.set_cons_succ, List.set_cons_zero])
          | (refine f_load_cell (by first | exact cls_free _ | exact cls_row _ _ _ _ | exact cls_fill _ _ _ _ _) (fun V => by rfl) _ _ rfl _ (fun V => by rfl) _ (fun w hb => (hb.cell p2.lt).trans r1) _ Try.underlying26 rfl ?_; simp only [Act.put, List.setIfInBounds_toArray, List.set_cons_succ, List.set_cons_zero])
            | (refine f_callF (by first | exact cls_free _ | exact cls_row _ _ _ _ | exact cls_fill _ _ _ _ _) (fOwn w2.heap.size 5 (bys (beb 1 (ub 1) ++ beb 1 (ub d.length)))) (stays_own _ _ _) (fun V => by rfl) (by decide) 52 _ _ rfl (enters_of Try.func52 rfl rfl) _ (fun V w hb hk => (P2.out w v2 (HO2.out.on hb).sv).mono fun e w' ⟨v, h1, h2, h3⟩ => ⟨v, h1, h2.low hb.size, h3⟩) (fun V => by rfl) ?_; simp only [Act.put, List.setIfInBounds_toArray, List.set_cons_succ, List.set_cons_zero, keyOf, Option.getD_some])
            | (refine f_app (.tmp 17) (.tmp 19) 26 rfl 5 i0 (.int .u8 0) 1 Try.underlying26 hi hz0 hz1 hz2 rfl (fun V => by rfl) (by decide) (by decide) w2.heap.size (fun w hb => Below.size hb) (fun _ _ h hb => Below.trans h hb) (bys (beb 1 (ub 1) ++ beb 1 (ub d.length))) (bys d) _ _ (fun V w hb hk => hk.slot 17 rfl rfl) (fun V w hb hk => HV.out.keep (Keeps.below (HB2.out.trans (hb.mono HB2.out.size)))) (bys_one _) (by simp [maxLen]; omega) (by simp; omega) (fun V => by rfl) (fun V => by rfl) ?_; simp only [Act.put, List.setIfInBounds_toArray, List.set_cons_succ, List.set_cons_zero, keyOf, Option.getD_some])
        | (refine f_quiet (by first | exact cls_free _ | exact cls_row _ _ _ _ | exact cls_fill _ _ _ _ _) (fun V => by rfl) (fun V => ⟨_, rfl, by simp⟩) ?_; apply Exists.intro; refine And.intro (fun V w hw K hK => ?_) ?_; ((try simp only [Act.put, List.setIfInBounds_toArray, List.set_cons_succ, List.set_cons_zero] at hK); go_big_quiet_op; exact hK); simp only [Act.put, List.setIfInBounds_toArray, List.set_cons_succ, List.set_cons_zero]))
      refine f_nil ?_
      intro V w' hq hkn
      have hwr := all_slot hkn 20 rfl
      simp only at hwr
      have HWR := Lib.hid hwr
      have HQ := Lib.hid (HB2.out.trans (Below.mono hq HB2.out.size))
      clear hkn hwr
      go_wp2
      go_ret
      refine ⟨_, rfl, ?_, HQ.out⟩
      have := HWR.out.low HB2.out.size
      rwa [← bys_app, List.append_assoc] at this
    · have hk2 : c.k = 2 := by simp [good, hk] at hg; exact hg.1.1
      rw [cbytes_cnt hg hk2]
      obtain ⟨k, d, lo, hi, v⟩ := c
      simp only at *
      subst hk2
      clear hg hk
      unfold cv at CC ⊢
      have P1 := Lib.hid (fun w => own_put (.slice none 0 0) [] 1 2 w (by simp) (SV.nil w) (by omega) (by omega))
      have P2 := Lib.hid (fun w v h => own_put v (beb 1 (ub 2)) 8 lo w (by simp) h (by omega) (by omega))
      have P3 := Lib.hid (fun w v h => own_put v (beb 1 (ub 2) ++ beb 8 (ub lo)) 8 hi w (by simp) h (by omega) (by omega))
      have P4 := fun w x h => own_put x (beb 1 (ub 2) ++ beb 8 (ub lo) ++ beb 8 (ub hi)) 8 v w (by simp) h (by omega) (by omega)
      simp only [List.append_assoc] at P4
      replace P4 := Lib.hid P4
      clear hv
      subst hn
      go_enter Try.func75, Try.ntmps75
      go_wp2_with (refine wpList_load_row rfl _ _ rfl (w.heap.size) rfl _ _ _ _ (Whole.made w _ _) Try.underlying35 rfl (by kernel_rfl) ?_)
      refine (CC.out _).mono ?_
      rintro e w1 ⟨rfl, b1⟩
      have b1' := ((Below.refl w.heap.size w).alloc (Nat.le_refl _) _).trans (b1.mono (by simp))
      have p1 := (Whole.made w _ _).on b1
      have q0 := p1.cell 0
      simp at q0
      go_wp2_with fail
      refine (P1.out _).mono ?_
      rintro e w2 ⟨v2, rfl, o2, b2⟩
      rw [List.nil_append] at o2
      have b2' := b1'.trans (b2.mono b1'.size)
      have p2 := p1.on b2
      have r0 := p2.cell 0
      have r2 := p2.cell 2
      simp at r0 r2
      have O2 := Lib.hid o2.sv
      clear b2 b1 b1' p1 q0 o2
      go_wp2_with fail
      refine (P2.out _ _ O2.out).mono ?_
      rintro e w3 ⟨v3, rfl, o3, b3⟩
      have b3' := b2'.trans (b3.mono b2'.size)
      have p3 := p2.on b3
      have r3 := p3.cell 3
      simp at r3
      have O3 := Lib.hid o3.sv
      clear b3 b2' p2 r0 r2 o3
      go_wp2_with fail
      refine (P3.out _ _ O3.out).mono ?_
      rintro e w4 ⟨v4, rfl, o4, b4⟩
      have b4' := b3'.trans (b4.mono b3'.size)
      have p4 := p3.on b4
      have r4 := p4.cell 4
      simp at r4
      have O4 := Lib.hid o4.sv
      clear b4 b3' p3 r3 o4
      go_wp2_with fail
      refine (P4.out _ _ (by simpa only [List.append_assoc] using O4.out)).mono ?_
      rintro e w5 ⟨v5, rfl, o5, b5⟩
      have HO := Lib.hid (o5.low b4'.size)
      have HB := Lib.hid (b4'.trans (b5.mono b4'.size))
      clear o5 b5 b4' p4 r4
      go_wp2
      go_ret
      exact ⟨_, rfl, HO.out, HB.out⟩

/-- Grow of nil. -/
theorem grow_zero (w : World) : Calls Try.prog 85 #[.slice none 0 0, .int .i64 0] w fun e w' => e = .returned (.slice none 0 0) ∧ w = w' := by
  go_enter Try.func85, Try.ntmps85
  go_wp2
  go_ret
  exact ⟨rfl, rfl⟩
theorem grow_some (n : Nat) (w : World) (hn : 1 ≤ n) (hm : n ≤ 1073741824) : Calls Try.prog 85 #[.slice none 0 0, .int .i64 n] w fun e w' => ∃ v, e = .returned v ∧ fOwn w.heap.size 5 [] v w' ∧ Below w.heap.size w w' := by
  have hb : Try.t5.bytes = 1 := by kernel_rfl
  have hns : Builtin.nextslicecap n 0 = n := by unfold Builtin.nextslicecap; simp; omega
  have h1 : ¬ (281474976710656 < n) := by omega
  have h2 : ¬ n = 0 := by omega
  have h3 : (n : Int) ≤ 281474976710656 := by omega
  have h4 : ¬ (281474976710656 < (n : Int)) := by omega
  go_enter Try.func85, Try.ntmps85
  go_wp2
  go_ret
  refine ⟨_, rfl, ?_, ((Below.refl _ w).alloc (Nat.le_refl _) _).drew⟩
  have g1 := grownCap_ge w n 0 5
  have g2 := grownCap_le_maxLen w n 0 5 (by unfold maxLen; omega)
  unfold grownCap at g1 g2
  refine ⟨rfl, .inr ⟨_, _, _, rfl, Nat.le_refl _, heap_alloc_new w _, Nat.zero_le _, g2, ?_, rfl⟩⟩
  simp only [Array.size_append, size_zeroCells]
  simp
  omega
theorem grow_any (n : Nat) (w : World) (hm : n ≤ 1073741824) : Calls Try.prog 85 #[.slice none 0 0, .int .i64 n] w fun e w' => ∃ v, e = .returned v ∧ fOwn w.heap.size 5 [] v w' ∧ Below w.heap.size w w' := by
  by_cases h : n = 0
  · subst h
    exact (grow_zero w).mono fun e w' ⟨h1, h2⟩ => ⟨_, h1, World.ownsRow_nil _ _ _ _, h2 ▸ Below.refl _ _⟩
  · exact grow_some n w (by omega) hm

/-- These slices, one by one. -/
def Rows8 (w : World) (vs : List Value) (ls : List (List UInt8)) : Prop := ∀ (k : Nat) (v : Value), vs[k]? = some v → ∃ l, ls[k]? = some l ∧ SV w v (bys l)
theorem flat_next (ls : List (List UInt8)) (k : Nat) (l : List UInt8) (h : ls[k]? = some l) : (ls.take (k + 1)).flatten = (ls.take k).flatten ++ l := by
  rw [List.take_add_one, h]; simp
theorem flat_le (ls : List (List UInt8)) (k : Nat) : (ls.take k).flatten.length ≤ ls.flatten.length := by
  have : ls.flatten = (ls.take k).flatten ++ (ls.drop k).flatten := by rw [← List.flatten_append, List.take_append_drop]
  rw [this, List.length_append]
  omega
theorem dst_row {w : World} {B : Nat} {e : TypeId} {xs : List Value} {v : Value} (h : fOwn B e xs v w) : Dst w B e v xs := .inl h
theorem fown_nil (B : Nat) (e : TypeId) (xs : List Value) (v : Value) (w : World) (h : fOwn B e xs v w) : w.ownsRow B e 1 v xs.length xs := h

set_option maxHeartbeats 1000000 in
theorem concat_any (A : Option Addr) (m c : Nat) (vs : List Value) (ls : List (List UInt8)) (w : World) (hs : SV w (.slice A m c) vs) (hr : Rows8 w vs ls) (hl : ls.length = m) (hb : ls.flatten.length ≤ 1073741824) :
    Calls Try.prog 74 #[.slice A m c] w (OwnB ls.flatten w) := by
  obtain ⟨-, bd1, bd2⟩ := hs.bd
  obtain ⟨i0, hi, hz0, hz1, hz2⟩ := info_parts Try.info5
  have AT := Lib.hid (fun k (hk : k < m) => hs.at hk)
  have HR := Lib.hid hr
  have HF := Lib.hid (flat_le ls)
  have HN := Lib.hid (flat_next ls)
  have HA := Lib.hid (show ls.take m = ls from List.take_of_length_le (by omega))
  clear hs hr hl
  go_enter Try.func74, Try.ntmps74
  go_wp2
  go_loop [3, 11] (fun s i => ∃ k : Nat, k ≤ m ∧ i = .int .i64 k ∧ s = .int .i64 (ls.take k).flatten.length) (fun _ i => m - (intOf i).toNat)
  case atStart => exact ⟨0, by omega, rfl, rfl⟩
  case round =>
    obtain ⟨k, hk, rfl, rfl⟩ := hrel
    by_cases hlt : k < m
    · obtain ⟨b, off, u, rfl, hu, hcell⟩ := AT.out k hlt
      obtain ⟨l, hlk, hsv⟩ := HR.out k u hu
      obtain ⟨D, n, d, rfl, hn⟩ : ∃ D n d, u = .slice D n d ∧ n = l.length := by obtain ⟨D, d, e, _⟩ := hsv; exact ⟨D, _, d, e, by simp⟩
      have HS := Lib.hid (HN.out k l hlk)
      have h1 := HF.out k
      have h2 := HF.out (k + 1)
      rw [HS.out, List.length_append, ← hn] at h2
      clear hsv hu hlk
      generalize hy : (ls.take k).flatten.length = y at *
      have HY := Lib.hid hy
      have HNn := Lib.hid hn
      clear hy hn
      have q1 : decide ((y : Int) + n < 0) = false := by simp; omega
      go_wp2
      go_round
      case rel => exact ⟨k + 1, by omega, by go_num, by rw [HS.out, List.length_append, HY.out, ← HNn.out]; go_num⟩
      case measure => simp [intOf]; omega
    · obtain rfl : k = m := by omega
      rw [HA.out]
      have HB := Lib.hid hb
      have GA := grow_any ls.flatten.length w hb
      generalize ls.flatten.length = N at hb GA ⊢
      replace GA := Lib.hid GA
      go_wp2_with fail
      refine GA.out.mono ?_
      rintro e w1 ⟨v1, rfl, o1, b1⟩
      have O1 := Lib.hid o1
      have B1 := Lib.hid b1
      clear o1 b1 hb
      go_wp2
      go_loopw [6, 27] (fun v i wr => ∃ j : Nat, j ≤ k ∧ i = .int .i64 j ∧ fOwn w.heap.size 5 (bys (ls.take j).flatten) v wr ∧ Below w.heap.size w wr) (fun _ i _ => k - (intOf i).toNat)
      case atStart => exact ⟨0, by omega, rfl, O1.out, B1.out⟩
      case round =>
        obtain ⟨j, hj, rfl, hown, hbr⟩ := hrel
        by_cases hlt2 : j < k
        · obtain ⟨b, off, u, rfl, hu, hcell0⟩ := AT.out j hlt2
          obtain ⟨l, hlk, hsv⟩ := HR.out j u hu
          have hcell := Keeps.below hbr _ _ hcell0
          have hsv' := hsv.keep (Keeps.below hbr)
          have HS := Lib.hid (HN.out j l hlk)
          have h1 := HF.out (j + 1)
          rw [HS.out, List.length_append] at h1
          have h2 := HB.out
          have hsz := hbr.size
          clear hsv hu hlk hcell0
          go_wp2_with (at_builtin; refine wpList_app _ rfl _ _ 26 rfl w.heap.size 5 i0 (.int .u8 0) 1 Try.underlying26 hi hz0 hz1 hz2 rfl _ (bys (ls.take j).flatten) rfl (.inl hown) _ (bys l) rfl hsv' (bys_one _) (by rw [bys_len, bys_len]; unfold maxLen; omega) (by rw [bys_len, bys_len]; omega) hsz ?_; intro v' w2 happ)
          go_roundw
          case rel => exact ⟨j + 1, by omega, by go_num, by have := happ.own (.inr hown); rw [HS.out, bys_app]; exact this, hbr.trans (happ.below hsz)⟩
          case measure => simp [intOf]; omega
        · obtain rfl : j = k := by omega
          rw [HA.out] at hown
          go_wp2
          go_ret
          exact ⟨_, rfl, hown, hbr⟩

theorem cput_any (v : Value) (l : List UInt8) (A : Option Addr) (n m : Nat) (c : Cl) (w : World) (hv : SV w v (bys l)) (hl : l.length ≤ 1000000) (hD : SV w (.slice A n m) (bys c.d)) (hn : n ≤ 1000000) :
    Calls Try.prog 57 #[v, cv (.slice A n m) c] w (OwnB (l ++ cbytes c) w) := by
  obtain ⟨B, k, b, rfl⟩ : ∃ B k b, v = .slice B k b := by obtain ⟨B, b, e, _⟩ := hv; exact ⟨B, _, b, e⟩
  have hcl : (cbytes c).length ≤ 1000100 := by
    have hn' : n = c.d.length := by have := hD.bd.1; simpa using this
    unfold cbytes
    split
    · split
      · simp; omega
      · simp
    · simp
  have CF := Lib.hid (fun w' (hb : Below w.heap.size w w') => form_any A n m c w' (hD.keep (Keeps.below hb)) (by omega))
  have CC := fun w' D p q (hb : Below w.heap.size w w') (h : SV w' (.slice D p q) (bys (cbytes c))) => concat_any (some ⟨w'.heap.size, 0, none⟩) 2 2 [.slice B k b, .slice D p q] [l, cbytes c] (w'.alloc (.cells #[.slice B k b, .slice D p q] 26))
    (sv_row w' [.slice B k b, .slice D p q] 2 26 (0, 0) rfl (by omega)) (fun j u hu => by
      match j with
      | 0 => simp at hu; subst hu; exact ⟨l, rfl, hv.keep ((Keeps.below hb).trans (Keeps.alloc _ _))⟩
      | 1 => simp at hu; subst hu; exact ⟨cbytes c, rfl, h.keep (Keeps.alloc _ _)⟩
      | j + 2 => simp at hu) rfl (by simp; omega)
  simp only [List.flatten_cons, List.flatten_nil, List.append_nil] at CC
  replace CC := Lib.hid CC
  have HL := Lib.hid hcl
  clear hcl hv hD
  generalize hg : cbytes c = y at *
  clear hg
  obtain ⟨kk, d, lo, hi, x⟩ := c
  unfold cv at CF ⊢
  go_enter Try.func57, Try.ntmps57
  go_wp2_with (refine wpList_load_row rfl _ _ rfl (w.heap.size) rfl _ _ _ _ (Whole.made w _ _) Try.underlying35 rfl (by kernel_rfl) ?_)
  refine (CF.out _ ((Below.refl _ _).alloc (Nat.le_refl _) _)).mono ?_
  rintro e w1 ⟨v1, rfl, o1, b1⟩
  have b1' := ((Below.refl w.heap.size w).alloc (Nat.le_refl _) _).trans (b1.mono (by simp))
  have s1 := o1.sv
  obtain ⟨D, p, q, rfl⟩ : ∃ D p q, v1 = .slice D p q := by obtain ⟨D, q, e, _⟩ := s1; exact ⟨D, _, q, e⟩
  have S1 := Lib.hid s1
  have B1 := Lib.hid b1'
  clear s1 b1' b1 o1
  go_wp2_with fail
  refine (CC.out _ _ _ _ B1.out S1.out).mono ?_
  rintro e w2 ⟨v2, rfl, o2, b2⟩
  have O2 := Lib.hid (o2.low (show w.heap.size ≤ _ by have := B1.out.size; simp; omega))
  have B2 := Lib.hid ((B1.out.alloc B1.out.size _).trans (b2.mono (by have := B1.out.size; simp; omega)))
  clear o2 b2
  go_wp2
  go_ret
  exact ⟨_, rfl, O2.out, B2.out⟩
end Go.Proofs.Ytelamhdnefnceaa
