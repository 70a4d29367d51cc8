/- Layer 5: the page's example, and the three laws. -/
import Derived.Lib.SlBytesConst
import Derived.Test.YtbljppcfekgogaaCellBytes
namespace Go.Proofs.Ytbljppcfekgogaa
open Go.RowKit Go.Sort

theorem code5_any (n : Int) (w : World) : Calls Try.prog 8 #[.int .i64 n] w fun e w' => e = .returned (.int .i64 n) ∧ w = w' := by
  go_enter Try.func8, Try.ntmps8
  go_wp2
  go_ret
  exact ⟨rfl, rfl⟩

theorem code5_b (n : Int) (w : World) : Calls Try.prog 8 #[.int .i64 n] w fun e w' => e = .returned (.int .i64 n) ∧ Below w.heap.size w w' :=
  (code5_any n w).mono fun _ _ ⟨h1, h2⟩ => ⟨h1, h2 ▸ Below.refl _ _⟩

/-- The page's example. -/
def abC : Cl := ⟨1, [97, 98], 0, 0, 0⟩
theorem live5_any (w : World) : Calls Try.prog 6 #[] w fun e w' => e = .returned (.bool true) ∧ Below w.heap.size w w' := by
  have kc := fun (w : World) (C : Array Value) (n c : Nat) => Lib.run_convert_bytes_const (P := Try.prog) w 22 5 C n c Try.underlying22 Try.underlying5
  have CP := Lib.hid (fun w' fr => cput_any (.slice none 0 0) [] (some ⟨w.heap.size, 0, none⟩) 2 2 abC w' (SV.nil _) (by simp) fr (by omega))
  have CK := fun w' => check5_any none 0 0 zeroC w' rfl (by omega)
  rw [ckC_no (by rfl)] at CK
  replace CK := Lib.hid CK
  have hab : [] ++ cbytes abC = [1, 2, 97, 98] := by decide
  have HAB := Lib.hid hab
  clear hab
  go_enter Try.func6, Try.ntmps6
  go_wp2_with fail
  refine (CP.out _ (sv_lit w [97, 98] 2 5 (2, 3) rfl (by omega))).mono ?_
  rintro e w1 ⟨v1, rfl, o1, b1⟩
  rw [HAB.out] at o1
  have O1 := Lib.hid o1
  have B1 := Lib.hid (((Below.refl w.heap.size w).alloc (Nat.le_refl _) _).trans (b1.mono (by simp)))
  clear o1 b1
  go_wp2_with fail
  refine (same_any v1 _ [1, 2, 97, 98] [1, 2, 97, 98] _ (O1.out.sv.keep (Keeps.alloc _ _)) (sv_lit w1 [1, 2, 97, 98] 4 5 (0, 0) rfl (by omega))).mono ?_
  rintro e w2 ⟨rfl, rfl⟩
  go_wp2_with fail
  refine (CK.out _).mono ?_
  rintro e w3 ⟨rfl, b3⟩
  have B3 := Lib.hid ((B1.out.alloc B1.out.size _).trans (b3.mono (by have := B1.out.size; simp; omega)))
  clear b3
  go_wp2_with fail
  refine (code5_any _ _).mono ?_
  rintro e w4 ⟨rfl, rfl⟩
  go_wp2
  go_ret
  exact ⟨rfl, B3.out⟩

theorem sameT (v u : Value) (l : List UInt8) (w : World) (hv : SV w v (bys l)) (hu : SV w u (bys l)) :
    Calls Try.prog 10 #[v, u] w fun e w' => e = .returned (.bool true) ∧ Below w.heap.size w w' :=
  (same_any v u l l w hv hu).mono fun e w' ⟨h1, h2⟩ => ⟨by rw [h1]; simp, h2 ▸ Below.refl _ _⟩

set_option maxRecDepth 100000 in
set_option maxHeartbeats 2000000 in
theorem puts5_main (B : Option Addr) (p : Nat) (A : Option Addr) (n m : Nat) (c : Cl) (l : List UInt8) (w : World) (hv : SV w (.slice B l.length p) (bys l)) (hl : l.length ≤ 300) (hD : SV w (.slice A n m) (bys c.d)) (hn : n ≤ 300) (h64 : in64c c) :
    Calls Try.prog 3 #[.slice B l.length p, cv (.slice A n m) c] w fun e w' => e = .returned (.bool true) ∧ Below w.heap.size w w' := by
  obtain ⟨i0, hi, hz0, hz1, hz2⟩ := info_parts Try.info5
  have hn' : n = c.d.length := by have := hD.bd.1; simpa using this
  have q1 : decide ((300 : Int) < l.length) = false := by simp; omega
  have q2 : decide ((300 : Int) < n) = false := by simp; omega
  have hcl : (cbytes c).length ≤ 332 := by
    unfold cbytes
    split
    · split
      · simp; omega
      · simp
    · simp
  have HV := Lib.hid hv
  have HD := Lib.hid hD
  have CP := Lib.hid (fun w' (hb : Below w.heap.size w w') => cput_any (.slice B l.length p) l A n m c w' (hv.keep (Keeps.below hb)) (by omega) (hD.keep (Keeps.below hb)) (by omega))
  have CK := fun w' => check5_any A n m c w' hn' (by omega)
  have RB := Lib.hid (fun w' (hb : Below w.heap.size w w') => rbytes_any A n m c w' (hD.keep (Keeps.below hb)) (by omega))
  have RR := fun w' => right5_any A n m c w' hn' (by omega)
  have HCL := Lib.hid hcl
  clear hv hD
  cases hg : good c
  · rw [ckC_no hg] at CK
    rw [hg] at RR
    replace CK := Lib.hid CK
    replace RR := Lib.hid RR
    clear hg hn' h64
    generalize hy : cbytes c = y at *
    clear hy hcl
    obtain ⟨k, d, lo, hh, v⟩ := c
    unfold cv at CP CK RB RR ⊢
    go_enter Try.func3, Try.ntmps3
    go_wp2_with (refine wpList_load_row rfl _ _ rfl (w.heap.size) rfl _ _ _ _ (Whole.made w _ _) Try.underlying24 rfl (by kernel_rfl) ?_)
    refine (CP.out _ ((Below.refl _ _).alloc (Nat.le_refl _) _)).mono ?_
    rintro e w1 ⟨v1, rfl, o1, b1⟩
    have p1 := (Whole.made w _ _).on b1
    have S1 := Lib.hid o1.sv
    have B1 := Lib.hid (((Below.refl w.heap.size w).alloc (Nat.le_refl _) _).trans (b1.mono (by simp)))
    clear o1 b1
    go_wp2_with (refine wpList_load_row rfl _ _ rfl (w.heap.size) rfl _ _ _ _ (p1) Try.underlying24 rfl (by kernel_rfl) ?_)
    refine (CK.out _).mono ?_
    rintro e w2 ⟨rfl, b2⟩
    have p2 := p1.on b2
    have S2 := Lib.hid (S1.out.keep (Keeps.below b2))
    have B2 := Lib.hid (B1.out.trans (b2.mono B1.out.size))
    clear b2 p1
    go_wp2_with fail
    refine (code5_any _ _).mono ?_
    rintro e w3 ⟨rfl, rfl⟩
    go_wp2_with fail
    refine wp_region_facts 24 [6] [27, 29, 31, 32] (by kernel_rfl) (by kernel_rfl) (by kernel_rfl) (free_draw w2) ?_
    simp only [List.take_succ_cons, List.take_zero, List.drop_succ_cons, List.drop_zero, List.zipIdx_cons, List.zipIdx_nil, Nat.zero_add, Nat.reduceAdd]
    repeat (first
      | (refine f_skip (fun V => by rfl) ?_; simp only [Act.put, List.setIfInBounds_toArray, List.set_cons_succ, List.set_cons_zero])
        | (refine f_none (by first | exact cls_free _ | exact cls_row _ _ _ _) 22 5 rfl (fun V => by rfl) (by decide) w2.heap.size (fun w hb => Below.size hb) (fun w => by kernel_rfl) ?_; simp only [Act.put, List.setIfInBounds_toArray, List.set_cons_succ, List.set_cons_zero, keyOf, Option.getD_some])
          | (refine f_app0 (by first | exact cls_free _ | exact cls_row _ _ _ _) (.tmp 27) (.tmp 28) 22 rfl 5 i0 (.int .u8 0) 1 Try.underlying22 hi hz0 hz1 hz2 rfl (fun V => by rfl) (by decide) w2.heap.size (fun w hb => Below.size hb) (bys l) _ _ (fun V w hb hk => hk.slot 27 rfl rfl) (fun V w hb hk => HV.out.keep (Keeps.below (B2.out.trans (Below.mono hb B2.out.size)))) (bys_one _) (by rw [bys_len]; unfold maxLen; omega) (by rw [bys_len]; omega) (fun V => by rfl) (fun V => by rfl) ?_; simp only [Act.put, List.setIfInBounds_toArray, List.set_cons_succ, List.set_cons_zero, keyOf, Option.getD_some])
          | (refine f_load_row (by first | exact cls_free _ | exact cls_row _ _ _ _) (fun V => by rfl) _ _ rfl _ (fun V => by rfl) _ _ _ (fun w hb => p2.on hb) Try.underlying24 rfl (by kernel_rfl) ?_; simp only [Act.put, List.setIfInBounds_toArray, List.set_cons_succ, List.set_cons_zero])
          | (refine f_callF (by first | exact cls_free _ | exact cls_row _ _ _ _) (fSV (bys y)) (stays_sv _) (fun V => by rfl) (by decide) 11 _ _ rfl (enters_of Try.func11 rfl rfl) _ (fun V w hb hk => (RB.out w (B2.out.trans (Below.mono hb B2.out.size))).mono fun e w' ⟨v, h1, h2, h3⟩ => ⟨v, h1, h2.sv, h3⟩) (fun V => by rfl) ?_; simp only [Act.put, List.setIfInBounds_toArray, List.set_cons_succ, List.set_cons_zero, keyOf, Option.getD_some])
          | (refine f_app (.tmp 29) (.tmp 31) 22 rfl 5 i0 (.int .u8 0) 1 Try.underlying22 hi hz0 hz1 hz2 rfl (fun V => by rfl) (by decide) (by decide) w2.heap.size (fun w hb => Below.size hb) (fun _ _ h hb => Below.trans h hb) (bys l) (bys y) _ _ (fun V w hb hk => hk.slot 29 rfl rfl) (fun V w hb hk => hk.slot 31 rfl rfl) (bys_one _) (by rw [bys_len, bys_len]; have := HCL.out; unfold maxLen; omega) (by rw [bys_len, bys_len]; have := HCL.out; omega) (fun V => by rfl) (fun V => by rfl) ?_; simp only [Act.put, List.setIfInBounds_toArray, List.set_cons_succ, List.set_cons_zero, keyOf, Option.getD_some])
          | (refine f_call (by first | exact cls_free _ | exact cls_row _ _ _ _) (fun V => by rfl) 10 _ _ rfl (enters_of Try.func10 rfl rfl) _ _ (fun V w hb hk => sameT _ _ (l ++ y) w (S2.out.keep (Keeps.below hb)) (by have h := hk.slot 32 rfl rfl; rw [bys_app]; exact h.sv)) (fun V => by rfl) ?_; simp only [Act.put, List.setIfInBounds_toArray, List.set_cons_succ, List.set_cons_zero])
          | (refine f_call (by first | exact cls_free _ | exact cls_row _ _ _ _) (fun V => by rfl) 12 _ _ rfl (enters_of Try.func12 rfl rfl) _ _ (fun V w hb hk => RR.out w) (fun V => by rfl) ?_; simp only [Act.put, List.setIfInBounds_toArray, List.set_cons_succ, List.set_cons_zero])
      | (refine f_quiet (by first | exact cls_free _ | exact cls_row _ _ _ _) (fun V => by rfl) (fun V => ⟨_, rfl, by simp⟩) ?_; apply Exists.intro; refine And.intro (fun V w hw K hK => ?_) ?_; ((try simp only [Act.put, List.setIfInBounds_toArray, List.set_cons_succ, List.set_cons_zero] at hK); go_big_quiet_op; exact hK); simp only [Act.put, List.setIfInBounds_toArray, List.set_cons_succ, List.set_cons_zero]))
    refine f_nil ?_
    intro V w4 hq hkn
    have B4 := Lib.hid (B2.out.trans (Below.mono hq B2.out.size))
    clear hkn
    go_wp2_with fail
    refine (live5_any _).mono ?_
    rintro e w5 ⟨rfl, b5⟩
    have B5 := Lib.hid (B4.out.trans (b5.mono B4.out.size))
    clear b5
    go_wp2
    go_ret
    exact ⟨rfl, B5.out⟩
  · rw [ckC_yes hg] at CK
    rw [hg] at RR
    replace CK := Lib.hid CK
    replace RR := Lib.hid RR
    have CG := fun w' v (hv : SV w' v (bys (cbytes c))) => get5_any v (cbytes c) w' (by omega) hv
    unfold GetP at CG
    rw [get_put c hg h64] at CG
    replace CG := Lib.hid CG
    have CS := (fun w' (hb : Below w.heap.size w w') D (h : SV w' D (bys c.d)) => rsame5_any D (.slice A n m) c c w' h (HD.out.keep (Keeps.below hb)))
    simp only [sameC_self] at CS
    replace CS := Lib.hid CS
    clear hg hn' h64
    generalize hy : cbytes c = y at *
    clear hy
    have hyl : (0 : Int) ≤ y.length := by omega
    have hyl2 : (y.length : Int) ≤ 332 := by omega
    have hll2 : (l.length : Int) ≤ 300 := by omega
    obtain ⟨k, d, lo, hh, v⟩ := c
    unfold cv at CP CK RB RR CG CS ⊢
    go_enter Try.func3, Try.ntmps3
    go_wp2_with (refine wpList_load_row rfl _ _ rfl (w.heap.size) rfl _ _ _ _ (Whole.made w _ _) Try.underlying24 rfl (by kernel_rfl) ?_)
    refine (CP.out _ ((Below.refl _ _).alloc (Nat.le_refl _) _)).mono ?_
    rintro e w1 ⟨v1, rfl, o1, b1⟩
    have p1 := (Whole.made w _ _).on b1
    have S1 := Lib.hid o1.sv
    have B1 := Lib.hid (((Below.refl w.heap.size w).alloc (Nat.le_refl _) _).trans (b1.mono (by simp)))
    clear o1 b1
    go_wp2_with (refine wpList_load_row rfl _ _ rfl (w.heap.size) rfl _ _ _ _ (p1) Try.underlying24 rfl (by kernel_rfl) ?_)
    refine (CK.out _).mono ?_
    rintro e w2 ⟨rfl, b2⟩
    have p2 := p1.on b2
    have S2 := Lib.hid (S1.out.keep (Keeps.below b2))
    have B2 := Lib.hid (B1.out.trans (b2.mono B1.out.size))
    clear b2 p1
    go_wp2_with fail
    refine (code5_any _ _).mono ?_
    rintro e w3 ⟨rfl, rfl⟩
    go_wp2_with fail
    refine wp_region_facts 24 [6] [27, 29, 31, 32] (by kernel_rfl) (by kernel_rfl) (by kernel_rfl) (free_draw w2) ?_
    simp only [List.take_succ_cons, List.take_zero, List.drop_succ_cons, List.drop_zero, List.zipIdx_cons, List.zipIdx_nil, Nat.zero_add, Nat.reduceAdd]
    repeat (first
      | (refine f_skip (fun V => by rfl) ?_; simp only [Act.put, List.setIfInBounds_toArray, List.set_cons_succ, List.set_cons_zero])
        | (refine f_none (by first | exact cls_free _ | exact cls_row _ _ _ _) 22 5 rfl (fun V => by rfl) (by decide) w2.heap.size (fun w hb => Below.size hb) (fun w => by kernel_rfl) ?_; simp only [Act.put, List.setIfInBounds_toArray, List.set_cons_succ, List.set_cons_zero, keyOf, Option.getD_some])
          | (refine f_app0 (by first | exact cls_free _ | exact cls_row _ _ _ _) (.tmp 27) (.tmp 28) 22 rfl 5 i0 (.int .u8 0) 1 Try.underlying22 hi hz0 hz1 hz2 rfl (fun V => by rfl) (by decide) w2.heap.size (fun w hb => Below.size hb) (bys l) _ _ (fun V w hb hk => hk.slot 27 rfl rfl) (fun V w hb hk => HV.out.keep (Keeps.below (B2.out.trans (Below.mono hb B2.out.size)))) (bys_one _) (by rw [bys_len]; unfold maxLen; omega) (by rw [bys_len]; omega) (fun V => by rfl) (fun V => by rfl) ?_; simp only [Act.put, List.setIfInBounds_toArray, List.set_cons_succ, List.set_cons_zero, keyOf, Option.getD_some])
          | (refine f_load_row (by first | exact cls_free _ | exact cls_row _ _ _ _) (fun V => by rfl) _ _ rfl _ (fun V => by rfl) _ _ _ (fun w hb => p2.on hb) Try.underlying24 rfl (by kernel_rfl) ?_; simp only [Act.put, List.setIfInBounds_toArray, List.set_cons_succ, List.set_cons_zero])
          | (refine f_callF (by first | exact cls_free _ | exact cls_row _ _ _ _) (fSV (bys y)) (stays_sv _) (fun V => by rfl) (by decide) 11 _ _ rfl (enters_of Try.func11 rfl rfl) _ (fun V w hb hk => (RB.out w (B2.out.trans (Below.mono hb B2.out.size))).mono fun e w' ⟨v, h1, h2, h3⟩ => ⟨v, h1, h2.sv, h3⟩) (fun V => by rfl) ?_; simp only [Act.put, List.setIfInBounds_toArray, List.set_cons_succ, List.set_cons_zero, keyOf, Option.getD_some])
          | (refine f_app (.tmp 29) (.tmp 31) 22 rfl 5 i0 (.int .u8 0) 1 Try.underlying22 hi hz0 hz1 hz2 rfl (fun V => by rfl) (by decide) (by decide) w2.heap.size (fun w hb => Below.size hb) (fun _ _ h hb => Below.trans h hb) (bys l) (bys y) _ _ (fun V w hb hk => hk.slot 29 rfl rfl) (fun V w hb hk => hk.slot 31 rfl rfl) (bys_one _) (by rw [bys_len, bys_len]; have := HCL.out; unfold maxLen; omega) (by rw [bys_len, bys_len]; have := HCL.out; omega) (fun V => by rfl) (fun V => by rfl) ?_; simp only [Act.put, List.setIfInBounds_toArray, List.set_cons_succ, List.set_cons_zero, keyOf, Option.getD_some])
          | (refine f_call (by first | exact cls_free _ | exact cls_row _ _ _ _) (fun V => by rfl) 10 _ _ rfl (enters_of Try.func10 rfl rfl) _ _ (fun V w hb hk => sameT _ _ (l ++ y) w (S2.out.keep (Keeps.below hb)) (by have h := hk.slot 32 rfl rfl; rw [bys_app]; exact h.sv)) (fun V => by rfl) ?_; simp only [Act.put, List.setIfInBounds_toArray, List.set_cons_succ, List.set_cons_zero])
          | (refine f_call (by first | exact cls_free _ | exact cls_row _ _ _ _) (fun V => by rfl) 12 _ _ rfl (enters_of Try.func12 rfl rfl) _ _ (fun V w hb hk => RR.out w) (fun V => by rfl) ?_; simp only [Act.put, List.setIfInBounds_toArray, List.set_cons_succ, List.set_cons_zero])
      | (refine f_quiet (by first | exact cls_free _ | exact cls_row _ _ _ _) (fun V => by rfl) (fun V => ⟨_, rfl, by simp⟩) ?_; apply Exists.intro; refine And.intro (fun V w hw K hK => ?_) ?_; ((try simp only [Act.put, List.setIfInBounds_toArray, List.set_cons_succ, List.set_cons_zero] at hK); go_big_quiet_op; exact hK); simp only [Act.put, List.setIfInBounds_toArray, List.set_cons_succ, List.set_cons_zero]))
    refine f_nil ?_
    intro V w4 hq hkn
    have B4 := Lib.hid (B2.out.trans (Below.mono hq B2.out.size))
    have p4 := p2.on hq
    have S4 := S2.out.keep (Keeps.below hq)
    obtain ⟨N, hN⟩ : ∃ N, N = l.length + y.length := ⟨_, rfl⟩
    obtain ⟨D, z, rfl⟩ : ∃ D z, v1 = .slice D N z := by obtain ⟨D, z, e, _⟩ := S4; exact ⟨D, z, by rw [bys_len, List.length_append, ← hN] at e; exact e⟩
    have hcut := fun w' => run_cut (P := Try.prog) (kd := .i64) (A := D) (n := N) (c := z) (k := l.length) Try.underlying22 (e := 5) (by kernel_rfl) (by omega) w'
    have scut := S4.cut l.length (by simp)
    have hNy : N - l.length = y.length := by omega
    rw [List.drop_left, hNy] at scut
    simp only [hNy] at hcut
    have hNi : (N : Int) - l.length = y.length := by omega
    have HNI := Lib.hid hNi
    have hN1 : (l.length : Int) ≤ N := by omega
    have hN2 : (N : Int) ≤ 700 := by omega
    clear hNi hNy hN
    have SC := Lib.hid scut
    have HS4 := Lib.hid S4
    generalize (if z = l.length then D else D.map (·.add l.length)) = G at hcut SC
    clear hkn S4 scut
    go_wp2_with fail
    refine (CG.out _ _ SC.out).mono ?_
    rintro e w5 ⟨D5, rfl, s5, b5⟩
    obtain ⟨E5, n5, z5, rfl⟩ : ∃ E n z, D5 = .slice E n z := by obtain ⟨E, z, e, _⟩ := s5; exact ⟨E, _, z, e⟩
    have p5 := p4.on b5
    have B5 := Lib.hid (B4.out.trans (b5.mono B4.out.size))
    have SV5 := Lib.hid s5
    have hsz5 := B5.out.size
    have hlt5 := p5.lt
    clear b5 s5 p4
    go_wp2_with fail
    refine (code5_any _ _).mono ?_
    rintro e w6 ⟨rfl, rfl⟩
    clear hcut
    have hNi := HNI.out
    go_wp2_with (first
      | (refine wpList_load_rowg rfl _ _ rfl (w5.heap.size) rfl _ _ _ _ (Whole.made w5 _ _) Try.underlying24 rfl (by kernel_rfl) ?_)
      | (refine wpList_load_rowg rfl _ _ rfl (w.heap.size) rfl _ _ _ _ (p5.later _) Try.underlying24 rfl (by kernel_rfl) ?_))
    refine (CS.out _ (B5.out.alloc B5.out.size _) _ (SV5.out.keep (Keeps.alloc _ _))).mono ?_
    rintro e w7 ⟨rfl, b7⟩
    have B7 := Lib.hid ((B5.out.alloc B5.out.size _).trans (b7.mono (by simp; omega)))
    clear b7
    go_wp2_with fail
    refine (live5_any _).mono ?_
    rintro e w8 ⟨rfl, b8⟩
    have B8 := Lib.hid (B7.out.trans (b8.mono B7.out.size))
    clear b8
    go_wp2
    go_ret
    exact ⟨rfl, B8.out⟩

theorem sv_open {w : World} {v : Value} {l : List UInt8} (h : SV w v (bys l)) : ∃ A c, v = .slice A l.length c := by obtain ⟨A, c, e, _⟩ := h; exact ⟨A, c, by rw [bys_len] at e; exact e⟩

/-- **CellPuts** holds of any bytes and any cell. -/
theorem puts5_law (v : Value) (l : List UInt8) (D : Value) (c : Cl) (w : World) (hv : SV w v (bys l)) (hl : l.length ≤ 9223372036854775807) (hD : SV w D (bys c.d)) (hd : c.d.length ≤ 9223372036854775807) (h64 : in64c c) :
    Calls Try.prog 3 #[v, cv D c] w fun e w' => e = .returned (.bool true) ∧ Below w.heap.size w w' := by
  obtain ⟨B, p, rfl⟩ := sv_open hv
  obtain ⟨A, m, rfl⟩ := sv_open hD
  by_cases h1 : (300 : Int) < l.length
  · clear hv hD h64
    obtain ⟨k, d, lo, hh, x⟩ := c
    unfold cv
    go_enter Try.func3, Try.ntmps3
    go_wp2_with (go_at_call 6; refine (live5_any _).mono ?_; rintro e w1 ⟨rfl, hb⟩)
    go_ret
    exact ⟨rfl, ((Below.refl _ _).alloc (Nat.le_refl _) _).trans (hb.mono (by simp))⟩
  · by_cases h2 : (300 : Int) < c.d.length
    · clear hv hD h64
      have q1 : decide ((300 : Int) < l.length) = false := by simpa using h1
      obtain ⟨k, d, lo, hh, x⟩ := c
      unfold cv
      simp only at *
      go_enter Try.func3, Try.ntmps3
      go_wp2_with (go_at_call 6; refine (live5_any _).mono ?_; rintro e w1 ⟨rfl, hb⟩)
      go_ret
      exact ⟨rfl, ((Below.refl _ _).alloc (Nat.le_refl _) _).trans (hb.mono (by simp))⟩
    · exact puts5_main B p A _ m c l w hv (by omega) hD (by omega) h64
end Go.Proofs.Ytbljppcfekgogaa
