/- Layer 5: CellSets, CellBack. -/
import Derived.Test.YtbljppcfekgogaaCellLaws
namespace Go.Proofs.Ytbljppcfekgogaa
open Go.RowKit Go.Sort

theorem st_data (c : Cl) (x : Int) : (stC c x).d = [] := by unfold stC; split <;> rfl

set_option maxRecDepth 100000 in
set_option maxHeartbeats 2000000 in
theorem sets5_main (A B : Option Addr) (n m p q : Nat) (c d : Cl) (x : Int) (w : World) (hA : SV w (.slice A n m) (bys c.d)) (hn : n ≤ 300) (hB : SV w (.slice B p q) (bys d.d)) (hp : p ≤ 300) :
    Calls Try.prog 4 #[cv (.slice A n m) c, .int .i64 x, cv (.slice B p q) d] w fun e w' => e = .returned (.bool true) ∧ Below w.heap.size w w' := by
  have hn' : n = c.d.length := by have := hA.bd.1; simpa using this
  have q1 : decide ((300 : Int) < n) = false := by simp; omega
  have q2 : decide ((300 : Int) < p) = false := by simp; omega
  have CS := fun w' => cset_any A n m c x w' hn' (by omega)
  have RS := fun w' (hb : Below w.heap.size w w') => rset5_any A n m c x w' (hA.keep (Keeps.below hb)) (by omega)
  have S1 := fun w' (hb : Below w.heap.size w w') => csame_any (.slice A n m) (.slice B p q) c d w' (hA.keep (Keeps.below hb)) (hB.keep (Keeps.below hb))
  have S2 := fun w' (hb : Below w.heap.size w w') => rsame5_any (.slice A n m) (.slice B p q) c d w' (hA.keep (Keeps.below hb)) (hB.keep (Keeps.below hb))
  have S3 := fun w' (hb : Below w.heap.size w w') => csame_any (.slice A n m) (.slice A n m) c c w' (hA.keep (Keeps.below hb)) (hA.keep (Keeps.below hb))
  have S4 := fun w' D (h : SV w' D (bys (stC c x).d)) => rsame5_any (.slice none 0 0) D (stC c x) (stC c x) w' (by rw [st_data]; exact SV.nil _) h
  simp only [sameC_self] at S3 S4
  unfold SetR at RS
  generalize sameC c d = s at S1 S2
  generalize stC c x = t at *
  generalize stE c x = se at *
  replace CS := Lib.hid CS
  replace RS := Lib.hid RS
  replace S1 := Lib.hid S1
  replace S2 := Lib.hid S2
  replace S3 := Lib.hid S3
  replace S4 := Lib.hid S4
  clear hA hB hn'
  obtain ⟨k, dd, lo, hh, v⟩ := c
  obtain ⟨k2, dd2, lo2, hh2, v2⟩ := d
  obtain ⟨k3, dd3, lo3, hh3, v3⟩ := t
  unfold cv at CS RS S1 S2 S3 S4 ⊢
  simp only at *
  go_enter Try.func4, Try.ntmps4
  go_wp2_with (refine wpList_load_row rfl _ _ rfl (w.heap.size) rfl _ _ _ _ ((Whole.made w _ _).later _) Try.underlying24 rfl (by kernel_rfl) ?_)
  refine (CS.out _).mono ?_
  rintro e w1 ⟨rfl, b1⟩
  have p1 := ((Whole.made w _ _).later _).on b1
  have r1 := (Whole.second w _ _ _).on b1
  have B1 := Lib.hid ((two_more (Below.refl w.heap.size w) _ _).trans (b1.mono (by simp; omega)))
  have hsz1 := B1.out.size
  have hlt1 := p1.lt
  have hlt1' := r1.lt
  clear b1
  go_wp2_with (refine wpList_load_row rfl _ _ rfl (w.heap.size) rfl _ _ _ _ (p1.later _) Try.underlying24 rfl (by kernel_rfl) ?_)
  refine (RS.out _ (B1.out.alloc B1.out.size _)).mono ?_
  rintro e w2 ⟨D2, rfl, sv2, b2⟩
  obtain ⟨E2, z2, rfl⟩ := sv_open sv2
  have p2 := (p1.later _).on b2
  have r2 := (r1.later _).on b2
  have t2 := (Whole.made w1 _ _).on b2
  have B2 := Lib.hid ((B1.out.alloc B1.out.size _).trans (b2.mono (by simp; omega)))
  have SV2 := Lib.hid sv2
  have hlt2 := t2.lt
  clear b2 sv2 p1 r1
  go_wp2_with fail
  have p3 := p2.later (.cells #[.int .i64 k3, .slice E2 dd3.length z2, .int .i64 lo3, .int .i64 hh3, .int .i64 v3] 24)
  have r3 := r2.later (.cells #[.int .i64 k3, .slice E2 dd3.length z2, .int .i64 lo3, .int .i64 hh3, .int .i64 v3] 24)
  have t3 := t2.later (.cells #[.int .i64 k3, .slice E2 dd3.length z2, .int .i64 lo3, .int .i64 hh3, .int .i64 v3] 24)
  have u3 := Whole.made w2 24 #[.int .i64 k3, .slice E2 dd3.length z2, .int .i64 lo3, .int .i64 hh3, .int .i64 v3]
  have SV3 := Lib.hid (SV2.out.keep (Keeps.alloc w2 (.cells #[.int .i64 k3, .slice E2 dd3.length z2, .int .i64 lo3, .int .i64 hh3, .int .i64 v3] 24)))
  have B3 := Lib.hid (B2.out.alloc B2.out.size (.cells #[.int .i64 k3, .slice E2 dd3.length z2, .int .i64 lo3, .int .i64 hh3, .int .i64 v3] 24))
  clear p2 r2 t2
  generalize w2.alloc _ = W at *
  have S1 := fun w' (hb : Free W w') => S1.out w' (B3.out.trans (Below.mono hb B3.out.size))
  have S2 := fun w' (hb : Free W w') => S2.out w' (B3.out.trans (Below.mono hb B3.out.size))
  have S3 := fun w' (hb : Free W w') => S3.out w' (B3.out.trans (Below.mono hb B3.out.size))
  have S4 := fun w' (hb : Free W w') => S4.out w' _ (SV3.out.keep (Keeps.below hb))
  replace S1 := Lib.hid S1
  replace S2 := Lib.hid S2
  replace S3 := Lib.hid S3
  replace S4 := Lib.hid S4
  have LV := Lib.hid live5_any
  have CO := Lib.hid code5_b
  cases s
  all_goals
    refine wp_region_facts 26 [] [] (by kernel_rfl) (by kernel_rfl) (by kernel_rfl) (free_draw W) ?_
    simp only [List.take_succ_cons, List.take_zero, List.drop_succ_cons, List.drop_zero, List.zipIdx_cons, List.zipIdx_nil, Nat.zero_add, Nat.reduceAdd]
    repeat (first
      | (refine f_skip (fun V => by rfl) ?_; simp only [Act.put, List.setIfInBounds_toArray, List.set_cons_succ, List.set_cons_zero])
        | (refine f_load_row (by first | exact cls_free _ | exact cls_row _ _ _ _) (fun V => by rfl) _ _ rfl _ (fun V => by rfl) _ _ _ (fun w hb => t3.on hb) Try.underlying24 rfl (by kernel_rfl) ?_; simp only [Act.put, List.setIfInBounds_toArray, List.set_cons_succ, List.set_cons_zero])
        | (refine f_load_row (by first | exact cls_free _ | exact cls_row _ _ _ _) (fun V => by rfl) _ _ rfl _ (fun V => by rfl) _ _ _ (fun w hb => u3.on hb) Try.underlying24 rfl (by kernel_rfl) ?_; simp only [Act.put, List.setIfInBounds_toArray, List.set_cons_succ, List.set_cons_zero])
        | (refine f_load_row (by first | exact cls_free _ | exact cls_row _ _ _ _) (fun V => by rfl) _ _ rfl _ (fun V => by rfl) _ _ _ (fun w hb => p3.on hb) Try.underlying24 rfl (by kernel_rfl) ?_; simp only [Act.put, List.setIfInBounds_toArray, List.set_cons_succ, List.set_cons_zero])
        | (refine f_load_row (by first | exact cls_free _ | exact cls_row _ _ _ _) (fun V => by rfl) _ _ rfl _ (fun V => by rfl) _ _ _ (fun w hb => r3.on hb) Try.underlying24 rfl (by kernel_rfl) ?_; simp only [Act.put, List.setIfInBounds_toArray, List.set_cons_succ, List.set_cons_zero])
        | (refine f_call (by first | exact cls_free _ | exact cls_row _ _ _ _) (fun V => by rfl) 14 _ _ rfl (enters_of Try.func14 rfl rfl) _ _ (fun V w hb hk => S4.out w hb) (fun V => by rfl) ?_; simp only [Act.put, List.setIfInBounds_toArray, List.set_cons_succ, List.set_cons_zero])
        | (refine f_call (by first | exact cls_free _ | exact cls_row _ _ _ _) (fun V => by rfl) 14 _ _ rfl (enters_of Try.func14 rfl rfl) _ _ (fun V w hb hk => S2.out w hb) (fun V => by rfl) ?_; simp only [Act.put, List.setIfInBounds_toArray, List.set_cons_succ, List.set_cons_zero])
        | (refine f_call (by first | exact cls_free _ | exact cls_row _ _ _ _) (fun V => by rfl) 17 _ _ rfl (enters_of Try.func17 rfl rfl) _ _ (fun V w hb hk => S1.out w hb) (fun V => by rfl) ?_; simp only [Act.put, List.setIfInBounds_toArray, List.set_cons_succ, List.set_cons_zero])
        | (refine f_call (by first | exact cls_free _ | exact cls_row _ _ _ _) (fun V => by rfl) 17 _ _ rfl (enters_of Try.func17 rfl rfl) _ _ (fun V w hb hk => S3.out w hb) (fun V => by rfl) ?_; simp only [Act.put, List.setIfInBounds_toArray, List.set_cons_succ, List.set_cons_zero])
        | (refine f_call (by first | exact cls_free _ | exact cls_row _ _ _ _) (fun V => by rfl) 8 _ _ rfl (enters_of Try.func8 rfl rfl) _ _ (fun V w hb hk => CO.out se w) (fun V => by rfl) ?_; simp only [Act.put, List.setIfInBounds_toArray, List.set_cons_succ, List.set_cons_zero])
        | (refine f_call (by first | exact cls_free _ | exact cls_row _ _ _ _) (fun V => by rfl) 6 _ _ rfl (enters_of Try.func6 rfl rfl) _ _ (fun V w hb hk => LV.out w) (fun V => by rfl) ?_; simp only [Act.put, List.setIfInBounds_toArray, List.set_cons_succ, List.set_cons_zero])
      | (refine f_quiet (by first | exact cls_free _ | exact cls_row _ _ _ _) (fun V => by rfl) (fun V => ⟨_, rfl, by simp⟩) ?_; apply Exists.intro; refine And.intro (fun V w hw K hK => ?_) ?_; ((try simp only [Act.put, List.setIfInBounds_toArray, List.set_cons_succ, List.set_cons_zero] at hK); go_big_quiet_op; exact hK); simp only [Act.put, List.setIfInBounds_toArray, List.set_cons_succ, List.set_cons_zero]))
    refine f_nil ?_
    intro V w4 hq hkn
    have B4 := Lib.hid (B3.out.trans (Below.mono hq B3.out.size))
    clear hkn
    go_wp2
    go_ret
    exact ⟨rfl, B4.out⟩

/-- **CellSets** holds of any two cells and any value. -/
theorem sets5_law (D : Value) (c : Cl) (x : Int) (E : Value) (d : Cl) (w : World) (hD : SV w D (bys c.d)) (hc : c.d.length ≤ 9223372036854775807) (hE : SV w E (bys d.d)) (hd : d.d.length ≤ 9223372036854775807) :
    Calls Try.prog 4 #[cv D c, .int .i64 x, cv E d] w fun e w' => e = .returned (.bool true) ∧ Below w.heap.size w w' := by
  obtain ⟨A, m, rfl⟩ := sv_open hD
  obtain ⟨B, q, rfl⟩ := sv_open hE
  by_cases h1 : (300 : Int) < c.d.length
  · clear hD hE
    obtain ⟨k, dd, lo, hh, v⟩ := c
    obtain ⟨k2, dd2, lo2, hh2, v2⟩ := d
    unfold cv
    simp only at *
    go_enter Try.func4, Try.ntmps4
    go_wp2_with (go_at_call 6; refine (live5_any _).mono ?_; rintro e w1 ⟨rfl, hb⟩)
    go_ret
    exact ⟨rfl, (two_more (Below.refl w.heap.size w) _ _).trans (hb.mono (by simp; omega))⟩
  · by_cases h2 : (300 : Int) < d.d.length
    · clear hD hE
      have q1 : decide ((300 : Int) < c.d.length) = false := by simpa using h1
      obtain ⟨k, dd, lo, hh, v⟩ := c
      obtain ⟨k2, dd2, lo2, hh2, v2⟩ := d
      unfold cv
      simp only at *
      go_enter Try.func4, Try.ntmps4
      go_wp2_with (go_at_call 6; refine (live5_any _).mono ?_; rintro e w1 ⟨rfl, hb⟩)
      go_ret
      exact ⟨rfl, (two_more (Below.refl w.heap.size w) _ _).trans (hb.mono (by simp; omega))⟩
    · exact sets5_main A B _ m _ q c d x w hD (by omega) hE (by omega)

/-- What was set to another value and back. -/
theorem set_back (c : Cl) (x : Int) (hg : good c = true) (hk : c.k = 2) (hx : inB c.lo c.hi x = true) : stC ⟨2, [], c.lo, c.hi, x⟩ c.v = ⟨2, [], c.lo, c.hi, c.v⟩ ∧ stE ⟨2, [], c.lo, c.hi, x⟩ c.v = 0 ∧ good ⟨2, [], c.lo, c.hi, x⟩ = true := by
  have h1 : inB c.lo c.hi c.v = true := by simp [good, hk] at hg; exact hg.2
  have h2 : good ⟨2, [], c.lo, c.hi, x⟩ = true := by simp [good, hx]
  simp [stC, stE, setB, h2, h1]

set_option maxRecDepth 100000 in
set_option maxHeartbeats 2000000 in
theorem back5_no (A : Option Addr) (n m : Nat) (c : Cl) (x : Int) (w : World) (hA : SV w (.slice A n m) (bys c.d)) (hn : n ≤ 300) (h0 : stC c x = zeroC) (h1 : (stE c x != 0) = true) :
    Calls Try.prog 5 #[cv (.slice A n m) c, .int .i64 x] w fun e w' => e = .returned (.bool true) ∧ Below w.heap.size w w' := by
  have hn' : n = c.d.length := by have := hA.bd.1; simpa using this
  have q1 : decide ((300 : Int) < n) = false := by simp; omega
  have CS := fun w' => cset_any A n m c x w' hn' (by omega)
  rw [h0] at CS
  have S1 := fun w' => rsame5_any (.slice none 0 0) (.slice none 0 0) zeroC zeroC w' (SV.nil _) (SV.nil _)
  simp only [sameC_self] at S1
  generalize stE c x = se at *
  replace CS := Lib.hid CS
  replace S1 := Lib.hid S1
  clear hA hn' h0
  obtain ⟨k, dd, lo, hh, v⟩ := c
  unfold cv zeroC at CS S1
  unfold cv
  simp only at *
  go_enter Try.func5, Try.ntmps5
  go_wp2_with (refine wpList_load_row rfl _ _ rfl (w.heap.size) rfl _ _ _ _ (Whole.made w _ _) Try.underlying24 rfl (by kernel_rfl) ?_)
  refine (CS.out _).mono ?_
  rintro e w1 ⟨rfl, b1⟩
  have B1 := Lib.hid (((Below.refl w.heap.size w).alloc (Nat.le_refl _) _).trans (b1.mono (by simp)))
  clear b1
  go_wp2_with fail
  refine (code5_any _ _).mono ?_
  rintro e w2 ⟨rfl, rfl⟩
  go_wp2_with (refine wpList_load_rowg rfl _ _ rfl (w1.heap.size) rfl _ _ _ _ (Whole.made w1 _ _) Try.underlying24 rfl (by kernel_rfl) ?_)
  refine (S1.out _).mono ?_
  rintro e w3 ⟨rfl, b3⟩
  have B3 := Lib.hid ((B1.out.alloc B1.out.size _).trans (b3.mono (by have := B1.out.size; simp; omega)))
  clear b3
  go_wp2_with fail
  refine (live5_any _).mono ?_
  rintro e w4 ⟨rfl, b4⟩
  have B4 := Lib.hid (B3.out.trans (b4.mono B3.out.size))
  clear b4
  go_wp2
  go_ret
  exact ⟨rfl, B4.out⟩

set_option maxRecDepth 100000 in
set_option maxHeartbeats 2000000 in
theorem back5_yes (A : Option Addr) (m : Nat) (lo hh v x : Int) (w : World) (hA : SV w (.slice A 0 m) (bys [])) (hg : good ⟨2, [], lo, hh, v⟩ = true) (hx : inB lo hh x = true) :
    Calls Try.prog 5 #[cv (.slice A 0 m) ⟨2, [], lo, hh, v⟩, .int .i64 x] w fun e w' => e = .returned (.bool true) ∧ Below w.heap.size w w' := by
  obtain ⟨e1, e2, e3⟩ := set_back ⟨2, [], lo, hh, v⟩ x hg rfl hx
  obtain ⟨hx1, hx2⟩ := inB_yes hx
  have CS := fun w' => cset_any A 0 m ⟨2, [], lo, hh, v⟩ x w' rfl (by omega)
  have f1 : stC ⟨2, [], lo, hh, v⟩ x = ⟨2, [], lo, hh, x⟩ ∧ stE ⟨2, [], lo, hh, v⟩ x = 0 := by simp [stC, stE, setB, hg, hx]
  rw [f1.1, f1.2] at CS
  have CT := fun w' => cset_any none 0 0 ⟨2, [], lo, hh, x⟩ v w' rfl (by omega)
  simp only at e1 e2 e3
  rw [e1, e2] at CT
  have CK := fun w' => check5_any none 0 0 ⟨2, [], lo, hh, x⟩ w' rfl (by omega)
  rw [ckC_yes e3] at CK
  have S1 := fun w' (hb : Below w.heap.size w w') => csame_any (.slice none 0 0) (.slice A 0 m) ⟨2, [], lo, hh, v⟩ ⟨2, [], lo, hh, v⟩ w' (SV.nil _) (hA.keep (Keeps.below hb))
  simp only [sameC_self] at S1
  replace CS := Lib.hid CS
  replace CT := Lib.hid CT
  replace CK := Lib.hid CK
  replace S1 := Lib.hid S1
  have HE := Lib.hid e1
  clear hA hg hx e1 e2 e3 f1
  unfold cv at CS CT CK S1 ⊢
  simp only at *
  go_enter Try.func5, Try.ntmps5
  go_wp2_with (refine wpList_load_row rfl _ _ rfl (w.heap.size) rfl _ _ _ _ (Whole.made w _ _) Try.underlying24 rfl (by kernel_rfl) ?_)
  refine (CS.out _).mono ?_
  rintro e w1 ⟨rfl, b1⟩
  have p1 := (Whole.made w _ _).on b1
  have q4 := p1.cell 4
  simp at q4
  have hlt1 := p1.lt
  have B1 := Lib.hid (((Below.refl w.heap.size w).alloc (Nat.le_refl _) _).trans (b1.mono (by simp)))
  clear b1
  go_wp2_with fail
  refine (code5_any _ _).mono ?_
  rintro e w2 ⟨rfl, rfl⟩
  go_wp2_with (refine wpList_load_row rfl _ _ rfl (w1.heap.size) rfl _ _ _ _ (Whole.made w1 _ _) Try.underlying24 rfl (by kernel_rfl) ?_)
  refine (CT.out _).mono ?_
  rintro e w3 ⟨rfl, b3⟩
  have p3 := (p1.later _).on b3
  have r3 := (Whole.made w1 _ _).on b3
  have q42 := r3.cell 2
  have q43 := r3.cell 3
  have q44 := r3.cell 4
  simp at q42 q43 q44
  have hlt3 := r3.lt
  have B3 := Lib.hid ((B1.out.alloc B1.out.size _).trans (b3.mono (by have := B1.out.size; simp; omega)))
  clear b3 p1 q4
  go_wp2_with (refine wpList_load_rowg rfl _ _ rfl (w1.heap.size) rfl _ _ _ _ (r3.later _) Try.underlying24 rfl (by kernel_rfl) ?_)
  refine (CK.out _).mono ?_
  rintro e w4 ⟨rfl, b4⟩
  have p4 := (p3.later _).on b4
  have r4 := (Whole.made w3 _ _).on b4
  have B4 := Lib.hid ((B3.out.alloc B3.out.size _).trans (b4.mono (by have := B3.out.size; simp; omega)))
  clear b4 q42 q43 q44 p3 r3
  go_wp2_with fail
  refine (code5_any _ _).mono ?_
  rintro e w5 ⟨rfl, rfl⟩
  go_wp2_with fail
  refine (code5_any _ _).mono ?_
  rintro e w5 ⟨rfl, rfl⟩
  go_wp2_with (first
    | (refine wpList_load_rowg rfl _ _ rfl (w3.heap.size) rfl _ _ _ _ (r4) Try.underlying24 rfl (by kernel_rfl) ?_)
    | (refine wpList_load_rowg rfl _ _ rfl (w.heap.size) rfl _ _ _ _ (p4) Try.underlying24 rfl (by kernel_rfl) ?_))
  refine (S1.out _ B4.out).mono ?_
  rintro e w6 ⟨rfl, b6⟩
  have B6 := Lib.hid (B4.out.trans (b6.mono B4.out.size))
  clear b6
  go_wp2_with fail
  refine (live5_any _).mono ?_
  rintro e w7 ⟨rfl, b7⟩
  have B7 := Lib.hid (B6.out.trans (b7.mono B6.out.size))
  clear b7
  go_wp2
  go_ret
  exact ⟨rfl, B7.out⟩

/-- **CellBack** holds of any cell and any value. -/
theorem back5_law (D : Value) (c : Cl) (x : Int) (w : World) (hD : SV w D (bys c.d)) (hc : c.d.length ≤ 9223372036854775807) :
    Calls Try.prog 5 #[cv D c, .int .i64 x] w fun e w' => e = .returned (.bool true) ∧ Below w.heap.size w w' := by
  obtain ⟨A, m, rfl⟩ := sv_open hD
  by_cases h1 : (300 : Int) < c.d.length
  · clear hD
    obtain ⟨k, dd, lo, hh, v⟩ := c
    unfold cv
    simp only at *
    go_enter Try.func5, Try.ntmps5
    go_wp2_with (go_at_call 6; refine (live5_any _).mono ?_; rintro e w1 ⟨rfl, hb⟩)
    go_ret
    exact ⟨rfl, ((Below.refl w.heap.size w).alloc (Nat.le_refl _) _).trans (hb.mono (by simp))⟩
  · cases setWay_of c x with
    | kind a e1 e2 => exact back5_no A _ m c x w hD (by omega) e1 (by rw [e2]; rfl)
    | bad a b e1 e2 => exact back5_no A _ m c x w hD (by omega) e1 (by rw [e2]; rfl)
    | out a b h e1 e2 => exact back5_no A _ m c x w hD (by omega) e1 (by rw [e2]; rfl)
    | fine a b hd h e1 e2 =>
      obtain ⟨k, dd, lo, hh, v⟩ := c
      simp only at a hd h
      subst a hd
      exact back5_yes A m lo hh v x w hD b h
end Go.Proofs.Ytbljppcfekgogaa
