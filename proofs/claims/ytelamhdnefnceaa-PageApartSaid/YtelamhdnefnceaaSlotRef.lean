/- Layer 6: contracts of the reference's functions: Same, Right, Bytes; a cell's Get. -/
import Derived.Test.YtelamhdnefnceaaSlot
import Derived.Test.YtelamhdnefnceaaCellBytes
namespace Go.Proofs.Ytelamhdnefnceaa
set_option maxRecDepth 20000
open Go.RowKit Go.Sort

theorem risame_any (D E : Value) (a b : It) (w : World) (hD : SV w D (bys a.c.d)) (hE : SV w E (bys b.c.d)) :
    Calls Try.prog 27 #[iv D a, iv E b] w fun e w' => e = .returned (.bool (sameI a b)) ∧ Below w.heap.size w w' := by
  have hs := isame_of a b
  generalize sameI a b = s at *
  have CS := fun w' (hb : Below w.heap.size w w') => rsame5_any D E a.c b.c w' (hD.keep (Keeps.below hb)) (hE.keep (Keeps.below hb))
  clear hD hE
  obtain ⟨st, k, c⟩ := a
  obtain ⟨st', k', c'⟩ := b
  cases hs with
  | s h1 =>
    simp only at *
    clear CS
    obtain ⟨kd, d, lo, hi, v⟩ := c
    obtain ⟨kd', d', lo', hi', v'⟩ := c'
    unfold iv
    go_enter Try.func27, Try.ntmps27
    go_wp2
    go_ret
    exact ⟨rfl, two_more (Below.refl _ _) _ _⟩
  | k h1 h2 =>
    simp only at *
    clear CS
    obtain ⟨kd, d, lo, hi, v⟩ := c
    obtain ⟨kd', d', lo', hi', v'⟩ := c'
    unfold iv
    go_enter Try.func27, Try.ntmps27
    go_wp2
    go_ret
    exact ⟨rfl, two_more (Below.refl _ _) _ _⟩
  | c h1 h2 x h3 =>
    simp only at *
    rw [h3] at CS
    replace CS := Lib.hid CS
    clear h3
    obtain ⟨kd, d, lo, hi, v⟩ := c
    obtain ⟨kd', d', lo', hi', v'⟩ := c'
    unfold iv
    unfold cv at CS
    go_enter Try.func27, Try.ntmps27
    go_wp2_with (first
      | (go_at_call 43; refine (CS.out _ (two_more (Below.refl _ _) _ _)).mono ?_; rintro e w1 ⟨rfl, b1⟩)
      | (refine wpList_load_midg rfl 35 (.tmp 18) rfl (w.heap.size) 2 rfl [.int .i64 kd, D, .int .i64 lo, .int .i64 hi, .int .i64 v] _ (((Whole.made w _ _).later _).mid 2 5 rfl) Try.underlying35 rfl (by kernel_rfl) ?_)
      | (refine wpList_load_midg rfl 35 (.tmp 20) rfl (w.heap.size + 1) 2 rfl [.int .i64 kd', E, .int .i64 lo', .int .i64 hi', .int .i64 v'] _ ((Whole.second w _ _ _).mid 2 5 rfl) Try.underlying35 rfl (by kernel_rfl) ?_))
    go_ret
    exact ⟨rfl, bthen (two_more (Below.refl _ _) _ _) b1⟩

theorem riright_any (A : Option Addr) (n m : Nat) (x : It) (w : World) (hD : SV w (.slice A n m) (bys x.c.d)) (hn : n ≤ 1000000) (hk : x.k.length ≤ 1000000) :
    Calls Try.prog 55 #[iv (.slice A n m) x] w fun e w' => e = .returned (.bool (goodI x)) ∧ Below w.heap.size w w' := by
  have hw := iway_of x
  have hn' : n = x.c.d.length := by have := hD.bd.1; simpa using this
  generalize goodI x = g at *
  cases hw with
  | zero h b hb =>
    have CS := fun w' (hb : Below w.heap.size w w') => risame_any (.slice A n m) (.slice none 0 0) x zeroI w' (hD.keep (Keeps.below hb)) (SV.nil _)
    rw [hb] at CS
    replace CS := Lib.hid CS
    clear hb hn' hD
    obtain ⟨st, k, kd, d, lo, hi, v⟩ := x
    simp only at h
    subst h
    unfold iv zeroI zeroC at CS
    unfold iv
    simp only at *
    go_enter Try.func55, Try.ntmps55
    go_wp2_with (first
      | (refine wpList_load_row rfl _ _ rfl (w.heap.size) rfl _ _ _ _ (Whole.made w _ _) Try.underlying37 rfl (by kernel_rfl) ?_)
      | (go_at_call 27; refine (CS.out _ ((Below.refl _ _).alloc (Nat.le_refl _) _)).mono ?_; rintro e w1 ⟨rfl, b1⟩))
    go_ret
    exact ⟨rfl, ((Below.refl w.heap.size w).alloc (Nat.le_refl _) _).trans (b1.mono (by simp))⟩
  | none h0 h1 h2 =>
    clear hD hn'
    obtain ⟨st, k, kd, d, lo, hi, v⟩ := x
    simp only at *
    unfold iv
    go_enter Try.func55, Try.ntmps55
    go_wp2
    go_ret
    exact ⟨rfl, (Below.refl _ _).alloc (Nat.le_refl _) _⟩
  | key h hk' =>
    have CK := fun w => kright x.k w (by omega)
    rw [hk'] at CK
    replace CK := Lib.hid CK
    clear hD hn' hk'
    obtain ⟨st, k, kd, d, lo, hi, v⟩ := x
    simp only at *
    unfold iv
    rcases h with rfl | rfl
    all_goals
      go_enter Try.func55, Try.ntmps55
      go_wp2_with (go_at_call 69; refine (CK.out _).mono ?_; rintro e w1 ⟨rfl, rfl⟩)
      go_ret
      exact ⟨rfl, (Below.refl _ _).alloc (Nat.le_refl _) _⟩
  | cell h hk' b hc =>
    have CK := fun w => kright x.k w (by omega)
    rw [hk'] at CK
    replace CK := Lib.hid CK
    have CC := fun w => right5_any A n m x.c w hn' (by omega)
    rw [hc] at CC
    replace CC := Lib.hid CC
    clear hD hn' hk' hc
    obtain ⟨st, k, kd, d, lo, hi, v⟩ := x
    simp only at *
    unfold iv
    unfold cv at CC
    simp only at CC ⊢
    rcases h with rfl | rfl
    all_goals
      go_enter Try.func55, Try.ntmps55
      go_wp2_with (first
        | (go_at_call 70; refine (CC.out _).mono ?_; rintro e w2 ⟨rfl, b2⟩)
        | (go_at_call 69; refine (CK.out _).mono ?_; rintro e w1 ⟨rfl, rfl⟩)
        | (refine wpList_load_midg rfl 35 (.tmp 23) rfl (w.heap.size) 2 rfl [.int .i64 kd, .slice A n m, .int .i64 lo, .int .i64 hi, .int .i64 v] _ ((Whole.made w _ _).mid 2 5 rfl) Try.underlying35 rfl (by kernel_rfl) ?_))
      go_ret
      exact ⟨rfl, ((Below.refl w.heap.size w).alloc (Nat.le_refl _) _).trans (b2.mono (by simp))⟩

/-- How long a slice is. -/
def slen : Value → Nat
  | .slice _ n _ => n
  | _ => 0

theorem ribytes_none (A : Option Addr) (n m : Nat) (x : It) (w : World) (hD : SV w (.slice A n m) (bys x.c.d)) (hn : n ≤ 1000000) (hk : x.k.length ≤ 1000000) (h : x.s = 0 ∨ goodI x = false) :
    Calls Try.prog 44 #[iv (.slice A n m) x] w (OwnB (pad []) w) := by
  have CR := fun w' (hb : Below w.heap.size w w') => riright_any A n m x w' (hD.keep (Keeps.below hb)) hn hk
  obtain ⟨i0, hi, hz0, hz1, hz2⟩ := info_parts Try.info5
  unfold pad OwnB
  by_cases h0 : x.s = 0
  · clear CR h hD
    obtain ⟨st, k, kd, d, lo, hi', v⟩ := x
    simp only at h0
    subst h0
    unfold iv
    go_enter Try.func44, Try.ntmps44
    go_wp2_with fail
    go_loopw [3] (fun b wr => ∃ j, (([] : List UInt8)).length + j ≤ 64 ∧ fOwn w.heap.size 5 (bys (([] : List UInt8) ++ List.replicate j 0)) b wr ∧ Below w.heap.size w wr ∧ w.heap.size ≤ wr.heap.size) (fun b _ => 64 - slen b)
    case atStart => exact ⟨0, by simp, World.ownsRow_nil _ _ _ _, (Below.refl _ _).alloc (Nat.le_refl _) _, by simp⟩
    case round =>
      obtain ⟨j, hj, ho, hb, hB⟩ := hrel
      obtain ⟨A', c', e1, h1, h2⟩ := ho.sv
      obtain ⟨N, hN⟩ : ∃ N, N = (bys (([] : List UInt8) ++ List.replicate j 0)).length := ⟨_, rfl⟩
      rw [← hN] at e1 h1
      have hN' : N = (([] : List UInt8)).length + j := by rw [hN]; simp [bys]
      have HO := Lib.hid ho
      have HB := Lib.hid hb
      have HBB := Lib.hid hB
      clear hN ho hb hB h2
      subst e1
      by_cases hlt : N < 64
      · have hlt' : (N : Int) < 64 := by omega
        go_wp2_with ((at_builtin; refine wpList_appo rfl (.tmp 33) (.tmp 34) 26 rfl (w.heap.size) 5 i0 Try.underlying26 hi hz0 hz1 hz2 (.slice A' N c') (.slice (some ⟨wr.heap.size, 0, none⟩) 1 1) (([] : List UInt8) ++ List.replicate j 0) ([0]) rfl rfl (HO.out.on ((Below.refl _ _).alloc (Nat.le_refl _) _)) (sv_lit wr [0] 1 5 (0, 0) rfl (by omega)) (by simp at hN' ⊢; omega) (by have := HBB.out; simp; omega) ?_); intro v2 w2 O2 B2)
        go_roundw
        case rel =>
          have e2 : ([] : List UInt8) ++ List.replicate j 0 ++ [0] = ([] : List UInt8) ++ List.replicate (j + 1) (0 : UInt8) := by rw [List.append_assoc, ← List.replicate_succ']
          have o2 := O2.out
          rw [e2] at o2
          exact ⟨j + 1, by omega, o2, (HB.out.alloc HB.out.size _).trans (B2.out.mono (Nat.le_refl _)), by have := B2.out.size; have := HBB.out; simp at *; omega⟩
        case measure =>
          obtain ⟨A2, c2, e2, _⟩ := O2.out.sv
          have e3 : slen v2 = N + 1 := by rw [e2]; simp [slen, bys] at hN' ⊢; omega
          have e4 : slen (Value.slice A' N c') = N := rfl
          rw [e3, e4]; omega
      · have hge : ¬ ((N : Int) < 64) := by omega
        have HE := Lib.hid (show j = 64 - (([] : List UInt8)).length by omega)
        clear hN' hlt h1 hj
        go_wp2
        go_ret
        refine ⟨_, rfl, ?_, HB.out⟩
        have := HO.out
        rw [HE.out] at this
        exact this.low (Nat.le_refl _)
  · have hg : goodI x = false := by rcases h with h | h; exact absurd h h0; exact h
    rw [hg] at CR
    replace CR := Lib.hid CR
    have hs : (x.s != 0) = true := by simpa using h0
    clear h hD h0 hg
    obtain ⟨st, k, kd, d, lo, hi', v⟩ := x
    simp only at hs
    unfold iv at CR ⊢
    go_enter Try.func44, Try.ntmps44
    go_wp2_with (first
      | (refine wpList_load_row rfl _ _ rfl (w.heap.size) rfl _ _ _ _ (Whole.made w _ _) Try.underlying37 rfl (by kernel_rfl) ?_)
      | (go_at_call 55; refine (CR.out _ ((Below.refl _ _).alloc (Nat.le_refl _) _)).mono ?_; rintro e w1 ⟨rfl, b1⟩; have B1 := Lib.hid (((Below.refl w.heap.size w).alloc (Nat.le_refl _) _).trans (b1.mono (by simp))); clear b1))
    clear CR
    go_loopw [3] (fun b wr => ∃ j, (([] : List UInt8)).length + j ≤ 64 ∧ fOwn w.heap.size 5 (bys (([] : List UInt8) ++ List.replicate j 0)) b wr ∧ Below w.heap.size w wr ∧ w.heap.size ≤ wr.heap.size) (fun b _ => 64 - slen b)
    case atStart => exact ⟨0, by simp, World.ownsRow_nil _ _ _ _, B1.out, B1.out.size⟩
    case round =>
      obtain ⟨j, hj, ho, hb, hB⟩ := hrel
      obtain ⟨A', c', e1, h1, h2⟩ := ho.sv
      obtain ⟨N, hN⟩ : ∃ N, N = (bys (([] : List UInt8) ++ List.replicate j 0)).length := ⟨_, rfl⟩
      rw [← hN] at e1 h1
      have hN' : N = (([] : List UInt8)).length + j := by rw [hN]; simp [bys]
      have HO := Lib.hid ho
      have HB := Lib.hid hb
      have HBB := Lib.hid hB
      clear hN ho hb hB h2
      subst e1
      by_cases hlt : N < 64
      · have hlt' : (N : Int) < 64 := by omega
        go_wp2_with ((at_builtin; refine wpList_appo rfl (.tmp 33) (.tmp 34) 26 rfl (w.heap.size) 5 i0 Try.underlying26 hi hz0 hz1 hz2 (.slice A' N c') (.slice (some ⟨wr.heap.size, 0, none⟩) 1 1) (([] : List UInt8) ++ List.replicate j 0) ([0]) rfl rfl (HO.out.on ((Below.refl _ _).alloc (Nat.le_refl _) _)) (sv_lit wr [0] 1 5 (0, 0) rfl (by omega)) (by simp at hN' ⊢; omega) (by have := HBB.out; simp; omega) ?_); intro v2 w2 O2 B2)
        go_roundw
        case rel =>
          have e2 : ([] : List UInt8) ++ List.replicate j 0 ++ [0] = ([] : List UInt8) ++ List.replicate (j + 1) (0 : UInt8) := by rw [List.append_assoc, ← List.replicate_succ']
          have o2 := O2.out
          rw [e2] at o2
          exact ⟨j + 1, by omega, o2, (HB.out.alloc HB.out.size _).trans (B2.out.mono (Nat.le_refl _)), by have := B2.out.size; have := HBB.out; simp at *; omega⟩
        case measure =>
          obtain ⟨A2, c2, e2, _⟩ := O2.out.sv
          have e3 : slen v2 = N + 1 := by rw [e2]; simp [slen, bys] at hN' ⊢; omega
          have e4 : slen (Value.slice A' N c') = N := rfl
          rw [e3, e4]; omega
      · have hge : ¬ ((N : Int) < 64) := by omega
        have HE := Lib.hid (show j = 64 - (([] : List UInt8)).length by omega)
        clear hN' hlt h1 hj
        go_wp2
        go_ret
        refine ⟨_, rfl, ?_, HB.out⟩
        have := HO.out
        rw [HE.out] at this
        exact this.low (Nat.le_refl _)

theorem two_cells (st : Int) (h : st = 1 ∨ st = 2) (k : List UInt8) (hk : k.length ≤ 32) : bys (beb 1 (ub st) ++ beb 1 (ub k.length)) = [.int .u8 st, .int .u8 (k.length : Int)] := by
  rw [bys_app, byte_cell k hk]
  rcases h with rfl | rfl <;> rfl

theorem ribytes_good (A : Option Addr) (n m : Nat) (x : It) (w : World) (hD : SV w (.slice A n m) (bys x.c.d)) (hn : n ≤ 1000000) (hk : x.k.length ≤ 1000000) (h0 : x.s ≠ 0) (hg : goodI x = true) :
    Calls Try.prog 44 #[iv (.slice A n m) x] w (OwnB (sbytes x) w) := by
  have CR := fun w' (hb : Below w.heap.size w w') => riright_any A n m x w' (hD.keep (Keeps.below hb)) hn hk
  rw [hg] at CR
  replace CR := Lib.hid CR
  obtain ⟨i0, hi, hz0, hz1, hz2⟩ := info_parts Try.info5
  obtain ⟨hst, hkey, _⟩ := goodI_parts h0 hg
  have hkl := (key_len hkey).2
  have HB := Lib.hid (ibytes_yes h0 hg)
  have hib := ibytes_len x
  unfold sbytes pad OwnB
  generalize ibytes x = ib at *
  have HD := Lib.hid hD
  clear hg h0 hD hk hkey
  obtain ⟨st, k, kd, d, lo, hi', v⟩ := x
  simp only at hst hkl HB HD
  have H2 := Lib.hid (two_cells st hst k (by omega))
  have CB := Lib.hid (fun w' (hb : Below w.heap.size w w') => rbytes_any A n m ⟨kd, d, lo, hi', v⟩ w' (HD.out.keep (Keeps.below hb)) (by omega))
  have hk0 : (0 : Int) ≤ k.length := by omega
  have hk1 : (k.length : Int) ≤ 255 := by omega
  unfold iv at CR ⊢
  rcases hst with rfl | rfl
  all_goals
    go_enter Try.func44, Try.ntmps44
    go_wp2_with (refine wpList_load_row rfl _ _ rfl (w.heap.size) rfl _ _ _ _ (Whole.made w _ _) Try.underlying37 rfl (by kernel_rfl) ?_)
    refine (CR.out _ ((Below.refl _ _).alloc (Nat.le_refl _) _)).mono ?_
    rintro e w1 ⟨rfl, b1⟩
    have p1 := (Whole.made w _ _).on b1
    have q0 := p1.cell 0
    have q1 := p1.cell 1
    simp at q0 q1
    have B1 := Lib.hid (((Below.refl w.heap.size w).alloc (Nat.le_refl _) _).trans (b1.mono (by simp)))
    have hlt := p1.lt
    clear b1
    unfold cv at CB
    go_wp2_with (first
      | ((at_builtin; refine wpList_appo rfl (.tmp 25) (.tmp 28) 26 rfl (w1.heap.size) 5 i0 Try.underlying26 hi hz0 hz1 hz2 (v3) (v4) (beb 1 (ub _) ++ beb 1 (ub k.length) ++ k) (cbytes ⟨kd, d, lo, hi', v⟩) rfl rfl (O4.out) (S4.out) (by have h := hib; rw [HB.out] at h; simp at h ⊢; omega) (B4.out.size) ?_); intro v5 w5 O5 B5)
      | (go_at_call 58; refine (CB.out _ (B1.out.trans (B3.out.mono B1.out.size))).mono ?_; rintro e w4 ⟨v4, rfl, o4, b4⟩; have S4 := Lib.hid o4.sv; have O4 := Lib.hid (O3.out.on b4); have B4 := Lib.hid (B3.out.trans (b4.mono B3.out.size)); clear o4 b4)
      | (refine wpList_load_midg rfl 35 (.tmp 26) rfl (w.heap.size) 2 rfl [.int .i64 kd, .slice A n m, .int .i64 lo, .int .i64 hi', .int .i64 v] _ (p3.mid 2 5 rfl) Try.underlying35 rfl (by kernel_rfl) ?_)
      | ((at_builtin; refine wpList_apps rfl (.tmp 21) (.tmp 23) 26 9 rfl (w1.heap.size) 5 i0 Try.underlying26 Try.underlying9 hi hz0 hz1 hz2 (v2) (beb 1 (ub _) ++ beb 1 (ub k.length)) (k) rfl rfl (O2.out) (by simp; omega) (B2.out.size) ?_); intro v3 w3 O3 b3; have p3 := p2.below b3.out hlt; have B3 := Lib.hid (B2.out.trans b3.out); clear b3)
      | ((at_builtin; refine wpList_appo rfl (.tmp 11) (.tmp 19) 26 rfl (w1.heap.size) 5 i0 Try.underlying26 hi hz0 hz1 hz2 (.slice none 0 0) (.slice (some ⟨w1.heap.size, 0, none⟩) 2 2) ([]) (beb 1 (ub _) ++ beb 1 (ub k.length)) rfl rfl (World.ownsRow_nil _ _ _ _) (by rw [H2.out]; exact sv_row w1 _ 2 5 (0, 0) rfl (by omega)) (by simp) (by simp) ?_); intro v2 w2 O2 b2; have p2 := Whole.below (p1.later _) b2.out hlt; have q2 := p2.cell 1; simp at q2; have B2 := Lib.hid (((Below.refl w1.heap.size w1).alloc (Nat.le_refl _) _).trans b2.out); clear b2))
    have o6 := O5.out
    rw [← HB.out] at o6
    have O6 := Lib.hid o6
    have B6 := Lib.hid (B1.out.trans ((B4.out.trans B5.out).mono B1.out.size))
    have Z6 := Lib.hid (B4.out.trans B5.out).size
    clear o6 O5 O4 O3 O2 B5 B4 B3 B2 S4 p1 p2 p3 q0 q1 q2 CR CB H2 HB HD hk0 hk1 hlt hkl
    go_loopw [3] (fun b wr => ∃ j, (ib).length + j ≤ 64 ∧ fOwn w1.heap.size 5 (bys (ib ++ List.replicate j 0)) b wr ∧ Below w.heap.size w wr ∧ w1.heap.size ≤ wr.heap.size) (fun b _ => 64 - slen b)
    case atStart => exact ⟨0, by omega, by simpa using O6.out, B6.out, Z6.out⟩
    case round =>
      obtain ⟨j, hj, ho, hb, hB⟩ := hrel
      obtain ⟨A', c', e1, h1, h2⟩ := ho.sv
      obtain ⟨N, hN⟩ : ∃ N, N = (bys (ib ++ List.replicate j 0)).length := ⟨_, rfl⟩
      rw [← hN] at e1 h1
      have hN' : N = (ib).length + j := by rw [hN]; simp [bys]
      have HO := Lib.hid ho
      have HB := Lib.hid hb
      have HBB := Lib.hid hB
      clear hN ho hb hB h2
      subst e1
      by_cases hlt : N < 64
      · have hlt' : (N : Int) < 64 := by omega
        go_wp2_with ((at_builtin; refine wpList_appo rfl (.tmp 33) (.tmp 34) 26 rfl (w1.heap.size) 5 i0 Try.underlying26 hi hz0 hz1 hz2 (.slice A' N c') (.slice (some ⟨wr.heap.size, 0, none⟩) 1 1) (ib ++ List.replicate j 0) ([0]) rfl rfl (HO.out.on ((Below.refl _ _).alloc (Nat.le_refl _) _)) (sv_lit wr [0] 1 5 (0, 0) rfl (by omega)) (by simp at hN' ⊢; omega) (by have := HBB.out; simp; omega) ?_); intro v2 w2 O2 B2)
        go_roundw
        case rel =>
          have e2 : ib ++ List.replicate j 0 ++ [0] = ib ++ List.replicate (j + 1) (0 : UInt8) := by rw [List.append_assoc, ← List.replicate_succ']
          have o2 := O2.out
          rw [e2] at o2
          exact ⟨j + 1, by omega, o2, (HB.out.alloc HB.out.size _).trans (B2.out.mono B1.out.size), by have := B2.out.size; have := HBB.out; simp at *; omega⟩
        case measure =>
          obtain ⟨A2, c2, e2, _⟩ := O2.out.sv
          have e3 : slen v2 = N + 1 := by rw [e2]; simp [slen, bys] at hN' ⊢; omega
          have e4 : slen (Value.slice A' N c') = N := rfl
          rw [e3, e4]; omega
      · have hge : ¬ ((N : Int) < 64) := by omega
        have HE := Lib.hid (show j = 64 - (ib).length by omega)
        clear hN' hlt h1 hj
        go_wp2
        go_ret
        refine ⟨_, rfl, ?_, HB.out⟩
        have := HO.out
        rw [HE.out] at this
        exact this.low B1.out.size

theorem ribytes_any (A : Option Addr) (n m : Nat) (x : It) (w : World) (hD : SV w (.slice A n m) (bys x.c.d)) (hn : n ≤ 1000000) (hk : x.k.length ≤ 1000000) :
    Calls Try.prog 44 #[iv (.slice A n m) x] w (OwnB (sbytes x) w) := by
  by_cases h0 : x.s = 0
  · unfold sbytes; rw [ibytes_no (.inl h0)]; exact ribytes_none A n m x w hD hn hk (.inl h0)
  · cases hg : goodI x
    · unfold sbytes; rw [ibytes_no (.inr hg)]; exact ribytes_none A n m x w hD hn hk (.inr hg)
    · exact ribytes_good A n m x w hD hn hk h0 hg
end Go.Proofs.Ytelamhdnefnceaa
