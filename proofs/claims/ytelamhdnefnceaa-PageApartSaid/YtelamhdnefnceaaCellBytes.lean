/- Layer 5: the contract of the reference's Bytes; what Get tells of the bytes of a cell. -/
import Derived.Test.YtelamhdnefnceaaCellMath
import Derived.Test.YtelamhdnefnceaaCellRef
import Derived.Test.YtelamhdnefnceaaCellPut
import Derived.Test.YtelamhdnefnceaaCellGet
import Derived.Test.YtelamhdnefnceaaBeRef
import Derived.Test.YtelamhdnefnceaaChecked
namespace Go.Proofs.Ytelamhdnefnceaa
set_option maxRecDepth 20000
open Go.RowKit Go.Sort

theorem byte_cell (d : List UInt8) (h : d.length ≤ 32) : bys (beb 1 (ub d.length)) = [.int .u8 (d.length : Int)] := by
  rw [ub_nat _ (by omega)]
  simp [beb, bys]
  omega

set_option maxHeartbeats 1000000 in
theorem rbytes_any (A : Option Addr) (n m : Nat) (c : Cl) (w : World) (hv : SV w (.slice A n m) (bys c.d)) (hl : n ≤ 1073741824) :
    Calls Try.prog 58 #[cv (.slice A n m) c] w (OwnB (cbytes c) w) := by
  have hn : n = c.d.length := by have := hv.bd.1; simpa using this
  have CC := fun w => right5_any A n m c w hn (by omega)
  obtain ⟨i0, hi, hz0, hz1, hz2⟩ := info_parts Try.info5
  cases hg : good c
  · rw [hg] at CC
    replace CC := Lib.hid CC
    have fin : ∀ w', Below w.heap.size w w' → OwnB (cbytes c) w (.returned (.slice none 0 0)) w' := fun w' hb => ⟨_, rfl, by rw [cbytes_no hg]; exact World.ownsRow_nil _ _ _ _, hb⟩
    have FIN := Lib.hid fin
    clear fin hv hg
    generalize cbytes c = l at *
    obtain ⟨k, d, lo, hh, v⟩ := c
    unfold cv at CC ⊢
    subst hn
    go_enter Try.func58, Try.ntmps58
    go_wp2_with (first
      | (go_at_call 70; refine (CC.out _).mono ?_; rintro e w1 ⟨rfl, b1⟩)
      | (refine wpList_load_row rfl _ _ rfl (w.heap.size) rfl _ _ _ _ (Whole.made w _ _) Try.underlying35 rfl (by kernel_rfl) ?_))
    go_ret
    exact FIN.out _ (((Below.refl _ _).alloc (Nat.le_refl _) _).trans (b1.mono (by simp)))
  · rw [hg] at CC
    replace CC := Lib.hid CC
    by_cases hk : c.k = 1
    · have hd : c.d.length ≤ 32 := by simp [good, hk] at hg; omega
      rw [cbytes_rec hg hk]
      obtain ⟨k, d, lo, hh, v⟩ := c
      simp only at *
      subst hk
      clear hg
      unfold cv at CC ⊢
      have HE := Lib.hid (byte_cell d hd)
      have HV := Lib.hid hv
      clear hv
      subst hn
      have h0 : (0 : Int) ≤ d.length := by omega
      have h255 : (d.length : Int) ≤ 255 := by omega
      go_enter Try.func58, Try.ntmps58
      go_wp2_with (refine wpList_load_row rfl _ _ rfl (w.heap.size) rfl _ _ _ _ (Whole.made w _ _) Try.underlying35 rfl (by kernel_rfl) ?_)
      refine (CC.out _).mono ?_
      rintro e w1 ⟨rfl, b1⟩
      have b1' := ((Below.refl w.heap.size w).alloc (Nat.le_refl _) _).trans (b1.mono (by simp))
      have p1 := (Whole.made w _ _).on b1
      have q0 := p1.cell 0
      have q1 := p1.cell 1
      simp at q0 q1
      have B1 := Lib.hid b1'
      clear b1 b1'
      have hlt1 : w.heap.size < w1.heap.size := p1.lt
      have L1 := Lib.hid (World.ownsRow_lit (base := w1.heap.size) (e := 5) (size := 1) w1 #[.int .u8 1] 1 (Nat.le_refl _) (by decide) rfl)
      have L2 := Lib.hid (show SV ((w1.alloc (.cells #[.int .u8 1] 5)).alloc (.cells #[.int .u8 (d.length : Int)] 5)) (.slice (some ⟨w1.heap.size + 1, 0, none⟩) 1 1) [.int .u8 (d.length : Int)] by simpa using sv_row (w1.alloc (.cells #[.int .u8 1] 5)) [.int .u8 (d.length : Int)] 1 5 (0, 0) rfl (by omega))
      go_wp2_with (first
        | (at_builtin; refine wpList_app _ rfl (.tmp 21) (.tmp 23) 26 rfl w1.heap.size 5 i0 (.int .u8 0) 1 Try.underlying26 hi hz0 hz1 hz2 rfl v2 ([.int .u8 1] ++ [.int .u8 (d.length : Int)]) rfl (.inl O2.out) _ (bys d) rfl (HV.out.keep (Keeps.below (B1.out.trans (Below.mono B2.out B1.out.size)))) (bys_one _) (by simp [maxLen]; omega) (by simp; omega) B2.out.size ?_; intro v3 w3 happ3; have O3 := Lib.hid (happ3.own (.inr O2.out)); have B3 := Lib.hid (B2.out.trans (happ3.below B2.out.size)); clear happ3)
        | (at_builtin; refine wpList_app _ rfl (.tmp 14) (.tmp 19) 26 rfl w1.heap.size 5 i0 (.int .u8 0) 1 Try.underlying26 hi hz0 hz1 hz2 rfl _ [.int .u8 1] rfl (.inl ((L1.out).alloc _)) _ [.int .u8 (d.length : Int)] rfl L2.out (by intro u hu; simp only [List.mem_singleton] at hu; subst hu; rfl) (by simp [maxLen]) (by simp) (by simp; omega) ?_; intro v2 w2 happ2; have O2 := Lib.hid (happ2.own (.inr ((L1.out).alloc _))); have B2 := Lib.hid ((((Below.refl w1.heap.size w1).alloc (Nat.le_refl _) _).alloc (by simp) _).trans (happ2.below (by simp; omega))); have q2 := Keeps.below B2.out _ _ q1; clear happ2))
      go_ret
      refine ⟨_, rfl, ?_, B1.out.trans (Below.mono B3.out B1.out.size)⟩
      have := O3.out
      rw [← HE.out, show ([Value.int .u8 1] : List Value) = bys (beb 1 (ub 1)) from rfl, ← bys_app, ← bys_app] at this
      unfold fOwn
      rw [← List.append_assoc]
      exact own_lower this B1.out.size
    · have hk2 : c.k = 2 := by simp [good, hk] at hg; exact hg.1.1
      rw [cbytes_cnt hg hk2]
      obtain ⟨k, d, lo, hh, v⟩ := c
      simp only at *
      subst hk2
      clear hg hk hv
      unfold cv at CC ⊢
      subst hn
      have RB := Lib.hid (fun x w => refBytes 8 x w (by omega))
      go_enter Try.func58, Try.ntmps58
      go_wp2_with (refine wpList_load_row rfl _ _ rfl (w.heap.size) rfl _ _ _ _ (Whole.made w _ _) Try.underlying35 rfl (by kernel_rfl) ?_)
      refine (CC.out _).mono ?_
      rintro e w1 ⟨rfl, b1⟩
      have b1' := ((Below.refl w.heap.size w).alloc (Nat.le_refl _) _).trans (b1.mono (by simp))
      have p1 := (Whole.made w _ _).on b1
      have q0 := p1.cell 0
      have q2 := p1.cell 2
      have q3 := p1.cell 3
      have q4 := p1.cell 4
      simp at q0 q2 q3 q4
      have BW := Lib.hid b1'
      have hlt1 : w.heap.size < w1.heap.size := p1.lt
      have L1 := Lib.hid (World.ownsRow_lit (base := w1.heap.size) (e := 5) (size := 1) w1 #[.int .u8 2] 1 (Nat.le_refl _) (by decide) rfl)
      have B1 := Lib.hid ((Below.refl w1.heap.size w1).alloc (Nat.le_refl _) (.cells #[.int .u8 2] 5))
      clear b1 b1'
      go_wp2_with fail
      refine (RB.out lo _).mono ?_
      rintro e w2 ⟨x2, rfl, o2, b2⟩
      have S2 := Lib.hid (SV.own o2)
      have B2 := Lib.hid (B1.out.trans (b2.mono B1.out.size))
      have P2 := Lib.hid (ownsRow_later L1.out b2)
      clear o2 b2
      go_wp2_with (at_builtin; refine wpList_app _ rfl (.tmp 25) (.tmp 28) 26 rfl w1.heap.size 5 i0 (.int .u8 0) 1 Try.underlying26 hi hz0 hz1 hz2 rfl _ [.int .u8 2] rfl (.inl P2.out) _ (bys (beb 8 (ub lo))) rfl S2.out (bys_one _) (by simp [maxLen]) (by simp) B2.out.size ?_; intro x3 w3 happ3; have O3 := Lib.hid (happ3.own (.inr P2.out)); have B3 := Lib.hid (B2.out.trans (happ3.below B2.out.size)); have r3 := Keeps.below B3.out _ _ q3; have r4 := Keeps.below B3.out _ _ q4; clear happ3)
      refine (RB.out hh _).mono ?_
      rintro e w4 ⟨x4, rfl, o4, b4⟩
      have S4 := Lib.hid (SV.own o4)
      have B4 := Lib.hid (B3.out.trans (b4.mono B3.out.size))
      have P4 := Lib.hid (ownsRow_later O3.out b4)
      clear o4 b4
      go_wp2_with (at_builtin; refine wpList_app _ rfl (.tmp 30) (.tmp 33) 26 rfl w1.heap.size 5 i0 (.int .u8 0) 1 Try.underlying26 hi hz0 hz1 hz2 rfl x3 ([.int .u8 2] ++ bys (beb 8 (ub lo))) rfl (.inl P4.out) _ (bys (beb 8 (ub hh))) rfl S4.out (bys_one _) (by simp [maxLen]) (by simp) B4.out.size ?_; intro x5 w5 happ5; have O5 := Lib.hid (happ5.own (.inr P4.out)); have B5 := Lib.hid (B4.out.trans (happ5.below B4.out.size)); have s4 := Keeps.below B5.out _ _ q4; clear happ5)
      refine (RB.out v _).mono ?_
      rintro e w6 ⟨x6, rfl, o6, b6⟩
      have S6 := Lib.hid (SV.own o6)
      have B6 := Lib.hid (B5.out.trans (b6.mono B5.out.size))
      have P6 := Lib.hid (ownsRow_later O5.out b6)
      clear o6 b6
      go_wp2_with (at_builtin; refine wpList_app _ rfl (.tmp 35) (.tmp 38) 26 rfl w1.heap.size 5 i0 (.int .u8 0) 1 Try.underlying26 hi hz0 hz1 hz2 rfl x5 ([.int .u8 2] ++ bys (beb 8 (ub lo)) ++ bys (beb 8 (ub hh))) rfl (.inl P6.out) _ (bys (beb 8 (ub v))) rfl S6.out (bys_one _) (by simp [maxLen]) (by simp) B6.out.size ?_; intro x7 w7 happ7; have O7 := Lib.hid (happ7.own (.inr P6.out)); have B7 := Lib.hid (B6.out.trans (happ7.below B6.out.size)); clear happ7)
      go_ret
      refine ⟨_, rfl, ?_, BW.out.trans (Below.mono B7.out BW.out.size)⟩
      have := O7.out
      rw [show ([Value.int .u8 2] : List Value) = bys (beb 1 (ub 2)) from rfl, ← bys_app, ← bys_app, ← bys_app, List.append_assoc, List.append_assoc] at this
      exact own_lower this BW.out.size

theorem rd_has (m U : Nat) (r : List UInt8) : rdHas (beb m U ++ r, false) m = true := by simp [rdHas]
theorem rdI_beb (m U : Nat) (r : List UInt8) : rdI (beb m U ++ r, false) m = wrap64 ((U % 256 ^ m : Nat) : Int) := by
  unfold rdI
  simp only [rd_has, if_true, List.take_left' (beb_len m U), numOf_beb]
theorem rdS_beb (m U : Nat) (r : List UInt8) : rdS (beb m U ++ r, false) m = (r, false) := by
  unfold rdS
  simp only [rd_has, if_true, List.drop_left' (beb_len m U)]
theorem wrap_ub (x : Int) (h : -9223372036854775808 ≤ x ∧ x ≤ 9223372036854775807) : wrap64 ((ub x % 256 ^ 8 : Nat) : Int) = x := by
  have h1 := ub_lt x
  rw [Nat.mod_eq_of_lt (by omega)]
  have h2 := ub_cast x
  unfold wrap64
  omega
theorem wrap_one (n : Nat) (h : n ≤ 255) : wrap64 ((ub n % 256 ^ 1 : Nat) : Int) = n := by
  rw [ub_nat n (by omega), Nat.mod_eq_of_lt (by omega)]
  unfold wrap64
  omega

theorem get_put (c : Cl) (hg : good c = true) (h : in64c c) : getC (cbytes c) = (c, ((cbytes c).length : Int), 0) := by
  obtain ⟨-, hlo, hhi, hv⟩ := h
  by_cases hk : c.k = 1
  · have hd : c.d.length ≤ 32 := by simp [good, hk] at hg; omega
    have hz : c.lo = 0 ∧ c.hi = 0 ∧ c.v = 0 := by simp [good, hk] at hg; omega
    have hl : (cbytes c).length ≤ 257 := by rw [cbytes_rec hg hk]; simp; omega
    unfold getC
    rw [List.take_of_length_le hl]
    have e1 := wrap_one 1 (by omega)
    have e2 := wrap_one c.d.length (by omega)
    have R : readC (cbytes c) = (c, ([], false)) := by
      rw [cbytes_rec hg hk]
      unfold readC
      simp only [rdI_beb, rdS_beb]
      have e1' : wrap64 ((ub 1 % 256 ^ 1 : Nat) : Int) = 1 := e1
      rw [e1', if_pos rfl, e2]
      have hh : rdHas (c.d, false) c.d.length = true := by simp [rdHas]
      simp only [Int.toNat_natCast, rdB, rdS, hh, if_true, List.take_length, List.drop_length]
      obtain ⟨k, d, lo, hi, v⟩ := c
      simp only at *
      obtain ⟨rfl, rfl, rfl⟩ := hz
      rw [hk]
    rw [R]
    simp [hg]
  · have hk2 : c.k = 2 := by simp [good, hk] at hg; exact hg.1.1
    have hl : (cbytes c).length ≤ 257 := by rw [cbytes_cnt hg hk2]; simp
    have hd := good_data hg hk2
    unfold getC
    rw [List.take_of_length_le hl]
    have R : readC (cbytes c) = (c, ([], false)) := by
      rw [cbytes_cnt hg hk2]
      unfold readC
      have e1 : wrap64 ((ub 2 % 256 ^ 1 : Nat) : Int) = 2 := wrap_one 2 (by omega)
      have e3 := rdI_beb 8 (ub c.v) []
      have e4 := rdS_beb 8 (ub c.v) []
      rw [List.append_nil] at e3 e4
      simp only [rdI_beb, rdS_beb, e1, e3, e4, wrap_ub _ hlo, wrap_ub _ hhi, wrap_ub _ hv]
      rw [if_neg (by omega), if_pos trivial]
      obtain ⟨k, d, lo, hi, v⟩ := c
      simp only at *
      rw [hk2, hd]
    rw [R]
    simp [hg]
end Go.Proofs.Ytelamhdnefnceaa
