/- Layer 6: the contracts of the reference's Gets: of a cell, of an item. -/
import Derived.Test.YtelamhdnefnceaaSlotRef
namespace Go.Proofs.Ytelamhdnefnceaa
set_option maxRecDepth 20000
open Go.RowKit Go.Sort

theorem num1_lt (l : List UInt8) : numOf (l.take 1) < 256 := by
  match l with
  | [] => simp [numOf]
  | x :: r => have := x.toNat_lt; simp [numOf]; omega
theorem wrap_num1 (l : List UInt8) : wrap64 (numOf (l.take 1) : Int) = numOf (l.take 1) := by
  have := num1_lt l
  unfold wrap64
  omega

def RGet5P (l : List UInt8) (w : World) (e : Ending) (w' : World) : Prop := ∃ D, e = .returned (.tuple #[cv D (refC l).1, .int .i64 (refC l).2.1, .int .i64 (refC l).2.2]) ∧ SV w' D (bys (refC l).1.d) ∧ Below w.heap.size w w'

theorem rget5_two (B : Option Addr) (p : Nat) (l : List UInt8) (w : World) (h25 : 25 ≤ l.length) (hl : l.length ≤ 1000000) (hv : SV w (.slice B l.length p) (bys l)) (hk : numOf (l.take 1) = 2) :
    Calls Try.prog 54 #[.slice B l.length p] w (RGet5P l w) := by
  have A0 := (fun w' h => at_yes (.slice B l.length p) l 0 1 w' (by omega) h (by omega) (by omega) (by omega))
  rw [List.drop_zero, wrap_num1, hk] at A0
  have A1 := (fun w' h => at_yes (.slice B l.length p) l 1 8 w' (by omega) h (by omega) (by omega) (by omega))
  have A9 := (fun w' h => at_yes (.slice B l.length p) l 9 8 w' (by omega) h (by omega) (by omega) (by omega))
  have A17 := (fun w' h => at_yes (.slice B l.length p) l 17 8 w' (by omega) h (by omega) (by omega) (by omega))
  have hG : refC l = if inB (wrap64 (numOf ((l.drop 1).take 8))) (wrap64 (numOf ((l.drop 9).take 8))) (wrap64 (numOf ((l.drop 17).take 8))) then
      (⟨2, [], wrap64 (numOf ((l.drop 1).take 8)), wrap64 (numOf ((l.drop 9).take 8)), wrap64 (numOf ((l.drop 17).take 8))⟩, 25, 0)
    else (zeroC, 0, 12) := by unfold refC; rw [if_pos hk]
  generalize wrap64 (numOf ((l.drop 1).take 8)) = lo at *
  generalize wrap64 (numOf ((l.drop 9).take 8)) = hi at *
  generalize wrap64 (numOf ((l.drop 17).take 8)) = x at *
  have HV := Lib.hid (hv.keep (Keeps.alloc w (.cells #[.int .i64 0, .slice none 0 0, .int .i64 0, .int .i64 0, .int .i64 0] 35)))
  replace A0 := Lib.hid A0
  replace A1 := Lib.hid A1
  replace A9 := Lib.hid A9
  replace A17 := Lib.hid A17
  clear hv hk h25 hl
  cases hb : inB lo hi x
  · have HG := Lib.hid (show refC l = (zeroC, 0, 12) by rw [hG, hb]; rfl)
    clear hG
    have hway : (x < lo) ∨ (decide (x < lo) = false ∧ hi < x) := by
      rcases inB_no hb with h4 | ⟨h4, h5⟩
      · left; simp at h4; omega
      · right; simp at h4 h5; exact ⟨by simp; omega, by omega⟩
    clear hb
    rcases hway with h4 | ⟨h4, h5⟩
    all_goals
      go_enter Try.func54, Try.ntmps54
      go_wp2_with fail
      refine (A0.out _ HV.out).mono ?_
      rintro e w1 ⟨rfl, rfl⟩
      go_wp2_with fail
      refine (A1.out _ HV.out).mono ?_
      rintro e w1 ⟨rfl, rfl⟩
      go_wp2_with fail
      refine (A9.out _ HV.out).mono ?_
      rintro e w1 ⟨rfl, rfl⟩
      go_wp2_with fail
      refine (A17.out _ HV.out).mono ?_
      rintro e w1 ⟨rfl, rfl⟩
      go_wp2_with (refine wpList_store_row rfl _ _ _ rfl (w.heap.size) _ rfl rfl _ _ Whole.made w _ _ (by kernel_rfl) rfl (by simp [Value.oneCell']) ?_)
      refine bodyPost_ret (v := .tuple #[.agg #[.int .i64 0, .slice none 0 0, .int .i64 0, .int .i64 0, .int .i64 0], .int .i64 0, .int .i64 12]) ?_ rfl ?_
      · exact results_cell_tmp2 rfl _ _ (w.heap.size) _ _ (0, 0) _ rfl ((Whole.made w _ _)) Try.underlying35 rfl (by kernel_rfl) _ _ rfl rfl
      · unfold RGet5P
        rw [HG.out]
        exact ⟨_, rfl, SV.nil _, (Below.refl _ _).alloc (Nat.le_refl _) _⟩
  · have HG := Lib.hid (show refC l = (⟨2, [], lo, hi, x⟩, 25, 0) by rw [hG, hb]; rfl)
    obtain ⟨h4, h5⟩ := inB_yes hb
    have hc1 : decide (x < lo) = false := by simp; omega
    have hc2 : decide (hi < x) = false := by simp; omega
    clear hG hb h4 h5
    go_enter Try.func54, Try.ntmps54
    go_wp2_with fail
    refine (A0.out _ HV.out).mono ?_
    rintro e w1 ⟨rfl, rfl⟩
    go_wp2_with fail
    refine (A1.out _ HV.out).mono ?_
    rintro e w1 ⟨rfl, rfl⟩
    go_wp2_with fail
    refine (A9.out _ HV.out).mono ?_
    rintro e w1 ⟨rfl, rfl⟩
    go_wp2_with fail
    refine (A17.out _ HV.out).mono ?_
    rintro e w1 ⟨rfl, rfl⟩
    go_wp2_with (refine wpList_store_row rfl _ _ _ rfl (w.heap.size) _ rfl rfl _ _ Whole.made w _ _ (by kernel_rfl) rfl (by simp [Value.oneCell']) ?_)
    refine bodyPost_ret (v := .tuple #[.agg #[.int .i64 2, .slice none 0 0, .int .i64 lo, .int .i64 hi, .int .i64 x], .int .i64 25, .int .i64 0]) ?_ rfl ?_
    · exact results_cell_tmp2 rfl _ _ (w.heap.size) _ _ (0, 0) _ rfl ((Whole.made w _ _)) Try.underlying35 rfl (by kernel_rfl) _ _ rfl rfl
    · unfold RGet5P
      rw [HG.out]
      exact ⟨_, rfl, SV.nil _, (Below.refl _ _).alloc (Nat.le_refl _) _⟩

theorem rget5_none (B : Option Addr) (p : Nat) (l : List UInt8) (w : World) (h25 : 25 ≤ l.length) (hl : l.length ≤ 1000000) (hv : SV w (.slice B l.length p) (bys l)) (k1 : numOf (l.take 1) ≠ 1) (k2 : numOf (l.take 1) ≠ 2) :
    Calls Try.prog 54 #[.slice B l.length p] w (RGet5P l w) := by
  have A0 := (fun w' h => at_yes (.slice B l.length p) l 0 1 w' (by omega) h (by omega) (by omega) (by omega))
  rw [List.drop_zero, wrap_num1] at A0
  have HG := Lib.hid (show refC l = (zeroC, 0, 12) by unfold refC; rw [if_neg k2, if_pos k1])
  generalize numOf (l.take 1) = kd at *
  have HV := Lib.hid (hv.keep (Keeps.alloc w (.cells #[.int .i64 0, .slice none 0 0, .int .i64 0, .int .i64 0, .int .i64 0] 35)))
  replace A0 := Lib.hid A0
  have c1 : ((kd : Int) == 2) = false := by simp; omega
  have c2 : ((kd : Int) != 1) = true := by simp; omega
  clear hv h25 hl k1 k2
  go_enter Try.func54, Try.ntmps54
  go_wp2_with fail
  refine (A0.out _ HV.out).mono ?_
  rintro e w1 ⟨rfl, rfl⟩
  go_wp2_with (refine wpList_store_row rfl _ _ _ rfl (w.heap.size) _ rfl rfl _ _ Whole.made w _ _ (by kernel_rfl) rfl (by simp [Value.oneCell']) ?_)
  refine bodyPost_ret (v := .tuple #[.agg #[.int .i64 0, .slice none 0 0, .int .i64 0, .int .i64 0, .int .i64 0], .int .i64 0, .int .i64 12]) ?_ rfl ?_
  · exact results_cell_tmp2 rfl _ _ (w.heap.size) _ _ (0, 0) _ rfl ((Whole.made w _ _)) Try.underlying35 rfl (by kernel_rfl) _ _ rfl rfl
  · unfold RGet5P
    rw [HG.out]
    exact ⟨_, rfl, SV.nil _, (Below.refl _ _).alloc (Nat.le_refl _) _⟩

theorem rget5_one (B : Option Addr) (p : Nat) (l : List UInt8) (w : World) (h25 : 25 ≤ l.length) (hl : l.length ≤ 1000000) (hv : SV w (.slice B l.length p) (bys l)) (hk : numOf (l.take 1) = 1) :
    Calls Try.prog 54 #[.slice B l.length p] w (RGet5P l w) := by
  have A0 := (fun w' h => at_yes (.slice B l.length p) l 0 1 w' (by omega) h (by omega) (by omega) (by omega))
  rw [List.drop_zero, wrap_num1, hk] at A0
  have A1 := (fun w' h => at_yes (.slice B l.length p) l 1 1 w' (by omega) h (by omega) (by omega) (by omega))
  rw [wrap_num1] at A1
  have hG : refC l = if l.length < numOf ((l.drop 1).take 1) + 2 then (zeroC, 0, 13)
    else if 32 < numOf ((l.drop 1).take 1) then (zeroC, 0, 12)
    else (⟨1, (l.drop 2).take (numOf ((l.drop 1).take 1)), 0, 0, 0⟩, 2 + (numOf ((l.drop 1).take 1) : Int), 0) := by
    unfold refC; rw [if_neg (by omega), if_neg (by omega)]
  generalize numOf ((l.drop 1).take 1) = n at *
  replace A0 := Lib.hid A0
  replace A1 := Lib.hid A1
  have HV := Lib.hid (hv.keep (Keeps.alloc w (.cells #[.int .i64 0, .slice none 0 0, .int .i64 0, .int .i64 0, .int .i64 0] 35)))
  have hb := hv.bd
  by_cases h1 : l.length < n + 2
  · have HG := Lib.hid (show refC l = (zeroC, 0, 13) by rw [hG, if_pos h1])
    have c1 : (l.length : Int) - 2 < n := by omega
    clear hG hv hb
    go_enter Try.func54, Try.ntmps54
    go_wp2_with fail
    refine (A0.out _ HV.out).mono ?_
    rintro e w1 ⟨rfl, rfl⟩
    go_wp2_with fail
    refine (A1.out _ HV.out).mono ?_
    rintro e w1 ⟨rfl, rfl⟩
    go_wp2_with (refine wpList_store_row rfl _ _ _ rfl (w.heap.size) _ rfl rfl _ _ Whole.made w _ _ (by kernel_rfl) rfl (by simp [Value.oneCell']) ?_)
    refine bodyPost_ret (v := .tuple #[.agg #[.int .i64 0, .slice none 0 0, .int .i64 0, .int .i64 0, .int .i64 0], .int .i64 0, .int .i64 13]) ?_ rfl ?_
    · exact results_cell_tmp2 rfl _ _ (w.heap.size) _ _ (0, 0) _ rfl ((Whole.made w _ _)) Try.underlying35 rfl (by kernel_rfl) _ _ rfl rfl
    · unfold RGet5P
      rw [HG.out]
      exact ⟨_, rfl, SV.nil _, (Below.refl _ _).alloc (Nat.le_refl _) _⟩
  · have c1 : ¬ ((l.length : Int) - 2 < n) := by omega
    by_cases h2 : 32 < n
    · have HG := Lib.hid (show refC l = (zeroC, 0, 12) by rw [hG, if_neg h1, if_pos h2])
      have c2 : (32 : Int) < n := by omega
      clear hG hv hb
      go_enter Try.func54, Try.ntmps54
      go_wp2_with fail
      refine (A0.out _ HV.out).mono ?_
      rintro e w1 ⟨rfl, rfl⟩
      go_wp2_with fail
      refine (A1.out _ HV.out).mono ?_
      rintro e w1 ⟨rfl, rfl⟩
      go_wp2_with (refine wpList_store_row rfl _ _ _ rfl (w.heap.size) _ rfl rfl _ _ Whole.made w _ _ (by kernel_rfl) rfl (by simp [Value.oneCell']) ?_)
      refine bodyPost_ret (v := .tuple #[.agg #[.int .i64 0, .slice none 0 0, .int .i64 0, .int .i64 0, .int .i64 0], .int .i64 0, .int .i64 12]) ?_ rfl ?_
      · exact results_cell_tmp2 rfl _ _ (w.heap.size) _ _ (0, 0) _ rfl ((Whole.made w _ _)) Try.underlying35 rfl (by kernel_rfl) _ _ rfl rfl
      · unfold RGet5P
        rw [HG.out]
        exact ⟨_, rfl, SV.nil _, (Below.refl _ _).alloc (Nat.le_refl _) _⟩
    · have HG := Lib.hid (show refC l = (⟨1, (l.drop 2).take n, 0, 0, 0⟩, 2 + (n : Int), 0) by rw [hG, if_neg h1, if_neg h2])
      have c2 : ¬ ((32 : Int) < n) := by omega
      have hm := fun w' => run_mid (P := Try.prog) (A := B) (n := l.length) (c := p) (a := 2) (b := 2 + n) (k1 := .i64) (k2 := .i64) (i := 2) (j := 2 + (n : Int)) Try.underlying26 (e := 5) (by kernel_rfl) rfl (by omega) (by omega) (by omega) w'
      have sm := hv.mid8 2 (2 + n) (by omega) (by omega)
      rw [Nat.add_sub_cancel_left] at sm
      simp only [Nat.add_sub_cancel_left] at hm
      generalize (if p = 2 then B else B.map (·.add 2)) = D at hm sm
      have SM := Lib.hid sm
      have hlen : ((l.drop 2).take n).length = n := by simp; omega
      clear hG hv hb sm h1 h2
      have hn0 : (0 : Int) ≤ n := by omega
      have hn1 : (n : Int) ≤ 32 := by omega
      go_enter Try.func54, Try.ntmps54
      go_wp2_with fail
      refine (A0.out _ HV.out).mono ?_
      rintro e w1 ⟨rfl, rfl⟩
      go_wp2_with fail
      refine (A1.out _ HV.out).mono ?_
      rintro e w1 ⟨rfl, rfl⟩
      go_wp2_with (refine wpList_store_row rfl _ _ _ rfl (w.heap.size) _ rfl rfl _ _ Whole.made w _ _ (by kernel_rfl) rfl (by simp [Value.oneCell']) ?_)
      refine bodyPost_ret (v := .tuple #[.agg #[.int .i64 1, .slice D n (p - 2), .int .i64 0, .int .i64 0, .int .i64 0], .int .i64 (2 + (n : Int)), .int .i64 0]) ?_ rfl ?_
      · exact results_cell_tmp2 rfl _ _ (w.heap.size) _ _ (0, 0) _ rfl ((Whole.made w _ _)) Try.underlying35 rfl (by kernel_rfl) _ _ rfl rfl
      · unfold RGet5P
        rw [HG.out]
        exact ⟨_, rfl, SM.out.keep (Keeps.alloc _ _), (Below.refl _ _).alloc (Nat.le_refl _) _⟩

theorem rget5_any (v : Value) (l : List UInt8) (w : World) (h25 : 25 ≤ l.length) (hl : l.length ≤ 1000000) (hv : SV w v (bys l)) : Calls Try.prog 54 #[v] w (RGet5P l w) := by
  obtain ⟨B, p, rfl⟩ : ∃ B p, v = .slice B l.length p := by obtain ⟨A, c, e, _⟩ := hv; exact ⟨A, c, by rw [bys_len] at e; exact e⟩
  by_cases h1 : numOf (l.take 1) = 1
  · exact rget5_one B p l w h25 hl hv h1
  · by_cases h2 : numOf (l.take 1) = 2
    · exact rget5_two B p l w h25 hl hv h2
    · exact rget5_none B p l w h25 hl hv h1 h2

def RGet6P (l : List UInt8) (w : World) (e : Ending) (w' : World) : Prop := ∃ D, e = .returned (.tuple #[iv D (refI l).1, .int .i64 (refI l).2]) ∧ SV w' D (bys (refI l).1.c.d) ∧ Below w.heap.size w w'

theorem rget6_zero (B : Option Addr) (p : Nat) (l : List UInt8) (w : World) (hl : l.length = 64) (hv : SV w (.slice B 64 p) (bys l)) (hk : numOf (l.take 1) = 0) :
    Calls Try.prog 41 #[.slice B 64 p] w (RGet6P l w) := by
  have A0 := (fun w' h => at_yes (.slice B 64 p) l 0 1 w' (by omega) h (by omega) (by omega) (by omega))
  rw [List.drop_zero, wrap_num1, hk] at A0
  have A1 := (fun w' h => at_yes (.slice B 64 p) l 1 1 w' (by omega) h (by omega) (by omega) (by omega))
  rw [wrap_num1] at A1
  generalize numOf ((l.drop 1).take 1) = n at A1
  have CB := fun w' => ribytes_any none 0 0 zeroI w' (SV.nil _) (by omega) (by simp [zeroI])
  rw [sbytes_no (.inl rfl)] at CB
  unfold iv zeroI zeroC at CB
  simp only at CB
  have HG := Lib.hid (show refI l = (if l = z64 then (zeroI, 0) else (zeroI, 12)) by unfold refI; rw [if_pos hk])
  have SM := fun w' u (hb : Below w.heap.size w w') h => same_any (.slice B 64 p) u l z64 w' (hv.keep (Keeps.below hb)) h
  generalize hq : (l == z64) = q at SM
  have HQ := Lib.hid hq
  replace A0 := Lib.hid A0
  replace A1 := Lib.hid A1
  replace CB := Lib.hid CB
  replace SM := Lib.hid SM
  have HV := Lib.hid (hv.keep (Keeps.alloc w (.cells #[.int .i64 0, .string ⟨#[]⟩, .int .i64 0, .slice none 0 0, .int .i64 0, .int .i64 0, .int .i64 0] 37)))
  clear hv hk hl hq
  go_enter Try.func41, Try.ntmps41
  go_wp2_with fail
  refine (A0.out _ HV.out).mono ?_
  rintro e w1 ⟨rfl, rfl⟩
  go_wp2_with fail
  refine (A1.out _ HV.out).mono ?_
  rintro e w1 ⟨rfl, rfl⟩
  go_wp2_with fail
  refine (CB.out _).mono ?_
  rintro e w2 ⟨v2, rfl, o2, b2⟩
  have p2 := (Whole.made w _ _).on b2
  have B2 := Lib.hid (((Below.refl w.heap.size w).alloc (Nat.le_refl _) _).trans (b2.mono (by simp)))
  have S2 := Lib.hid o2.sv
  clear b2 o2
  go_wp2_with fail
  refine (SM.out _ _ B2.out S2.out).mono ?_
  rintro e w3 ⟨rfl, rfl⟩
  cases q with
  | true =>
    have HG' := Lib.hid (show refI l = _ by rw [HG.out, if_pos (beq_iff_eq.1 HQ.out)])
    clear HG HQ
    go_wp2_with (refine wpList_store_row rfl _ (.tmp 2) (.tmp 28) rfl w.heap.size _ rfl rfl _ _ p2 (by kernel_rfl) rfl (by simp [Value.oneCell']) ?_)
    refine bodyPost_ret (v := .tuple #[.agg #[.int .i64 0, .string ⟨#[]⟩, .int .i64 0, .slice none 0 0, .int .i64 0, .int .i64 0, .int .i64 0], .int .i64 0]) ?_ rfl ?_
    · exact results_cell_tmp rfl _ _ (w.heap.size) _ _ (0, 0) _ rfl (setRow_heap _ _ _ _ _ _ p2) Try.underlying37 rfl (by kernel_rfl) _ rfl
    · unfold RGet6P
      rw [HG'.out]
      exact ⟨_, rfl, SV.nil _, below_setRow B2.out (Nat.le_refl _) _⟩
  | false =>
    have HG' := Lib.hid (show refI l = _ by rw [HG.out, if_neg (beq_eq_false_iff_ne.1 HQ.out)])
    clear HG HQ
    go_wp2_with (refine wpList_store_row rfl _ (.tmp 2) (.tmp 29) rfl w.heap.size _ rfl rfl _ _ p2 (by kernel_rfl) rfl (by simp [Value.oneCell']) ?_)
    refine bodyPost_ret (v := .tuple #[.agg #[.int .i64 0, .string ⟨#[]⟩, .int .i64 0, .slice none 0 0, .int .i64 0, .int .i64 0, .int .i64 0], .int .i64 12]) ?_ rfl ?_
    · exact results_cell_tmp rfl _ _ (w.heap.size) _ _ (0, 0) _ rfl (setRow_heap _ _ _ _ _ _ p2) Try.underlying37 rfl (by kernel_rfl) _ rfl
    · unfold RGet6P
      rw [HG'.out]
      exact ⟨_, rfl, SV.nil _, below_setRow B2.out (Nat.le_refl _) _⟩

theorem rget6_long (B : Option Addr) (p : Nat) (l : List UInt8) (w : World) (hl : l.length = 64) (hv : SV w (.slice B 64 p) (bys l)) (hk : numOf (l.take 1) ≠ 0) (hn : 16 < numOf ((l.drop 1).take 1)) :
    Calls Try.prog 41 #[.slice B 64 p] w (RGet6P l w) := by
  have A0 := (fun w' h => at_yes (.slice B 64 p) l 0 1 w' (by omega) h (by omega) (by omega) (by omega))
  rw [List.drop_zero, wrap_num1] at A0
  have A1 := (fun w' h => at_yes (.slice B 64 p) l 1 1 w' (by omega) h (by omega) (by omega) (by omega))
  rw [wrap_num1] at A1
  have HG := Lib.hid (show refI l = (zeroI, 12) by unfold refI; rw [if_neg hk, if_pos hn])
  generalize numOf ((l.drop 1).take 1) = n at *
  generalize numOf (l.take 1) = st at *
  replace A0 := Lib.hid A0
  replace A1 := Lib.hid A1
  have HV := Lib.hid (hv.keep (Keeps.alloc w (.cells #[.int .i64 0, .string ⟨#[]⟩, .int .i64 0, .slice none 0 0, .int .i64 0, .int .i64 0, .int .i64 0] 37)))
  have c1 : ((st : Int) == 0) = false := by simp; omega
  have c2 : (16 : Int) < n := by omega
  clear hv hk hl hn
  go_enter Try.func41, Try.ntmps41
  go_wp2_with fail
  refine (A0.out _ HV.out).mono ?_
  rintro e w1 ⟨rfl, rfl⟩
  go_wp2_with fail
  refine (A1.out _ HV.out).mono ?_
  rintro e w1 ⟨rfl, rfl⟩
  go_wp2_with (refine wpList_store_row rfl _ (.tmp 2) (.tmp 32) rfl w.heap.size _ rfl rfl _ _ (Whole.made w _ _) (by kernel_rfl) rfl (by simp [Value.oneCell']) ?_; rw [World.setRow_alloc_new])
  refine bodyPost_ret (v := .tuple #[.agg #[.int .i64 0, .string ⟨#[]⟩, .int .i64 0, .slice none 0 0, .int .i64 0, .int .i64 0, .int .i64 0], .int .i64 12]) ?_ rfl ?_
  · exact results_cell_tmp rfl _ _ (w.heap.size) _ _ (0, 0) _ rfl ((Whole.made w _ _)) Try.underlying37 rfl (by kernel_rfl) _ rfl
  · unfold RGet6P
    rw [HG.out]
    exact ⟨_, rfl, SV.nil _, (Below.refl _ _).alloc (Nat.le_refl _) _⟩
end Go.Proofs.Ytelamhdnefnceaa
