/- Layer 7: contracts of the reference's numbers, Put, Zeros, New, Seal. -/
import Derived.Test.YtelamhdnefnceaaPageMath
import Derived.Test.YtelamhdnefnceaaSub
import Derived.Test.YtelamhdnefnceaaSlotRef
namespace Go.Proofs.Ytelamhdnefnceaa
set_option maxRecDepth 20000
open Go.RowKit Go.Sort

theorem rnum_any (v : Value) (l : List UInt8) (a n : Nat) (w : World) (hl : l.length ≤ 1000000) (hv : SV w v (bys l)) (h1 : 1 ≤ n) (h8 : n ≤ 8) (h : a + n ≤ l.length) :
    Calls Try.prog 35 #[v, .int .i64 a, .int .i64 n] w fun e w' => e = .returned (.int .i64 (numA l a n)) ∧ w = w' := by
  go_enter Try.func35, Try.ntmps35
  go_wp2_with fail
  refine (at_yes v l a n _ (by omega) hv h1 h8 h).mono ?_
  rintro e w1 ⟨rfl, rfl⟩
  go_wp2
  go_ret
  exact ⟨rfl, rfl⟩
theorem rno_any (v : Value) (l : List UInt8) (w : World) (hl : l.length = 512) (hv : SV w v (bys l)) :
    Calls Try.prog 8 #[v] w fun e w' => e = .returned (.int .i64 (numA l 12 2)) ∧ w = w' := by
  go_enter Try.func8, Try.ntmps8
  go_wp2_with fail
  refine (rnum_any v l 12 2 _ (by omega) hv (by omega) (by omega) (by omega)).mono ?_
  rintro e w1 ⟨rfl, rfl⟩
  go_wp2
  go_ret
  exact ⟨rfl, rfl⟩
theorem rlsn_any (v : Value) (l : List UInt8) (w : World) (hl : l.length = 512) (hv : SV w v (bys l)) :
    Calls Try.prog 10 #[v] w fun e w' => e = .returned (.int .i64 (numA l 4 8)) ∧ w = w' := by
  go_enter Try.func10, Try.ntmps10
  go_wp2_with fail
  refine (rnum_any v l 4 8 _ (by omega) hv (by omega) (by omega) (by omega)).mono ?_
  rintro e w1 ⟨rfl, rfl⟩
  go_wp2
  go_ret
  exact ⟨rfl, rfl⟩
theorem rnext_any (v : Value) (l : List UInt8) (w : World) (hl : l.length = 512) (hv : SV w v (bys l)) :
    Calls Try.prog 12 #[v] w fun e w' => e = .returned (.int .i64 (numA l 14 2)) ∧ w = w' := by
  go_enter Try.func12, Try.ntmps12
  go_wp2_with fail
  refine (rnum_any v l 14 2 _ (by omega) hv (by omega) (by omega) (by omega)).mono ?_
  rintro e w1 ⟨rfl, rfl⟩
  go_wp2
  go_ret
  exact ⟨rfl, rfl⟩
theorem rnote_any (v : Value) (l : List UInt8) (w : World) (hl : l.length = 512) (hv : SV w v (bys l)) :
    Calls Try.prog 14 #[v] w fun e w' => e = .returned (.int .i64 (numA l 16 8)) ∧ w = w' := by
  go_enter Try.func14, Try.ntmps14
  go_wp2_with fail
  refine (rnum_any v l 16 8 _ (by omega) hv (by omega) (by omega) (by omega)).mono ?_
  rintro e w1 ⟨rfl, rfl⟩
  go_wp2
  go_ret
  exact ⟨rfl, rfl⟩

theorem rput_any (v u : Value) (l c : List UInt8) (a : Nat) (w : World) (hl : l.length ≤ 1000000) (hv : SV w v (bys l)) (hu : SV w u (bys c)) (h : a + c.length ≤ l.length) :
    Calls Try.prog 20 #[v, .int .i64 a, u] w (OwnB (putAt l a c) w) := by
  obtain ⟨i0, hi, hz0, hz1, hz2⟩ := info_parts Try.info5
  have HV := Lib.hid hv
  obtain ⟨C, m, rfl⟩ : ∃ A c', u = .slice A c.length c' := by obtain ⟨A, c', e, _⟩ := hu; exact ⟨A, c', by rw [bys_len] at e; exact e⟩
  have HU := Lib.hid hu
  clear hv hu
  unfold OwnB
  have HE := Lib.hid (show putAt l a c = [] ++ l.take a ++ c ++ l.drop (a + c.length) by rw [List.nil_append]; rfl)
  go_enter Try.func20, Try.ntmps20
  go_wp2_with (first
    | ((at_builtin; refine wpList_appo rfl (.tmp 16) (.tmp 22) 26 rfl (w.heap.size) 5 i0 Try.underlying26 hi hz0 hz1 hz2 (v3) (v4) ([] ++ l.take a ++ c) (l.drop (a + c.length)) rfl rfl (O3.out) (S4.out) (by simp; omega) (HA3.out.size) ?_); intro v5 w5 O5 B5)
    | ((refine wpList_cutsv rfl (.tmp 17) (.tmp 21) rfl Try.underlying26 (by kernel_rfl) _ rfl (l) (HV.out.keep (Keeps.below HA3.out)) _ _ rfl (a + c.length) (by simp) (h) ?_); intro v4 S4)
    | ((at_builtin; refine wpList_appo rfl (.tmp 13) (.tmp 14) 26 rfl (w.heap.size) 5 i0 Try.underlying26 hi hz0 hz1 hz2 (v2) (.slice C c.length m) ([] ++ l.take a) (c) rfl rfl (O2.out) (HU.out.keep (Keeps.below HA2.out)) (by simp; omega) (HA2.out.size) ?_); intro v3 w3 O3 B3; have HA3 := Lib.hid (HA2.out.trans B3.out); clear B3)
    | ((refine wpList_takesv rfl (.tmp 9) (.tmp 10) rfl Try.underlying26 (by kernel_rfl) _ rfl (l) (HV.out.keep (Keeps.alloc _ _)) _ _ rfl (a) (rfl) (by omega) ?_); intro v1 S1)
    | ((at_builtin; refine wpList_appo rfl (.tmp 8) (.tmp 11) 26 rfl (w.heap.size) 5 i0 Try.underlying26 hi hz0 hz1 hz2 (.slice (some ⟨w.heap.size, 0, none⟩) 0 0) (v1) ([]) (l.take a) rfl rfl (World.ownsRow_lit w #[] 0 (Nat.le_refl _) (by decide) rfl) (S1.out) (by simp; omega) (by simp) ?_); intro v2 w2 O2 B2; have HA2 := Lib.hid (((Below.refl w.heap.size w).alloc (Nat.le_refl _) (.cells #[] 5)).trans B2.out); clear B2 S1))
  go_ret
  exact ⟨_, rfl, by rw [HE.out]; exact O5.out, HA3.out.trans B5.out⟩

theorem ownb_bytes (n : Nat) (x : Int) (w : World) (h : n ≤ 8) : Calls Try.prog 21 #[.int .i64 n, .int .i64 x] w (OwnB (beb n (ub x)) w) :=
  (refBytes n x w h).mono fun _ _ ⟨v', h1, h2, h3⟩ => ⟨v', h1, by unfold fOwn; rw [bys_len, beb_len]; exact h2, h3⟩

theorem rzeros_any (n : Nat) (w : World) (hn : n ≤ 1000000) : Calls Try.prog 37 #[.int .i64 n] w (OwnB (List.replicate n 0) w) := by
  obtain ⟨i0, hi, hz0, hz1, hz2⟩ := info_parts Try.info5
  unfold OwnB
  go_enter Try.func37, Try.ntmps37
  go_wp2
  go_loopw [3, 4] (fun b i wr => ∃ k : Nat, k ≤ n ∧ i = .int .i64 k ∧ fOwn w.heap.size 5 (bys (List.replicate k 0)) b wr ∧ Below w.heap.size w wr) (fun _ i _ => n - (intOf i).toNat)
  case atStart => exact ⟨0, by omega, rfl, World.ownsRow_nil _ _ _ _, Below.refl _ _⟩
  case round =>
    obtain ⟨k, hk, rfl, ho, hb⟩ := hrel
    have HO := Lib.hid ho
    have HB := Lib.hid hb
    clear ho hb
    by_cases hlt : k < n
    · go_wp2_with ((at_builtin; refine wpList_appo rfl (.tmp 10) (.tmp 11) 26 rfl (w.heap.size) 5 i0 Try.underlying26 hi hz0 hz1 hz2 (_) (.slice (some ⟨wr.heap.size, 0, none⟩) 1 1) (List.replicate k 0) ([0]) rfl rfl (HO.out.on ((Below.refl _ _).alloc (Nat.le_refl _) _)) (sv_lit wr [0] 1 5 (0, 0) rfl (by omega)) (by simp; omega) (by have := HB.out.size; simp; omega) ?_); intro v2 w2 O2 B2)
      go_roundw
      case rel =>
        have o2 := O2.out
        rw [← List.replicate_succ'] at o2
        exact ⟨k + 1, by omega, by go_num, o2, (HB.out.alloc HB.out.size _).trans B2.out⟩
      case measure => simp [intOf]; omega
    · obtain rfl : k = n := by omega
      go_wp2
      go_ret
      exact ⟨_, rfl, HO.out, HB.out⟩

theorem rnew_any (x : Int) (w : World) : Calls Try.prog 22 #[.int .i64 x] w (OwnB (page0 x) w) := by
  have Z := Lib.hid (fun w => rzeros_any 512 w (by omega))
  have BY := Lib.hid (fun w => ownb_bytes 2 x w (by omega))
  have PU := Lib.hid (fun w v u (hv : SV w v (bys z512)) (hu : SV w u (bys (beb 2 (ub x)))) => rput_any v u z512 (beb 2 (ub x)) 12 w (by simp [z512]) hv hu (by simp [z512]))
  unfold OwnB page0 at *
  generalize beb 2 (ub x) = c at *
  generalize putAt z512 12 c = out at *
  go_enter Try.func22, Try.ntmps22
  go_wp2_with fail
  refine (Z.out _).mono ?_
  rintro e w1 ⟨v1, rfl, o1, b1⟩
  have S1 := Lib.hid o1.sv
  have B1 := Lib.hid b1
  clear o1 b1
  go_wp2_with fail
  refine (BY.out _).mono ?_
  rintro e w2 ⟨v2, rfl, o2, b2⟩
  have S2 := Lib.hid o2.sv
  have B2 := Lib.hid (B1.out.trans (b2.mono B1.out.size))
  have T2 := Lib.hid (S1.out.keep (Keeps.below b2))
  clear o2 b2 S1 B1
  go_wp2_with fail
  refine (PU.out _ _ _ T2.out S2.out).mono ?_
  rintro e w3 ⟨v3, rfl, o3, b3⟩
  go_wp2_with fail
  go_ret
  exact ⟨_, rfl, o3.low B2.out.size, B2.out.trans (b3.mono B2.out.size)⟩

theorem rseal_any (v : Value) (l : List UInt8) (w : World) (hl : l.length = 512) (hv : SV w v (bys l)) :
    Calls Try.prog 32 #[v] w fun e w' => ∃ v', e = .returned v' ∧ SV w' v' (bys (sealP l)) ∧ Below w.heap.size w w' := by
  have HV := Lib.hid hv
  have SE := Lib.hid (fun w v (h : SV w v (bys (l.drop 4))) => refSeal_any v (l.drop 4) w (by simp; omega) h)
  clear hv
  go_enter Try.func32, Try.ntmps32
  go_wp2_with ((refine wpList_cutsv rfl (.tmp 3) (_) rfl Try.underlying26 (by kernel_rfl) _ rfl (l) (HV.out) _ _ rfl (4) (rfl) (by omega) ?_); intro v1 S1)
  refine (SE.out _ _ S1.out).mono ?_
  rintro e w1 ⟨v2, rfl, o1, b1⟩
  go_wp2_with fail
  go_ret
  exact ⟨_, rfl, SV.own (show w1.ownsRow w.heap.size 5 1 v2 (bys (sealP l)).length (bys (sealP l)) by rw [bys_len]; exact o1), b1⟩
end Go.Proofs.Ytelamhdnefnceaa
