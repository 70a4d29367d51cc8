/- Layer 7: contracts of the reference's numbers, Put, Zeros, New, Seal. -/
import Derived.Test.YtafmggipmaofnaaPageMath
import Derived.Test.YtafmggipmaofnaaSub
import Derived.Test.YtafmggipmaofnaaSlotRef
namespace Go.Proofs.Ytafmggipmaofnaa
set_option maxRecDepth 20000
open Go.RowKit Go.Sort

theorem rput_any (v u : Value) (l c : List UInt8) (a : Nat) (w : World) (hl : l.length ≤ 1000000) (hv : SV w v (bys l)) (hu : SV w u (bys c)) (h : a + c.length ≤ l.length) :
    Calls Try.prog 28 #[v, .int .i64 a, u] w (OwnB (putAt l a c) w) := by
  obtain ⟨i0, hi, hz0, hz1, hz2⟩ := info_parts Try.info5
  have HV := Lib.hid hv
  obtain ⟨C, m, rfl⟩ : ∃ A c', u = .slice A c.length c' := by obtain ⟨A, c', e, _⟩ := hu; exact ⟨A, c', by rw [bys_len] at e; exact e⟩
  have HU := Lib.hid hu
  clear hv hu
  unfold OwnB
  have HE := Lib.hid (show putAt l a c = [] ++ l.take a ++ c ++ l.drop (a + c.length) by rw [List.nil_append]; rfl)
  go_enter Try.func28, Try.ntmps28
  go_wp2_with (first
    | ((at_builtin; refine wpList_appo rfl (.tmp 16) (.tmp 22) 32 rfl (w.heap.size) 5 i0 Try.underlying32 hi hz0 hz1 hz2 (v3) (v4) ([] ++ l.take a ++ c) (l.drop (a + c.length)) rfl rfl (O3.out) (S4.out) (by simp; omega) (HA3.out.size) ?_); intro v5 w5 O5 B5)
    | ((refine wpList_cutsv rfl (.tmp 17) (.tmp 21) rfl Try.underlying32 (by kernel_rfl) _ rfl (l) (HV.out.keep (Keeps.below HA3.out)) _ _ rfl (a + c.length) (by simp) (h) ?_); intro v4 S4)
    | ((at_builtin; refine wpList_appo rfl (.tmp 13) (.tmp 14) 32 rfl (w.heap.size) 5 i0 Try.underlying32 hi hz0 hz1 hz2 (v2) (.slice C c.length m) ([] ++ l.take a) (c) rfl rfl (O2.out) (HU.out.keep (Keeps.below HA2.out)) (by simp; omega) (HA2.out.size) ?_); intro v3 w3 O3 B3; have HA3 := Lib.hid (HA2.out.trans B3.out); clear B3)
    | ((refine wpList_takesv rfl (.tmp 9) (.tmp 10) rfl Try.underlying32 (by kernel_rfl) _ rfl (l) (HV.out.keep (Keeps.alloc _ _)) _ _ rfl (a) (rfl) (by omega) ?_); intro v1 S1)
    | ((at_builtin; refine wpList_appo rfl (.tmp 8) (.tmp 11) 32 rfl (w.heap.size) 5 i0 Try.underlying32 hi hz0 hz1 hz2 (.slice (some ⟨w.heap.size, 0, none⟩) 0 0) (v1) ([]) (l.take a) rfl rfl (World.ownsRow_lit w #[] 0 (Nat.le_refl _) (by decide) rfl) (S1.out) (by simp; omega) (by simp) ?_); intro v2 w2 O2 B2; have HA2 := Lib.hid (((Below.refl w.heap.size w).alloc (Nat.le_refl _) (.cells #[] 5)).trans B2.out); clear B2 S1))
  go_ret
  exact ⟨_, rfl, by rw [HE.out]; exact O5.out, HA3.out.trans B5.out⟩

theorem ownb_bytes (n : Nat) (x : Int) (w : World) (h : n ≤ 8) : Calls Try.prog 31 #[.int .i64 n, .int .i64 x] w (OwnB (beb n (ub x)) w) :=
  (refBytes n x w h).mono fun _ _ ⟨v', h1, h2, h3⟩ => ⟨v', h1, by unfold fOwn; rw [bys_len, beb_len]; exact h2, h3⟩

theorem rzeros_any (n : Nat) (w : World) (hn : n ≤ 1000000) : Calls Try.prog 27 #[.int .i64 n] w (OwnB (List.replicate n 0) w) := by
  obtain ⟨i0, hi, hz0, hz1, hz2⟩ := info_parts Try.info5
  unfold OwnB
  go_enter Try.func27, Try.ntmps27
  go_wp2
  go_loopw [3, 4] (fun b i wr => ∃ k : Nat, k ≤ n ∧ i = .int .i64 k ∧ fOwn w.heap.size 5 (bys (List.replicate k 0)) b wr ∧ Below w.heap.size w wr) (fun _ i _ => n - (intOf i).toNat)
  case atStart => exact ⟨0, by omega, rfl, World.ownsRow_nil _ _ _ _, Below.refl _ _⟩
  case round =>
    obtain ⟨k, hk, rfl, ho, hb⟩ := hrel
    have HO := Lib.hid ho
    have HB := Lib.hid hb
    clear ho hb
    by_cases hlt : k < n
    · go_wp2_with ((at_builtin; refine wpList_appo rfl (.tmp 10) (.tmp 11) 32 rfl (w.heap.size) 5 i0 Try.underlying32 hi hz0 hz1 hz2 (_) (.slice (some ⟨wr.heap.size, 0, none⟩) 1 1) (List.replicate k 0) ([0]) rfl rfl (HO.out.on ((Below.refl _ _).alloc (Nat.le_refl _) _)) (sv_lit wr [0] 1 5 (0, 0) rfl (by omega)) (by simp; omega) (by have := HB.out.size; simp; omega) ?_); intro v2 w2 O2 B2)
      go_roundw
      case rel =>
        have o2 := O2.out
        rw [← List.replicate_succ'] at o2
        exact ⟨k + 1, by omega, by go_num, o2, (HB.out.alloc HB.out.size _).trans B2.out⟩
      case measure => simp [intOf]; omega
    · obtain rfl : k = n := by omega
      go_wp2
      go_ret
      exact ⟨_, rfl, HO.out, HB.out⟩

end Go.Proofs.Ytafmggipmaofnaa
