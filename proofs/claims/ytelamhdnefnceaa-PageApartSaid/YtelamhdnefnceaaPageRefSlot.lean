/- Layer 7: contracts of the reference's Slot, WithSlot, Right. -/
import Derived.Test.YtelamhdnefnceaaPageSlot
import Derived.Test.YtelamhdnefnceaaPageRef
import Derived.Test.YtelamhdnefnceaaRegionNew
import Derived.Test.YtelamhdnefnceaaSlotRefItem
namespace Go.Proofs.Ytelamhdnefnceaa
set_option maxRecDepth 20000
open Go.RowKit Go.Sort

theorem rslot_out (v : Value) (l : List UInt8) (i : Int) (w : World) (h : i < 0 ∨ 6 < i) : Calls Try.prog 25 #[v, .int .i64 i] w (PSlotP l i w) := by
  have hp := Lib.hid (pslot_no (l := l) h)
  by_cases h1 : i < 0
  · clear h
    go_enter Try.func25, Try.ntmps25
    go_wp2_with (refine wpList_store_row rfl _ (.tmp 4) (.tmp 12) rfl w.heap.size _ rfl rfl _ _ (Whole.made w _ _) (by kernel_rfl) rfl (by simp [Value.oneCell']) ?_)
    refine bodyPost_ret (v := .tuple #[.agg #[.int .i64 0, .string ⟨#[]⟩, .int .i64 0, .slice none 0 0, .int .i64 0, .int .i64 0, .int .i64 0], .int .i64 2]) ?_ rfl ?_
    · exact results_cell_tmp rfl _ _ (w.heap.size) _ _ (0, 0) _ rfl (setRow_heap _ _ _ _ _ _ (Whole.made w _ _)) Try.underlying37 rfl (by kernel_rfl) _ rfl
    · unfold PSlotP
      rw [hp.out]
      exact ⟨_, rfl, SV.nil _, below_setRow ((Below.refl _ _).alloc (Nat.le_refl _) _) (Nat.le_refl _) _⟩
  · have h2 : 6 < i := by omega
    clear h
    go_enter Try.func25, Try.ntmps25
    go_wp2_with (refine wpList_store_row rfl _ (.tmp 4) (.tmp 12) rfl w.heap.size _ rfl rfl _ _ (Whole.made w _ _) (by kernel_rfl) rfl (by simp [Value.oneCell']) ?_)
    refine bodyPost_ret (v := .tuple #[.agg #[.int .i64 0, .string ⟨#[]⟩, .int .i64 0, .slice none 0 0, .int .i64 0, .int .i64 0, .int .i64 0], .int .i64 2]) ?_ rfl ?_
    · exact results_cell_tmp rfl _ _ (w.heap.size) _ _ (0, 0) _ rfl (setRow_heap _ _ _ _ _ _ (Whole.made w _ _)) Try.underlying37 rfl (by kernel_rfl) _ rfl
    · unfold PSlotP
      rw [hp.out]
      exact ⟨_, rfl, SV.nil _, below_setRow ((Below.refl _ _).alloc (Nat.le_refl _) _) (Nat.le_refl _) _⟩
theorem rslot_in (v : Value) (l : List UInt8) (k : Nat) (w : World) (hl : l.length = 512) (hv : SV w v (bys l)) (h : k < 7) : Calls Try.prog 25 #[v, .int .i64 k] w (PSlotP l k w) := by
  have hp := pslot_yes (l := l) h
  have hsl := slot_len hl h
  have GT := fun w v (h : SV w v (bys (slotL l k))) => rget6_any v (slotL l k) w hsl h
  unfold RGet6P at GT
  rw [← get_ref, ← hp] at GT
  have HV := Lib.hid hv
  have HM := Lib.hid (show (l.drop (32 + 64 * k)).take 64 = slotL l k from rfl)
  generalize slotL l k = sl at *
  unfold PSlotP
  generalize pslot l k = G at *
  obtain ⟨x, f⟩ := G
  obtain ⟨st, kk, kd, d, lo, hi, v'⟩ := x
  unfold iv at GT ⊢
  simp only at *
  replace GT := Lib.hid GT
  clear hp hv
  go_enter Try.func25, Try.ntmps25
  go_wp2_with ((refine wpList_midsv rfl (.tmp 13) (.tmp 16) (.tmp 19) rfl Try.underlying26 (by kernel_rfl) _ rfl (l) (HV.out.keep (Keeps.alloc _ _)) _ _ _ _ rfl rfl (32 + 64 * k) (64) (by omega) (by omega) (by omega) ?_); intro v1 S1)
  have s1 := S1.out
  rw [HM.out] at s1
  refine (GT.out _ _ s1).mono ?_
  rintro e w1 ⟨D, rfl, s2, b2⟩
  obtain ⟨D, c, rfl⟩ := sv_open7 s2
  have p1 := (Whole.made w _ _).on b2
  have B1 := Lib.hid (bthen ((Below.refl w.heap.size w).alloc (Nat.le_refl _) _) b2)
  clear b2 s1 S1
  go_wp2_with (refine wpList_store_row rfl _ (.tmp 4) (.tmp 22) rfl w.heap.size _ rfl rfl _ _ p1 (by kernel_rfl) rfl (by simp [Value.oneCell']) ?_)
  refine bodyPost_ret (v := .tuple #[.agg #[.int .i64 st, .string ⟨kk.toArray⟩, .int .i64 kd, .slice D d.length c, .int .i64 lo, .int .i64 hi, .int .i64 v'], .int .i64 f]) ?_ rfl ?_
  · exact results_cell_tmp rfl _ _ (w.heap.size) _ _ (0, 0) _ rfl (setRow_heap _ _ _ _ _ _ p1) Try.underlying37 rfl (by kernel_rfl) _ rfl
  · exact ⟨_, rfl, sv_but s2 p1 (But.row _ _ _) rfl, below_setRow B1.out (Nat.le_refl _) _⟩
theorem rslot_any (v : Value) (l : List UInt8) (i : Int) (w : World) (hl : l.length = 512) (hv : SV w v (bys l)) : Calls Try.prog 25 #[v, .int .i64 i] w (PSlotP l i w) := by
  by_cases h : i < 0 ∨ 6 < i
  · exact rslot_out v l i w h
  · obtain ⟨k, rfl⟩ : ∃ k : Nat, i = k := ⟨i.toNat, by omega⟩
    exact rslot_in v l k w hl hv (by omega)

theorem rwslot_out (v : Value) (l : List UInt8) (i : Int) (A : Option Addr) (n m : Nat) (x : It) (w : World) (hv : SV w v (bys l)) (h : i < 0 ∨ 6 < i) :
    Calls Try.prog 29 #[v, .int .i64 i, iv (.slice A n m) x] w fun e w' => ∃ v', e = .returned v' ∧ SV w' v' (bys (pwslot l i x)) ∧ Below w.heap.size w w' := by
  rw [pwslot_no h]
  obtain ⟨st, kk, kd, d, lo, hi, v'⟩ := x
  unfold iv
  simp only
  have HV := Lib.hid hv
  clear hv
  by_cases h1 : i < 0
  · clear h
    go_enter Try.func29, Try.ntmps29
    go_wp2
    go_ret
    exact ⟨_, rfl, HV.out.keep (Keeps.alloc _ _), (Below.refl _ _).alloc (Nat.le_refl _) _⟩
  · have h2 : 6 < i := by omega
    clear h
    go_enter Try.func29, Try.ntmps29
    go_wp2
    go_ret
    exact ⟨_, rfl, HV.out.keep (Keeps.alloc _ _), (Below.refl _ _).alloc (Nat.le_refl _) _⟩
theorem rwslot_in (v : Value) (l : List UInt8) (k : Nat) (A : Option Addr) (n m : Nat) (x : It) (w : World) (hl : l.length = 512) (hv : SV w v (bys l)) (h : k < 7) (hD : SV w (.slice A n m) (bys x.c.d)) (hn : n ≤ 1000000) (hk : x.k.length ≤ 1000000) :
    Calls Try.prog 29 #[v, .int .i64 k, iv (.slice A n m) x] w fun e w' => ∃ v', e = .returned v' ∧ SV w' v' (bys (pwslot l k x)) ∧ Below w.heap.size w w' := by
  rw [pwslot_yes h]
  have hsl := sbytes_len x
  have BY := fun w' (hb : Below w.heap.size w w') => ribytes_any A n m x w' (hD.keep (Keeps.below hb)) hn hk
  have PU := Lib.hid (fun w v u (hv : SV w v (bys l)) (hu : SV w u (bys (sbytes x))) => rput_any v u l (sbytes x) (32 + 64 * k) w (by omega) hv hu (by omega))
  unfold OwnB at *
  generalize sbytes x = sb at *
  generalize putAt l (32 + 64 * k) sb = out at *
  have HV := Lib.hid hv
  clear hv hD
  obtain ⟨st, kk, kd, d, lo, hi, v'⟩ := x
  unfold iv at BY ⊢
  simp only at *
  replace BY := Lib.hid BY
  go_enter Try.func29, Try.ntmps29
  go_wp2_with (refine wpList_load_row rfl 37 (.tmp 5) rfl (w.heap.size) rfl 37 _ _ _ (Whole.made w _ _) Try.underlying37 rfl (by kernel_rfl) ?_)
  refine (BY.out _ ((Below.refl _ _).alloc (Nat.le_refl _) _)).mono ?_
  rintro e w1 ⟨v1, rfl, o1, b1⟩
  have S1 := Lib.hid o1.sv
  have B1 := Lib.hid (bthen ((Below.refl w.heap.size w).alloc (Nat.le_refl _) _) b1)
  clear o1 b1
  go_wp2_with fail
  have PU2 := PU.out w1 v v1 (HV.out.keep (Keeps.below B1.out)) S1.out
  rw [show ((32 + 64 * k : Nat) : Int) = 32 + 64 * (k : Int) by omega] at PU2
  refine PU2.mono ?_
  rintro e w2 ⟨v2, rfl, o2, b2⟩
  go_wp2_with fail
  go_ret
  exact ⟨_, rfl, o2.sv, B1.out.trans (b2.mono B1.out.size)⟩
theorem rwslot_any (v : Value) (l : List UInt8) (i : Int) (A : Option Addr) (n m : Nat) (x : It) (w : World) (hl : l.length = 512) (hv : SV w v (bys l)) (hD : SV w (.slice A n m) (bys x.c.d)) (hn : n ≤ 1000000) (hk : x.k.length ≤ 1000000) :
    Calls Try.prog 29 #[v, .int .i64 i, iv (.slice A n m) x] w fun e w' => ∃ v', e = .returned v' ∧ SV w' v' (bys (pwslot l i x)) ∧ Below w.heap.size w w' := by
  by_cases h : i < 0 ∨ 6 < i
  · exact rwslot_out v l i A n m x w hv h
  · obtain ⟨k, rfl⟩ : ∃ k : Nat, i = k := ⟨i.toNat, by omega⟩
    exact rwslot_in v l k A n m x w hl hv (by omega) hD hn hk
end Go.Proofs.Ytelamhdnefnceaa
