/- The reference's Put: a state in which a key has a cell. -/
import Derived.Test.YtejkpjaaefobnaaModelRPut
namespace Go.Proofs.Ytejkpjaaefobnaa
set_option maxRecDepth 20000
open Go.RowKit Go.Sort

theorem map_take_len {es : List (Pr × Value)} {s : List Pr} {j : Nat} (h : es.map (·.1) = s.take j) (hj : j ≤ s.length) : es.length = j := by
  have := congrArg List.length h
  simpa [Nat.min_eq_left hj] using this
theorem app_len {es fs : List (Pr × Value)} {s : List Pr} {E : Nat} (h : fs.map (·.1) = s.drop E) (hs : s.length ≤ 100000) (he : es.length ≤ s.length + 1) : es.length + fs.length ≤ 1000000 := by
  have := congrArg List.length h
  simp at this
  omega
theorem lit_range (w : World) (p : Pr) (D : Value) (t : TypeId) : (w.alloc (.cells (pcs p D).toArray t)).rangeAt w.heap.size 0 (flatP [(p, D)]) := fun j u hu => by
  rw [flatP_one] at hu
  rw [Nat.zero_add]
  exact ((Whole.made w t (pcs p D).toArray).cell j).trans (by simpa using hu)
theorem put_eq {es X fs : List (Pr × Value)} {s : List Pr} {k : List UInt8} {c : Cl} {j E : Nat} (he : es.map (·.1) = s.take j) (hj : j = lowP s k) (hX : X.map (·.1) = one k c) (hf : fs.map (·.1) = s.drop E) (hE : E = endP s k) : ((es ++ X) ++ fs).map (·.1) = putS s k c := by
  subst hj hE
  simp [putS, he, hX, hf]
theorem hasP_at {s : List Pr} {k : List UInt8} {p : Pr} {j : Nat} (hj : j = lowP s k) (hp : s[j]? = some p) : endP s k = if p.k = k then j + 1 else j := by
  subst hj
  unfold endP hasP
  rw [hp]
  simp
theorem hasP_end {s : List Pr} {k : List UInt8} {j : Nat} (hj : j = lowP s k) (hl : j = s.length) : j = endP s k := by
  subst hj
  unfold endP hasP
  rw [List.getElem?_eq_none (by omega)]
  rfl
theorem po_slice {w : World} {M : Nat} {v : Value} {es : List (Pr × Value)} (h : PO w M v es) : ∃ A c, v = .slice A es.length c ∧ es.length ≤ c ∧ c ≤ 9223372036854775807 := by
  obtain ⟨⟨rfl, rfl⟩ | ⟨g, cap, L, rfl, hM, hb⟩, h2⟩ := h
  · exact ⟨none, 0, rfl, Nat.le_refl _, by decide⟩
  · exact ⟨_, cap, rfl, hb.le, hb.max⟩
theorem lowP_here {s : List Pr} {k : List UInt8} {j : Nat} (hl : j ≤ lowP s k) (h : ∀ p, s[j]? = some p → ¬ p.k < k) : j = lowP s k :=
  lowP_one (Nat.le_trans hl (lowP_le s k)) (fun i p hi hp => lowP_lt s k i p (by omega) hp) h
theorem sv_one' {w : World} {x : Pr × Value} (h : SV w x.2 (bys x.1.c.d)) : ∀ y ∈ [x], SV w y.2 (bys y.1.c.d) := fun y hy => by
  simp at hy
  subst hy
  exact h
set_option maxHeartbeats 2000000 in
theorem rput9_any (v : Value) (s : List Pr) (k : List UInt8) (A : Option Addr) (n m : Nat) (c : Cl) (w : World) (hv : PS w v s) (hc : SV w (.slice A n m) (bys c.d)) (hl : s.length ≤ 100000) :
    Calls Try.prog 32 #[v, kst k, cv (.slice A n m) c] w (Puts (putS s k c) w) := by
  obtain ⟨Av, d, rfl, _⟩ := id hv
  have l3 := hv.bd.2
  have HC := Lib.hid hc
  have HL := Lib.hid hl
  have HV := Lib.hid hv
  clear hv hc
  unfold kst cv
  go_enter Try.func32, Try.ntmps32
  go_wp2
  have p5 := Lib.hid (Whole.made w 30 #[.int .i64 c.k, .slice A n m, .int .i64 c.lo, .int .i64 c.hi, .int .i64 c.v])
  have B0 := Lib.hid ((Below.refl w.heap.size w).alloc (Nat.le_refl _) (.cells #[.int .i64 c.k, .slice A n m, .int .i64 c.lo, .int .i64 c.hi, .int .i64 c.v] 30))
  replace HV := Lib.hid (HV.out.keep (Keeps.alloc w (.cells #[.int .i64 c.k, .slice A n m, .int .i64 c.lo, .int .i64 c.hi, .int .i64 c.v] 30)))
  replace HC := Lib.hid (HC.out.keep (Keeps.alloc w (.cells #[.int .i64 c.k, .slice A n m, .int .i64 c.lo, .int .i64 c.hi, .int .i64 c.v] 30)))
  generalize w.alloc (.cells #[.int .i64 c.k, .slice A n m, .int .i64 c.lo, .int .i64 c.hi, .int .i64 c.v] 30) = w0 at *
  go_loopw [7, 8] (fun out i wr => ∃ (j : Nat) (es : List (Pr × Value)), j ≤ s.length ∧ i = .int .i64 j ∧ Hid (j ≤ lowP s k) ∧ Hid (es.map (·.1) = s.take j) ∧ Hid (PO wr w0.heap.size out es) ∧ Hid (Below w0.heap.size w0 wr)) (fun _ i _ => s.length - (intOf i).toNat)
  case atStart => exact ⟨0, [], by omega, rfl, Lib.hid (Nat.zero_le _), Lib.hid (by simp), Lib.hid (PO.nil _ _), Lib.hid (Below.refl _ _)⟩
  case round =>
    obtain ⟨j, es, hj, rfl, hlow, he, ho, hB⟩ := hrel
    obtain rfl : es.length = j := map_take_len he.out hj
    obtain ⟨Ao, co, rfl, ho1, ho2⟩ := po_slice ho.out
    have q5 := Lib.hid (p5.out.on hB.out)
    have y0 : wr.cell? ⟨w.heap.size, 0, none⟩ = some (.int .i64 c.k) := q5.out.cell 0
    have hl1 := Lib.hid (show es.length + 1 ≤ 1000000 by omega)
    have hl2 := Lib.hid (show (es ++ [((⟨k, c⟩ : Pr), Value.slice A n m)]).length ≤ s.length + 1 by rw [List.length_append]; exact Nat.add_le_add_right hj 1)
    have hl3 := Lib.hid (show es.length ≤ s.length + 1 by omega)
    by_cases hlt : es.length < s.length
    · obtain ⟨b, off, p, Ad, cd, rfl, hp, c0, c1, c2, c3, c4, c5, hd⟩ := PS.at6 HV.out hlt
      have kp := Keeps.below hB.out
      have C0 := Lib.hid c0
      replace c0 := kp _ _ c0
      replace c1 := kp _ _ c1
      replace c2 := kp _ _ c2
      replace c3 := kp _ _ c3
      replace c4 := kp _ _ c4
      replace c5 := kp _ _ c5
      replace hd := Lib.hid (hd.keep kp)
      clear kp
      by_cases hk : p.k < k
      · have hbl := bl_yes hk
        have hlow2 := Lib.hid (show es.length + 1 ≤ lowP s k from Nat.lt_of_le_of_ne hlow.out (fun e => lowP_at s k p (e ▸ hp) hk))
        have he2 := Lib.hid (show (es ++ [(p, Value.slice Ad p.c.d.length cd)]).map (·.1) = s.take (es.length + 1) by rw [List.take_add_one, hp, List.map_append, he.out]; rfl)
        replace hp := Lib.hid hp
        clear hk hlow he C0
        go_wp2_with (show wpList _ _ _ (Oper.mk (some 31) (.call _) _ _ _ _ :: _) _ _; refine wpList_appPO rfl (.tmp 25) (.tmp 30) rfl _ _ _ ([(p, .slice Ad p.c.d.length cd)]) rfl _ _ rfl (ho.out.on ((Below.refl _ _).alloc (Nat.le_refl _) _)) (Nat.le_trans hB.out.size (by simp)) (fun _ => ⟨_, 0, rfl, lit_range _ p _ _⟩) (sv_one' (hd.out.keep (Keeps.alloc _ _))) hl1.out ?_; intro v1 w1 hp1 hb1)
        go_roundw
        case rel => exact ⟨es.length + 1, _, by omega, by go_num, hlow2, he2, hp1, Lib.hid ((hB.out.alloc hB.out.size _).trans hb1.out)⟩
        case measure => simp [intOf]; omega
      · have hbl := bl_no hk
        replace hlow := Lib.hid (lowP_here hlow.out (fun q hq => by rw [hp] at hq; injection hq with hq; rw [← hq]; exact hk))
        have hend := hasP_at hlow.out hp
        clear hk c1 c2 c3 c4 c5 hd
        by_cases hkk : p.k = k
        · rw [if_pos hkk] at hend
          have hEe := Lib.hid hend.symm
          have hE := Lib.hid (show es.length + 1 ≤ s.length by omega)
          have heq : (p.k == k) = true := by simpa using hkk
          clear hkk hend hp
          by_cases hk0 : c.k = 0
          · skip
            go_wp2_with (first
              | (show wpList _ _ _ (Oper.mk (some 61) (.slice _ _ _ _ _) _ _ _ _ :: _) _ _; refine wpList_cut9 rfl (.tmp 59) (.tmp 60) rfl Try.underlying22 (by kernel_rfl) _ _ _ rfl s (HV.out.keep (Keeps.below hB.out)) _ _ rfl (es.length + 1) (by simp) hE.out ?_; rintro v2 ⟨B2, d2, fs, rfl, hf1, hf2, hf3⟩; replace hf1 := Lib.hid hf1; replace hf2 := Lib.hid hf2; replace hf3 := Lib.hid hf3)
              | (show wpList _ _ _ (Oper.mk (some 62) (.call _) _ _ _ _ :: _) _ _; refine wpList_appPO rfl (.tmp 58) (.tmp 61) rfl _ _ _ (fs) rfl _ _ rfl ho.out hB.out.size hf2.out hf3.out (app_len hf1.out HL.out hl3.out) ?_; intro v3 w3 hp3 hb3))
            go_ret
            exact ⟨v3, rfl, (by have h9 := put_eq (s := s) (k := k) (c := c) (X := []) he.out hlow.out (show _ = one k c by simp [one, hk0]) hf1.out hEe.out; rw [List.append_nil] at h9; exact h9) ▸ hp3.out.ps, B0.out.trans ((hB.out.trans hb3.out).mono B0.out.size)⟩
          · skip
            go_wp2_with (first
              | (show wpList _ _ _ (Oper.mk _ (.load _ (.tmp 5)) _ _ _ _ :: _) _ _; refine wpList_load_row rfl 30 (.tmp 5) rfl (w.heap.size) rfl _ _ _ _ (q5.out) Try.underlying30 rfl (by kernel_rfl) ?_)
              | (show wpList _ _ _ (Oper.mk (some 42) (.call _) _ _ _ _ :: _) _ _; refine wpList_appPO rfl (.tmp 37) (.tmp 41) rfl _ _ _ ([(⟨k, c⟩, .slice A n m)]) rfl _ _ rfl (ho.out.on ((Below.refl _ _).alloc (Nat.le_refl _) _)) (Nat.le_trans hB.out.size (by simp)) (fun _ => ⟨_, 0, rfl, lit_range _ ⟨k, c⟩ _ _⟩) (sv_one' (HC.out.keep ((Keeps.below hB.out).trans (Keeps.alloc _ _)))) hl1.out ?_; intro v1 w1 hp1 hb1; have B1 := Lib.hid ((hB.out.alloc hB.out.size _).trans hb1.out); have f0 : w1.cell? ⟨b, off + es.length * 6, none⟩ = some (.string ⟨p.k.toArray⟩) := (Keeps.below B1.out) _ _ C0.out)
              | (show wpList _ _ _ (Oper.mk (some 61) (.slice _ _ _ _ _) _ _ _ _ :: _) _ _; refine wpList_cut9 rfl (.tmp 59) (.tmp 60) rfl Try.underlying22 (by kernel_rfl) _ _ _ rfl s (HV.out.keep (Keeps.below B1.out)) _ _ rfl (es.length + 1) (by simp) hE.out ?_; rintro v2 ⟨B2, d2, fs, rfl, hf1, hf2, hf3⟩; replace hf1 := Lib.hid hf1; replace hf2 := Lib.hid hf2; replace hf3 := Lib.hid hf3)
              | (show wpList _ _ _ (Oper.mk (some 62) (.call _) _ _ _ _ :: _) _ _; refine wpList_appPO rfl (.tmp 58) (.tmp 61) rfl _ _ _ (fs) rfl _ _ rfl hp1.out B1.out.size hf2.out hf3.out (app_len hf1.out HL.out hl2.out) ?_; intro v3 w3 hp3 hb3))
            go_ret
            exact ⟨v3, rfl, put_eq (s := s) (k := k) (c := c) (X := [(⟨k, c⟩, .slice A n m)]) he.out hlow.out (by simp [one, hk0]) hf1.out hEe.out ▸ hp3.out.ps, B0.out.trans ((B1.out.trans hb3.out).mono B0.out.size)⟩
        · rw [if_neg hkk] at hend
          have hEe := Lib.hid hend.symm
          have hE := Lib.hid (show es.length ≤ s.length by omega)
          have heq : (p.k == k) = false := by simpa using hkk
          clear hkk hend hp
          by_cases hk0 : c.k = 0
          · skip
            go_wp2_with (first
              | (show wpList _ _ _ (Oper.mk (some 61) (.slice _ _ _ _ _) _ _ _ _ :: _) _ _; refine wpList_cut9 rfl (.tmp 59) (.tmp 60) rfl Try.underlying22 (by kernel_rfl) _ _ _ rfl s (HV.out.keep (Keeps.below hB.out)) _ _ rfl (es.length) rfl hE.out ?_; rintro v2 ⟨B2, d2, fs, rfl, hf1, hf2, hf3⟩; replace hf1 := Lib.hid hf1; replace hf2 := Lib.hid hf2; replace hf3 := Lib.hid hf3)
              | (show wpList _ _ _ (Oper.mk (some 62) (.call _) _ _ _ _ :: _) _ _; refine wpList_appPO rfl (.tmp 58) (.tmp 61) rfl _ _ _ (fs) rfl _ _ rfl ho.out hB.out.size hf2.out hf3.out (app_len hf1.out HL.out hl3.out) ?_; intro v3 w3 hp3 hb3))
            go_ret
            exact ⟨v3, rfl, (by have h9 := put_eq (s := s) (k := k) (c := c) (X := []) he.out hlow.out (show _ = one k c by simp [one, hk0]) hf1.out hEe.out; rw [List.append_nil] at h9; exact h9) ▸ hp3.out.ps, B0.out.trans ((hB.out.trans hb3.out).mono B0.out.size)⟩
          · skip
            go_wp2_with (first
              | (show wpList _ _ _ (Oper.mk _ (.load _ (.tmp 5)) _ _ _ _ :: _) _ _; refine wpList_load_row rfl 30 (.tmp 5) rfl (w.heap.size) rfl _ _ _ _ (q5.out) Try.underlying30 rfl (by kernel_rfl) ?_)
              | (show wpList _ _ _ (Oper.mk (some 42) (.call _) _ _ _ _ :: _) _ _; refine wpList_appPO rfl (.tmp 37) (.tmp 41) rfl _ _ _ ([(⟨k, c⟩, .slice A n m)]) rfl _ _ rfl (ho.out.on ((Below.refl _ _).alloc (Nat.le_refl _) _)) (Nat.le_trans hB.out.size (by simp)) (fun _ => ⟨_, 0, rfl, lit_range _ ⟨k, c⟩ _ _⟩) (sv_one' (HC.out.keep ((Keeps.below hB.out).trans (Keeps.alloc _ _)))) hl1.out ?_; intro v1 w1 hp1 hb1; have B1 := Lib.hid ((hB.out.alloc hB.out.size _).trans hb1.out); have f0 : w1.cell? ⟨b, off + es.length * 6, none⟩ = some (.string ⟨p.k.toArray⟩) := (Keeps.below B1.out) _ _ C0.out)
              | (show wpList _ _ _ (Oper.mk (some 61) (.slice _ _ _ _ _) _ _ _ _ :: _) _ _; refine wpList_cut9 rfl (.tmp 59) (.tmp 60) rfl Try.underlying22 (by kernel_rfl) _ _ _ rfl s (HV.out.keep (Keeps.below B1.out)) _ _ rfl (es.length) rfl hE.out ?_; rintro v2 ⟨B2, d2, fs, rfl, hf1, hf2, hf3⟩; replace hf1 := Lib.hid hf1; replace hf2 := Lib.hid hf2; replace hf3 := Lib.hid hf3)
              | (show wpList _ _ _ (Oper.mk (some 62) (.call _) _ _ _ _ :: _) _ _; refine wpList_appPO rfl (.tmp 58) (.tmp 61) rfl _ _ _ (fs) rfl _ _ rfl hp1.out B1.out.size hf2.out hf3.out (app_len hf1.out HL.out hl2.out) ?_; intro v3 w3 hp3 hb3))
            go_ret
            exact ⟨v3, rfl, put_eq (s := s) (k := k) (c := c) (X := [(⟨k, c⟩, .slice A n m)]) he.out hlow.out (by simp [one, hk0]) hf1.out hEe.out ▸ hp3.out.ps, B0.out.trans ((B1.out.trans hb3.out).mono B0.out.size)⟩
    · have hle : es.length = s.length := by omega
      replace hlow := Lib.hid (lowP_here hlow.out (fun q hq => by rw [List.getElem?_eq_none (by omega)] at hq; cases hq))
      have hEe := Lib.hid (hasP_end hlow.out hle)
      have hE := Lib.hid (show es.length ≤ s.length by omega)
      clear hle
      by_cases hk0 : c.k = 0
      · skip
        go_wp2_with (first
          | (show wpList _ _ _ (Oper.mk (some 61) (.slice _ _ _ _ _) _ _ _ _ :: _) _ _; refine wpList_cut9 rfl (.tmp 59) (.tmp 60) rfl Try.underlying22 (by kernel_rfl) _ _ _ rfl s (HV.out.keep (Keeps.below hB.out)) _ _ rfl (es.length) rfl hE.out ?_; rintro v2 ⟨B2, d2, fs, rfl, hf1, hf2, hf3⟩; replace hf1 := Lib.hid hf1; replace hf2 := Lib.hid hf2; replace hf3 := Lib.hid hf3)
          | (show wpList _ _ _ (Oper.mk (some 62) (.call _) _ _ _ _ :: _) _ _; refine wpList_appPO rfl (.tmp 58) (.tmp 61) rfl _ _ _ (fs) rfl _ _ rfl ho.out hB.out.size hf2.out hf3.out (app_len hf1.out HL.out hl3.out) ?_; intro v3 w3 hp3 hb3))
        go_ret
        exact ⟨v3, rfl, (by have h9 := put_eq (s := s) (k := k) (c := c) (X := []) he.out hlow.out (show _ = one k c by simp [one, hk0]) hf1.out hEe.out; rw [List.append_nil] at h9; exact h9) ▸ hp3.out.ps, B0.out.trans ((hB.out.trans hb3.out).mono B0.out.size)⟩
      · skip
        go_wp2_with (first
          | (show wpList _ _ _ (Oper.mk _ (.load _ (.tmp 5)) _ _ _ _ :: _) _ _; refine wpList_load_row rfl 30 (.tmp 5) rfl (w.heap.size) rfl _ _ _ _ (q5.out) Try.underlying30 rfl (by kernel_rfl) ?_)
          | (show wpList _ _ _ (Oper.mk (some 42) (.call _) _ _ _ _ :: _) _ _; refine wpList_appPO rfl (.tmp 37) (.tmp 41) rfl _ _ _ ([(⟨k, c⟩, .slice A n m)]) rfl _ _ rfl (ho.out.on ((Below.refl _ _).alloc (Nat.le_refl _) _)) (Nat.le_trans hB.out.size (by simp)) (fun _ => ⟨_, 0, rfl, lit_range _ ⟨k, c⟩ _ _⟩) (sv_one' (HC.out.keep ((Keeps.below hB.out).trans (Keeps.alloc _ _)))) hl1.out ?_; intro v1 w1 hp1 hb1; have B1 := Lib.hid ((hB.out.alloc hB.out.size _).trans hb1.out); skip)
          | (show wpList _ _ _ (Oper.mk (some 61) (.slice _ _ _ _ _) _ _ _ _ :: _) _ _; refine wpList_cut9 rfl (.tmp 59) (.tmp 60) rfl Try.underlying22 (by kernel_rfl) _ _ _ rfl s (HV.out.keep (Keeps.below B1.out)) _ _ rfl (es.length) rfl hE.out ?_; rintro v2 ⟨B2, d2, fs, rfl, hf1, hf2, hf3⟩; replace hf1 := Lib.hid hf1; replace hf2 := Lib.hid hf2; replace hf3 := Lib.hid hf3)
          | (show wpList _ _ _ (Oper.mk (some 62) (.call _) _ _ _ _ :: _) _ _; refine wpList_appPO rfl (.tmp 58) (.tmp 61) rfl _ _ _ (fs) rfl _ _ rfl hp1.out B1.out.size hf2.out hf3.out (app_len hf1.out HL.out hl2.out) ?_; intro v3 w3 hp3 hb3))
        go_ret
        exact ⟨v3, rfl, put_eq (s := s) (k := k) (c := c) (X := [(⟨k, c⟩, .slice A n m)]) he.out hlow.out (by simp [one, hk0]) hf1.out hEe.out ▸ hp3.out.ps, B0.out.trans ((B1.out.trans hb3.out).mono B0.out.size)⟩
end Go.Proofs.Ytejkpjaaefobnaa
