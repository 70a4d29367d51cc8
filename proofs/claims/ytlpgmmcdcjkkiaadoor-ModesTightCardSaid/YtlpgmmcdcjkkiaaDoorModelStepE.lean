/- One operation done to a state: one that fails. -/
import Derived.Test.YtlpgmmcdcjkkiaaDoorModelStep
namespace Go.Proofs.YtlpgmmcdcjkkiaaDoor
set_option maxRecDepth 20000
open Go.RowKit Go.Sort

set_option maxHeartbeats 1600000 in
/-- An operation that may be, and fails. -/
theorem step_err (w : World) (M : Nat) (v : Value) (es : List (Pr × Value)) (s : List Pr) (A : Option Addr) (n c : Nat) (x : Ox) (h : PO w M v es) (hs : es.map (·.1) = s) (hst : St s) (h64 : ∀ p ∈ s, in64c p.c) (hx : SV w (.slice A n c) (bys x.b)) (hxb : x.b.length ≤ 1073741824) (hx64 : in64x x) (hg : goodX x = true) (hlen : s.length ≤ 100000) (hcase : (mkX (fndC s x.k) x).2 ≠ 0) :
    Calls Tryd.prog 34 #[v, ov (.slice A n c) x] w (Stepped M v s x w) := by
  replace hcase := Lib.hid hcase
  have hn : n = x.b.length := by have := hx.bd; rw [bys_len] at this; exact this.1
  have hg' : (0 ≤ x.d ∧ x.d ≤ 5) ∧ isKey x.k = true ∧ fitX x = true := by simp [goodX] at hg; exact ⟨hg.1.1, hg.1.2, hg.2⟩
  obtain ⟨⟨h0, h5⟩, hkey, hfit⟩ := hg'
  have hkl := key_len hkey
  have CK := fun w => check9_any A n c x w hn (by omega) (by omega)
  have e2 : ckX x = 0 := by simp [ckX, hg]
  rw [e2] at CK
  replace CK := Lib.hid CK
  have CD := Lib.hid (fun w => deedOf_yes x.d w h0 h5)
  have HP := Lib.hid h
  have hps : PS w v s := hs ▸ h.ps
  have HPS := Lib.hid hps
  obtain ⟨Av, cv', rfl, hA0, hAc, hAm⟩ := h.sl
  have hel : es.length = s.length := by rw [← hs, List.length_map]
  have CS := Lib.hid (fun w' (hw : PS w' (.slice Av es.length cv') s) => spot9_any (.slice Av es.length cv') s x.k w' hw hst.up (by omega))
  have hle1 := lowP_le s x.k
  have hle2 := endP_le s x.k
  have hle3 := endP_ge s x.k
  rw [← hel] at hle1 hle2
  have hij := Lib.hid (show endP s x.k = lowP s x.k ∨ endP s x.k = lowP s x.k + 1 from by unfold endP; split <;> simp)
  have HA0 := Lib.hid hA0
  have HX := Lib.hid hx
  have HF := Lib.hid (fnd_mid (s := s) (k := x.k) hst.up)
  have HST := Lib.hid hst
  have HS := Lib.hid hs
  have HEL := Lib.hid hel
  have hlen2 : es.length ≤ 100000 := by omega
  clear h hps hs hst hx h0 h5 e2 hn hA0 hel hlen
  unfold ov kst at CK ⊢
  unfold kst at CS
  unfold dval at CD
  go_enter Tryd.func34, Tryd.ntmps34
  go_wp2_with (first
    | (go_at_call 42; refine (CK.out _).mono ?_; rintro e w1 ⟨rfl, b1⟩; have p5 := Lib.hid ((Whole.second w _ _ _).on b1); have p3 := Lib.hid (((Whole.made w _ _).later _).on b1); have B1 := Lib.hid (bthen (two_more (Below.refl _ w) _ _) b1); have y0 : w1.cell? ⟨w.heap.size, 0, none⟩ = some (.int .i64 x.d) := p3.out.cell 0; clear b1)
    | (show wpList _ _ _ (Oper.mk _ (.load _ (.tmp 3)) _ _ _ _ :: _) _ _; refine wpList_load_row rfl 24 (.tmp 3) rfl (w.heap.size) rfl _ _ _ _ ((Whole.made w _ _).later _) Tryd.underlying24 rfl (by kernel_rfl) ?_))
  refine (CD.out _).mono ?_
  rintro e w2 ⟨rfl, b2⟩
  replace p5 := Lib.hid (p5.out.on b2)
  replace p3 := Lib.hid (p3.out.on b2)
  have B2 := Lib.hid (B1.out.trans (b2.mono B1.out.size))
  clear b2 y0 CK CD B1
  go_wp2_with (show wpList _ _ _ (Oper.mk _ (.store _ (.tmp 7) _) _ _ _ _ :: _) _ _; refine wpList_store_row rfl _ (.tmp 7) (.tmp 26) rfl (w2).heap.size _ rfl rfl _ _ (Whole.made (w2) _ _) (by kernel_rfl) rfl (by simp [Value.oneCell', fnv]) ?_; rw [World.setRow_alloc_new]; generalize hW : World.alloc _ _ = w3; have p7 := Lib.hid (made_eq hW).1; have b3 := Lib.hid (made_eq hW).2; clear hW; replace p5 := Lib.hid (p5.out.on b3.out); replace p3 := Lib.hid (p3.out.on b3.out); have B3 := Lib.hid (B2.out.trans (b3.out.mono B2.out.size)); have y1 : w3.cell? ⟨w.heap.size, 1, none⟩ = some (.string ⟨x.k.toArray⟩) := p3.out.cell 1; clear b3)
  refine (CS.out _ (HPS.out.on B3.out)).mono ?_
  rintro e w4 ⟨rfl, b4⟩
  replace p5 := Lib.hid (p5.out.on b4)
  replace p3 := Lib.hid (p3.out.on b4)
  replace p7 := Lib.hid (p7.out.on b4)
  have B4 := Lib.hid (B3.out.trans (b4.mono B3.out.size))
  clear b4 y1 CS B2 B3
  generalize hla : lowP s x.k = la at *
  generalize hlb : endP s x.k = lb at *
  have hcut := fun w' => run_midK (P := Tryd.prog) (A := Av) (n := es.length) (c := cv') (a := la) (b := lb) (K := 6) (k1 := .i64) (k2 := .i64) (i := (la : Int)) (j := (lb : Int)) Tryd.underlying30 (e := 38) (by kernel_rfl) rfl rfl hle3 (by omega) w'
  have CF := Lib.hid (fun w' (hw : PS w' (.slice Av es.length cv') s) => found_as HF.out (find9_any _ _ x.k w' (hw.mid la lb hle3 hle2) (fun p hp => by
    have hp' := List.mem_of_mem_drop (List.mem_of_mem_take hp)
    have h1 := good_len (HST.out.good hp')
    have h2 := key_len (HST.out.key hp')
    omega)))
  generalize (if cv' = la then Av else Av.map (·.add (la * 6))) = D at *
  have y1 : w4.cell? ⟨w.heap.size, 1, none⟩ = some (.string ⟨x.k.toArray⟩) := p3.out.cell 1
  have hb4 : w.heap.size < w4.heap.size := (Array.getElem?_eq_some_iff.1 p3.out).1
  unfold kst at CF
  generalize hC : fndC s x.k = C at *
  generalize hz : (fnd s x.k).isSome = z at *
  unfold Found at CF
  simp only [hC, hz] at CF
  go_wp2
  refine wp_cut4 (fun b A1 n1 d1 w' => Whole w' b 36 #[.int .i64 C.k, .slice A1 n1 d1, .int .i64 C.lo, .int .i64 C.hi, .int .i64 C.v] ∧ SV w' (.slice A1 n1 d1) (bys C.d) ∧ Below w4.heap.size w4 w') ?_
  apply Exists.intro
  refine And.intro ?_ ?_
  · go_region_with (go_at_call 45; first
      | (refine Calls.mono (CF.out (w4.alloc _).drew (HPS.out.keep (((Keeps.below B4.out).trans (Keeps.alloc w4 _)).trans (Keeps.drew _)))) ?_; rintro e w5 ⟨Dv, rfl, hD, b5⟩; obtain ⟨A1, n1, d1, rfl⟩ := sv_sl hD; unfold cv; obtain ⟨h5, hb5⟩ := made_on b5; have z0 : w5.cell? ⟨w4.heap.size, 0, none⟩ = some (.int .i64 0) := h5.cell 0; have z1 : w5.cell? ⟨w4.heap.size, 1, none⟩ = some (.slice none 0 0) := h5.cell 1; have z2 : w5.cell? ⟨w4.heap.size, 2, none⟩ = some (.int .i64 0) := h5.cell 2; have z3 : w5.cell? ⟨w4.heap.size, 3, none⟩ = some (.int .i64 0) := h5.cell 3; have z4 : w5.cell? ⟨w4.heap.size, 4, none⟩ = some (.int .i64 0) := h5.cell 4; have f0 := h5.free 0; have f1 := h5.free 1; have f2 := h5.free 2; have f3 := h5.free 3; have f4 := h5.free 4; replace h5 := Lib.hid h5; replace hD := Lib.hid hD; replace hb5 := Lib.hid hb5; clear b5)
      | (refine Calls.mono (CF.out w4.drew (HPS.out.keep ((Keeps.below B4.out).trans (Keeps.drew _)))) ?_; rintro e w5 ⟨Dv, rfl, hD, b5⟩; obtain ⟨A1, n1, d1, rfl⟩ := sv_sl hD; unfold cv; replace hD := Lib.hid hD; replace b5 := Lib.hid b5))
    all_goals first
      | (obtain ⟨b, hb⟩ : ∃ b, b = w5.heap.size := ⟨_, rfl⟩
         rw [← hb]
         change ∃ b A n d, _ ∧ _
         refine ⟨b, A1, n1, d1, rfl, ?_, hD.out.keep (Keeps.alloc _ _), ?_⟩
         · rw [hb]; exact Whole.made w5 _ _
         · exact ((show Below w4.heap.size w4 w4.drew from ⟨rfl, rfl, rfl, Nat.le_refl _, fun _ _ => rfl⟩).trans b5.out).alloc b5.out.size _)
      | (obtain ⟨b, hb⟩ : ∃ b, b = w4.heap.size := ⟨_, rfl⟩
         rw [← hb]
         change ∃ b A n d, _ ∧ _
         refine ⟨b, A1, n1, d1, rfl, ?_, ?_, ?_⟩
         · rw [hb]; exact (set5 h5.out _ _ _ _ _).1
         · rw [hb]; exact sv_blk' h5.out (own_nou8 zeroC _ rfl) hD.out (set5 h5.out _ _ _ _ _).2
         · rw [hb]; exact But.below hb5.out (set5 h5.out _ _ _ _ _).2 (Nat.le_refl _) hb5.out.size)
  · rintro b A1 n1 d1 w6 ⟨p11, hD, b6⟩
    have hCok : C = zeroC ∨ good C = true := hC ▸ fndC_ok HST.out x.k
    have hC64 : in64c C := by
      rw [← hC]
      unfold fndC
      cases hf : fnd s x.k with
      | none => exact ⟨by decide, by decide, by decide, by decide⟩
      | some c => exact h64 _ (fnd_mem hf)
    have hCd : C.d.length ≤ 32 := by
      rcases hCok with h | h
      · rw [h]; simp [zeroC]
      · exact good_len h
    have CM := Lib.hid (makes_any A1 A n1 d1 n c C x w6 hD (HX.out.keep (Keeps.below (B4.out.trans (b6.mono B4.out.size)))) hCok hC64 hx64.2.2.2 hg)
    have HE : ∀ args w, (callFunc (makesF x.d) args).run Tryd.prog w = .ok (.enter (makesF x.d) args) w := makes_enters x.d
    have hmk : goodX x = true → stepX s x = if (mkX C x).2 ≠ 0 then (s, ⟨(mkX C x).2, zeroC⟩) else if x.d = 0 then (s, ⟨0, (mkX C x).1⟩) else (putS s x.k (mkX C x).1, ⟨0, zeroC⟩) := fun h => by
      unfold stepX
      rw [if_pos h, hC]
    have hmk' := Lib.hid (hmk hg)
    have hok : (mkX C x).1.k = 0 ∨ good (mkX C x).1 = true := mk_ok hg hCok
    have hdrop : (mkX C x).1.k = 0 → (mkX C x).2 = 0 → x.d ≠ 0 → lb = la + 1 := fun h1 h2 h3 => by
      have := drop_has HST.out hg (by rw [hC]; exact h1) (by rw [hC]; exact h2) h3
      rw [hla, hlb] at this
      exact this
    generalize mkX C x = r at *
    obtain ⟨⟨k2, e2, lo2, hi2, v2⟩, E2⟩ := r
    have B6 := Lib.hid (B4.out.trans (b6.mono B4.out.size))
    replace p5 := Lib.hid (p5.out.on b6)
    replace p3 := Lib.hid (p3.out.on b6)
    have y2 : w6.cell? ⟨w2.heap.size, 2, none⟩ = some (.func (.func (makesF x.d)) #[] #[]) := (p7.out.on b6).cell 2
    replace p11 := Lib.hid p11
    replace hok := Lib.hid hok
    replace hdrop := Lib.hid hdrop
    replace hCd := Lib.hid hCd
    replace hCok := Lib.hid hCok
    clear hmk hC64 hD b6 y1 hcut CF HF p7
    unfold cv ov kst at CM
    go_wp2_with (first
      | (show wpList _ _ _ (Oper.mk _ (.load _ (.tmp 11)) _ _ _ _ :: _) _ _; refine wpList_load_row rfl 36 (.tmp 11) rfl (b) rfl _ _ _ _ (p11.out) Tryd.underlying36 rfl (by kernel_rfl) ?_)
      | (show wpList _ _ _ (Oper.mk _ (.load _ (.tmp 3)) _ _ _ _ :: _) _ _; refine wpList_load_row rfl 24 (.tmp 3) rfl (w.heap.size) rfl _ _ _ _ (p3.out) Tryd.underlying24 rfl (by kernel_rfl) ?_))
    refine Calls.mono CM.out ?_
    rintro e w7 ⟨D2, rfl, hD2, b7⟩
    obtain ⟨A2, n2, d2, rfl⟩ := sv_sl hD2
    unfold cv
    have B7 := Lib.hid (B6.out.trans (b7.mono B6.out.size))
    replace p5 := Lib.hid (p5.out.on b7)
    replace p3 := Lib.hid (p3.out.on b7)
    replace hD2 := Lib.hid hD2
    clear b7 y2 CM p11
    have hE : E2 ≠ 0 := hcase.out
    clear hcase
    go_wp2_with (first
      | (show wpList _ _ _ (Oper.mk _ (.store _ (.tmp 13) _) _ _ _ _ :: _) _ _; refine wpList_store_row rfl _ (.tmp 13) (.tmp 51) rfl (w7).heap.size _ rfl rfl _ _ (Whole.made (w7) _ _) (by kernel_rfl) rfl (by simp [Value.oneCell']) ?_; rw [World.setRow_alloc_new]; generalize hW : World.alloc _ _ = w8; have p13 := Lib.hid (made_eq hW).1; have b8 := Lib.hid (made_eq hW).2; clear hW; replace p5 := Lib.hid (p5.out.on b8.out); replace B7 := Lib.hid (B7.out.trans (b8.out.mono B7.out.size)); clear b8)
      | (show wpList _ _ _ (Oper.mk _ (.store _ (.tmp 5) _) _ _ _ _ :: _) _ _; refine wpList_store_row rfl _ (.tmp 5) (.tmp 57) rfl (w.heap.size + 1) _ rfl rfl _ _ (p5.out) (by kernel_rfl) rfl (by simp [Value.oneCell']) ?_))
    have hb := below_setRow B7.out (show w.heap.size ≤ w.heap.size + 1 by omega) #[.int .i64 E2, .int .i64 0, .slice none 0 0, .int .i64 0, .int .i64 0, .int .i64 0]
    have e1 : stepX s x = (s, ⟨E2, zeroC⟩) := by rw [hmk'.out]; exact if_pos hE
    refine bodyPost_ret (v := .tuple #[.slice Av es.length cv', .agg #[.int .i64 E2, .int .i64 0, .slice none 0 0, .int .i64 0, .int .i64 0, .int .i64 0]]) ?_ rfl ?_
    · exact results_tmp_cell rfl _ _ (w.heap.size + 1) _ _ (0, 0) _ rfl (setRow_heap _ _ _ _ _ _ p5.out) Tryd.underlying56 rfl (by kernel_rfl) _ rfl
    · exact ⟨_, es, .slice none 0 0, by rw [e1]; rfl, by rw [e1]; exact HS.out, HP.out.on hb, by rw [e1]; exact SV.nil _, grown_none hb _, .inl rfl⟩
end Go.Proofs.YtlpgmmcdcjkkiaaDoor
