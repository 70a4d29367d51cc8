/- What the law ModelPlains comes to. -/
import Derived.Test.YtejkpjaaefobnaaModelLaws2
namespace Go.Proofs.Ytejkpjaaefobnaa
set_option maxRecDepth 20000
open Go.RowKit Go.Sort

theorem in64_if {c : Prop} [Decidable c] {a : Int} (h : in64 a) : in64 (if c then a else 0) := by
  split
  · exact h
  · exact ⟨by decide, by decide⟩
theorem in64x_plain {x : Ox} (h : in64x x) : in64x (plainX x) := by
  obtain ⟨h1, h2, h3, h4⟩ := h
  exact ⟨h1, in64_if h2, in64_if h3, in64_if h4⟩
theorem plain_len (x : Ox) : (plainX x).b.length ≤ x.b.length := by
  show (if x.d = 1 then x.b else []).length ≤ _
  split <;> simp
theorem eqA_self (a : An) : eqA a a = true := by simp [eqA, sameC_self]
set_option maxHeartbeats 2000000 in
theorem plains9_law (v D : Value) (s : List Pr) (x : Ox) (w : World) (hv : PS w v s) (hs : ∀ p ∈ s, in64c p.c ∧ p.c.d.length ≤ 9223372036854775807 ∧ p.k.length ≤ 9223372036854775807) (hD : SV w D (bys x.b)) (hb : x.b.length ≤ 9223372036854775807) (hk : x.k.length ≤ 9223372036854775807) (h64 : in64x x) :
    Calls Try.prog 6 #[v, ov D x] w fun e w' => e = .returned (.bool true) ∧ Below w.heap.size w w' := by
  obtain ⟨A, c, rfl, _⟩ := id hD
  rw [bys_len] at hD ⊢
  obtain ⟨Av, cv', rfl⟩ := hv.slice
  have LV := Lib.hid (fun w => live9_any w)
  have MS := Lib.hid (fun w' (hw : PS w' (.slice Av s.length cv') s) => muchState_any _ s w' hw (fun p hp => (hs p hp).2))
  have MU := Lib.hid (muchOne A c x hb hk)
  have HV := Lib.hid hv
  have HD := Lib.hid hD
  have HS := Lib.hid hs
  have H64 := Lib.hid h64
  clear hv hD hs hb hk h64
  unfold ocs kst at MU
  unfold ov kst
  go_enter Try.func6, Try.ntmps6
  go_wp2_with fail
  refine Calls.mono (MS.out _ (HV.out.keep (Keeps.alloc _ _))) ?_
  rintro e w1 ⟨g1, rfl, hg1, b1⟩
  have p3 := Lib.hid ((Whole.made w 36 #[.int .i64 x.d, .string ⟨x.k.toArray⟩, .slice A x.b.length c, .int .i64 x.lo, .int .i64 x.hi, .int .i64 x.n]).on b1)
  have B1 := Lib.hid (bthen ((Below.refl _ w).alloc (Nat.le_refl _) _) b1)
  clear b1 MS
  cases g1 with
  | true =>
    clear hg1
    go_wp2_with fail
    refine (LV.out _).mono ?_
    rintro e w9 ⟨rfl, b9⟩
    have B9 := Lib.hid (B1.out.trans (b9.mono B1.out.size))
    clear b9
    go_wp2
    go_ret
    exact ⟨rfl, B9.out⟩
  | false =>
    have hs60 := Lib.hid (hg1 rfl)
    clear hg1
    go_wp2_with (show wpList _ _ _ (Oper.mk _ (.load _ (.tmp 3)) _ _ _ _ :: _) _ _; refine wpList_load_rowg rfl 36 (.tmp 3) rfl (w.heap.size) rfl _ _ _ _ (p3.out) Try.underlying36 rfl (by kernel_rfl) ?_)
    refine Calls.mono (MU.out w1 w1.heap.size rfl (HD.out.keep (Keeps.below B1.out))) ?_
    rintro e w2 ⟨g2, rfl, hg2, b2⟩
    replace b2 := bthen ((Below.refl _ w1).alloc (Nat.le_refl _) _) b2
    replace p3 := Lib.hid (p3.out.on b2)
    have B2 := Lib.hid (B1.out.trans (b2.mono B1.out.size))
    clear b2 B1 MU
    cases g2 with
    | true =>
      clear hg2
      go_wp2_with fail
      refine (LV.out _).mono ?_
      rintro e w9 ⟨rfl, b9⟩
      have B9 := Lib.hid (B2.out.trans (b9.mono B2.out.size))
      clear b9
      go_wp2
      go_ret
      exact ⟨rfl, B9.out⟩
    | false =>
      have hx3 := (hg2 rfl).2 x (by simp)
      have hsm : Small s := fun p hp => by have := hs60.out.2 p hp; omega
      have RR := fun w' (hw : PS w' (.slice Av s.length cv') s) => rright9_any _ s w' hw hsm
      have HX3 := Lib.hid hx3
      clear hg2 hx3 hsm
      cases hr : rightM s with
      | false =>
        rw [hr] at RR
        replace RR := Lib.hid RR
        clear hr
        go_wp2_with fail
        refine (RR.out _ (HV.out.keep (Keeps.below B2.out))).mono ?_
        rintro e w3 ⟨rfl, b3⟩
        have B3 := Lib.hid (B2.out.trans (b3.mono B2.out.size))
        clear b3
        go_wp2_with fail
        refine (LV.out _).mono ?_
        rintro e w9 ⟨rfl, b9⟩
        have B9 := Lib.hid (B3.out.trans (b9.mono B3.out.size))
        clear b9
        go_wp2
        go_ret
        exact ⟨rfl, B9.out⟩
      | true =>
        rw [hr] at RR
        replace RR := Lib.hid RR
        have hst := (right_iff s).1 hr
        have C1 := fun w' (hw : PS w' (.slice Av s.length cv') s) (hx : SV w' (.slice A x.b.length c) (bys x.b)) => stepM_any w' _ s A x.b.length c x hw hst (fun p hp => (HS.out p hp).1) hx (by have := HX3.out; omega) (by have := HX3.out; omega) H64.out (by have := hs60.out.1; omega)
        have C2 := fun w' A2 n2 c2 (hw : PS w' (.slice Av s.length cv') s) (hx : SV w' (.slice A2 n2 c2) (bys (plainX x).b)) => stepM_any w' _ s A2 n2 c2 (plainX x) hw hst (fun p hp => (HS.out p hp).1) hx (by have := HX3.out; have := plain_len x; omega) (by have := HX3.out; exact Nat.le_trans this.1 (by decide)) (in64x_plain H64.out) (by have := hs60.out.1; omega)
        have PL := fun w' (hx : SV w' (.slice A x.b.length c) (bys x.b)) => plain9_any A x.b.length c x w' hx (by have := HX3.out; omega)
        unfold Stepped9 at C1 C2
        rw [step_plain] at C2
        unfold Named at PL
        unfold ov kst at C1 C2 PL
        replace C1 := Lib.hid C1
        replace C2 := Lib.hid C2
        replace PL := Lib.hid PL
        clear hr hst HS H64 HX3 hs60
        go_wp2_with fail
        refine (RR.out _ (HV.out.keep (Keeps.below B2.out))).mono ?_
        rintro e w3 ⟨rfl, b3⟩
        replace p3 := Lib.hid (p3.out.on b3)
        have B3 := Lib.hid (B2.out.trans (b3.mono B2.out.size))
        clear b3 B2 RR
        generalize stepX s x = r at *
        go_wp2_with (show wpList _ _ _ (Oper.mk _ (.load _ (.tmp 3)) _ _ _ _ :: _) _ _; refine wpList_load_row rfl 36 (.tmp 3) rfl (w.heap.size) rfl _ _ _ _ (p3.out) Try.underlying36 rfl (by kernel_rfl) ?_)
        refine (C1.out _ (HV.out.keep (Keeps.below B3.out)) (HD.out.keep (Keeps.below B3.out))).mono ?_
        rintro e w4 ⟨v1, D1, rfl, hp1, hd1, b4⟩
        obtain ⟨A1, d1, rfl, _⟩ := id hd1
        rw [bys_len] at hd1 ⊢
        obtain ⟨E1, f1, rfl⟩ := hp1.slice
        replace hp1 := Lib.hid hp1
        replace hd1 := Lib.hid hd1
        replace p3 := Lib.hid (p3.out.on b4)
        have B4 := Lib.hid (B3.out.trans (b4.mono B3.out.size))
        clear b4 B3 C1
        unfold av
        go_wp2_with (first
          | (show wpList _ _ _ (Oper.mk _ (.store _ (.tmp 6) _) _ _ _ _ :: _) _ _; refine wpList_store_row rfl _ (.tmp 6) (.tmp 27) rfl (w4).heap.size _ rfl rfl _ _ (Whole.made (w4) _ _) (by kernel_rfl) rfl (by simp [Value.oneCell']) ?_; rw [World.setRow_alloc_new]; generalize hW : World.alloc _ _ = w5; have p6 := Lib.hid (made_eq hW).1; have b5 := Lib.hid (made_eq hW).2; clear hW; replace p3 := Lib.hid (p3.out.on b5.out); replace hp1 := Lib.hid (hp1.out.on b5.out); replace hd1 := Lib.hid (hd1.out.keep (Keeps.below b5.out)); have B5 := Lib.hid (B4.out.trans (b5.out.mono B4.out.size)); clear b5)
          | (show wpList _ _ _ (Oper.mk _ (.load _ (.tmp 3)) _ _ _ _ :: _) _ _; refine wpList_load_row rfl 36 (.tmp 3) rfl (w.heap.size) rfl _ _ _ _ (p3.out) Try.underlying36 rfl (by kernel_rfl) ?_))
        refine (PL.out _ (HD.out.keep (Keeps.below B5.out))).mono ?_
        rintro e w6 ⟨A2, n2, c2, rfl, hE, b6⟩
        replace hE := Lib.hid hE
        replace p6 := Lib.hid (p6.out.on b6)
        replace hp1 := Lib.hid (hp1.out.on b6)
        replace hd1 := Lib.hid (hd1.out.keep (Keeps.below b6))
        have B6 := Lib.hid (B5.out.trans (b6.mono B5.out.size))
        clear b6 B5 B4 PL p3
        go_wp2_with fail
        refine (C2.out _ _ _ _ (HV.out.keep (Keeps.below B6.out)) hE.out).mono ?_
        rintro e w7 ⟨v2, D2, rfl, hp2, hd2, b7⟩
        obtain ⟨A3, d3, rfl, _⟩ := id hd2
        rw [bys_len] at hd2 ⊢
        obtain ⟨E3, f3, rfl⟩ := hp2.slice
        replace hp2 := Lib.hid hp2
        replace hd2 := Lib.hid hd2
        replace p6 := Lib.hid (p6.out.on b7)
        replace hp1 := Lib.hid (hp1.out.on b7)
        replace hd1 := Lib.hid (hd1.out.keep (Keeps.below b7))
        have B7 := Lib.hid (B6.out.trans (b7.mono B6.out.size))
        clear b7 B6 C2
        unfold av
        go_wp2_with (show wpList _ _ _ (Oper.mk _ (.store _ (.tmp 8) _) _ _ _ _ :: _) _ _; refine wpList_store_row rfl _ (.tmp 8) (.tmp 34) rfl (w7).heap.size _ rfl rfl _ _ (Whole.made (w7) _ _) (by kernel_rfl) rfl (by simp [Value.oneCell']) ?_; rw [World.setRow_alloc_new]; generalize hW : World.alloc _ _ = w8; have p8 := Lib.hid (made_eq hW).1; have b8 := Lib.hid (made_eq hW).2; clear hW; replace p6 := Lib.hid (p6.out.on b8.out); replace hp1 := Lib.hid (hp1.out.on b8.out); replace hd1 := Lib.hid (hd1.out.keep (Keeps.below b8.out)); replace hp2 := Lib.hid (hp2.out.on b8.out); replace hd2 := Lib.hid (hd2.out.keep (Keeps.below b8.out)); have B8 := Lib.hid (B7.out.trans (b8.out.mono B7.out.size)); clear b8)
        have SS := rsame9_any _ _ r.1 r.1 w8 hp1.out hp2.out
        rw [eqS_self] at SS
        have SA := fun w' (hw : Below w8.heap.size w8 w') => rsameAnswer9_any r.2 r.2 A1 A3 d1 d3 w' (hd1.out.keep (Keeps.below hw)) (hd2.out.keep (Keeps.below hw))
        rw [eqA_self] at SA
        unfold av at SA
        replace SS := Lib.hid SS
        replace SA := Lib.hid SA
        refine SS.out.mono ?_
        rintro e w9 ⟨rfl, b9⟩
        replace p6 := Lib.hid (p6.out.on b9)
        replace p8 := Lib.hid (p8.out.on b9)
        have B9 := Lib.hid (B8.out.trans (b9.mono B8.out.size))
        replace b9 := Lib.hid b9
        go_wp2_with (first
          | (show wpList _ _ _ (Oper.mk _ (.load _ (.tmp 6)) _ _ _ _ :: _) _ _; refine wpList_load_rowg rfl 32 (.tmp 6) rfl (w4.heap.size) rfl _ _ _ _ (p6.out) Try.underlying32 rfl (by kernel_rfl) ?_)
          | (show wpList _ _ _ (Oper.mk _ (.load _ (.tmp 8)) _ _ _ _ :: _) _ _; refine wpList_load_rowg rfl 32 (.tmp 8) rfl (w7.heap.size) rfl _ _ _ _ (p8.out) Try.underlying32 rfl (by kernel_rfl) ?_))
        refine (SA.out _ b9.out).mono ?_
        rintro e w10 ⟨rfl, b10⟩
        have B10 := Lib.hid (B9.out.trans (b10.mono B9.out.size))
        clear b10
        go_wp2_with fail
        refine (LV.out _).mono ?_
        rintro e w11 ⟨rfl, b11⟩
        have B11 := Lib.hid (B10.out.trans (b11.mono B10.out.size))
        clear b11
        go_wp2
        go_ret
        exact ⟨rfl, B11.out⟩
end Go.Proofs.Ytejkpjaaefobnaa
