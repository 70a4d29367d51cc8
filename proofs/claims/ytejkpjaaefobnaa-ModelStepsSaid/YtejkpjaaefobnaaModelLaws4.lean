/- What the law ModelSteps comes to. -/
import Derived.Test.YtejkpjaaefobnaaModelLive
import Derived.Test.YtejkpjaaefobnaaModelRef3
import Derived.Test.YtejkpjaaefobnaaModelRStep2
import Derived.Test.YtejkpjaaefobnaaModelRunL
namespace Go.Proofs.Ytejkpjaaefobnaa
set_option maxRecDepth 20000
open Go.RowKit Go.Sort

theorem eqA_me (a : An) : eqA a a = true := by simp [eqA, sameC_self]
set_option maxHeartbeats 4000000 in
theorem steps9_law (v u : Value) (s : List Pr) (l : List Ox) (w : World) (hv : PS w v s) (hs : ∀ p ∈ s, in64c p.c ∧ p.c.d.length ≤ 9223372036854775807 ∧ p.k.length ≤ 9223372036854775807) (hu : OS w u l) (hl : ∀ x ∈ l, in64x x ∧ x.b.length ≤ 9223372036854775807 ∧ x.k.length ≤ 9223372036854775807) :
    Calls Try.prog 3 #[v, u] w fun e w' => e = .returned (.bool true) ∧ Below w.heap.size w w' := by
  obtain ⟨Av, cv', rfl⟩ := hv.slice
  obtain ⟨Au, cu, rfl⟩ := hu.slice
  have l3 := hu.bd.2
  have LV := Lib.hid (fun w => live9_any w)
  have MS := Lib.hid (fun w' (hw : PS w' (.slice Av s.length cv') s) => muchState_any _ s w' hw (fun p hp => (hs p hp).2))
  have MU := Lib.hid (fun w' (hw : OS w' (.slice Au l.length cu) l) => much9_any _ l w' hw (fun p hp => (hl p hp).2))
  have HV := Lib.hid hv
  have HU := Lib.hid hu
  have HS := Lib.hid hs
  have HX := Lib.hid hl
  clear hv hu hs hl
  go_enter Try.func3, Try.ntmps3
  go_wp2_with fail
  refine Calls.mono (MS.out _ HV.out) ?_
  rintro e w1 ⟨g1, rfl, hg1, b1⟩
  have B1 := Lib.hid b1
  clear b1 MS
  cases g1 with
  | true =>
    clear hg1
    go_wp2_with fail
    refine (LV.out _).mono ?_
    rintro e w9 ⟨rfl, b9⟩
    have B9 := Lib.hid (B1.out.trans (b9.mono B1.out.size))
    clear b9
    go_wp2
    go_ret
    exact ⟨rfl, B9.out⟩
  | false =>
    have hs60 := Lib.hid (hg1 rfl)
    clear hg1
    go_wp2_with fail
    refine Calls.mono (MU.out w1 (HU.out.on B1.out)) ?_
    rintro e w2 ⟨g2, rfl, hg2, b2⟩
    have B2 := Lib.hid (B1.out.trans (b2.mono B1.out.size))
    clear b2 B1 MU
    cases g2 with
    | true =>
      clear hg2
      go_wp2_with fail
      refine (LV.out _).mono ?_
      rintro e w9 ⟨rfl, b9⟩
      have B9 := Lib.hid (B2.out.trans (b9.mono B2.out.size))
      clear b9
      go_wp2
      go_ret
      exact ⟨rfl, B9.out⟩
    | false =>
      have hl60 := Lib.hid (hg2 rfl)
      have hsm : Small s := fun p hp => by have := hs60.out.2 p hp; omega
      have RR := fun w' (hw : PS w' (.slice Av s.length cv') s) => rright9_any _ s w' hw hsm
      clear hg2 hsm
      cases hr : rightM s with
      | false =>
        rw [hr] at RR
        replace RR := Lib.hid RR
        clear hr
        go_wp2_with fail
        refine (RR.out _ (HV.out.on B2.out)).mono ?_
        rintro e w3 ⟨rfl, b3⟩
        have B3 := Lib.hid (B2.out.trans (b3.mono B2.out.size))
        clear b3
        go_wp2_with fail
        refine (LV.out _).mono ?_
        rintro e w9 ⟨rfl, b9⟩
        have B9 := Lib.hid (B3.out.trans (b9.mono B3.out.size))
        clear b9
        go_wp2
        go_ret
        exact ⟨rfl, B9.out⟩
      | true =>
        rw [hr] at RR
        replace RR := Lib.hid RR
        have hst := (right_iff s).1 hr
        have RF := fun j => run_facts (s := s) (l := l) hst (fun p hp => (HS.out p hp).1) hl60.out.1 hs60.out.1 (fun x hx => (HX.out x hx).1) j
        have C1 := fun j x (hx : l[j]? = some x) w' vx A n c (hw : PS w' vx (runX s (l.take j))) (hsv : SV w' (.slice A n c) (bys x.b)) => stepM_any w' vx (runX s (l.take j)) A n c x hw (RF j).1 (RF j).2.1 hsv (by have := (hl60.out.2 x (List.mem_of_getElem? hx)).2; omega) (by have := (hl60.out.2 x (List.mem_of_getElem? hx)).1; omega) (HX.out x (List.mem_of_getElem? hx)).1 (RF j).2.2
        have C2 := fun j x (hx : l[j]? = some x) w' vx A n c (hw : PS w' vx (runX s (l.take j))) (hsv : SV w' (.slice A n c) (bys x.b)) => rstep9_any w' vx (runX s (l.take j)) A n c x hw (RF j).1 (RF j).2.1 hsv (by have := (hl60.out.2 x (List.mem_of_getElem? hx)).1; omega) (HX.out x (List.mem_of_getElem? hx)).1 (RF j).2.2
        have CR := fun w' (hw : PS w' (.slice Av s.length cv') s) (ho : OS w' (.slice Au l.length cu) l) => run9_any w' _ _ s l hw ho hst (fun p hp => (HS.out p hp).1) hl60.out.1 hs60.out.1 (fun x hx => (HX.out x hx).1) (fun x hx => hl60.out.2 x hx)
        have SR := fun j => show rightM (runX s (l.take j)) = true ∧ Small (runX s (l.take j)) from ⟨(right_iff _).2 (RF j).1, st_small (RF j).1⟩
        unfold Stepped9 at C1 C2
        unfold ov kst at C1 C2
        replace C1 := Lib.hid C1
        replace C2 := Lib.hid C2
        replace CR := Lib.hid CR
        replace SR := Lib.hid SR
        clear hr hst HS HX hs60 hl60 RF
        go_wp2_with fail
        refine (RR.out _ (HV.out.on B2.out)).mono ?_
        rintro e w3 ⟨rfl, b3⟩
        have B3 := Lib.hid (B2.out.trans (b3.mono B2.out.size))
        clear b3 B2 RR
        go_wp2_with fail
        go_loopw [5, 6, 7] (fun x y i wr => ∃ j : Nat, j ≤ l.length ∧ i = .int .i64 j ∧ Hid (PS wr x (runX s (l.take j))) ∧ Hid (PS wr y (runX s (l.take j))) ∧ Hid (Below w.heap.size w wr)) (fun _ _ i _ => l.length - (intOf i).toNat)
        case atStart => exact ⟨0, by omega, rfl, Lib.hid (HV.out.on B3.out), Lib.hid (HV.out.on B3.out), B3⟩
        case round =>
          clear B3
          obtain ⟨j, hj, rfl, hX, hY, hB⟩ := hrel
          by_cases hlt : j < l.length
          · obtain ⟨b, off, x, Ad, cd, rfl, hx, c0, c1, c2, c3, c4, c5, hd⟩ := OS.at6 (HU.out.on hB.out) hlt
            have CA := Lib.hid (C1.out j x hx)
            have CB := Lib.hid (C2.out j x hx)
            have hnx := Lib.hid (run_next l s j x hx)
            have hrs := SR.out (j + 1)
            rw [run_next l s j x hx] at hrs
            replace hrs := Lib.hid hrs
            replace hd := Lib.hid hd
            clear hx C1 C2 CR SR
            generalize stepX (runX s (l.take j)) x = r at *
            go_wp2_with fail
            refine (CA.out _ _ _ _ _ hX.out hd.out).mono ?_
            rintro e w4 ⟨v1, D1, rfl, hp1, hd1, b4⟩
            obtain ⟨A1, d1, rfl, _⟩ := id hd1
            rw [bys_len] at hd1 ⊢
            obtain ⟨E1, f1, rfl⟩ := hp1.slice
            replace hp1 := Lib.hid hp1
            replace hd1 := Lib.hid hd1
            have k4 := Keeps.below b4
            have B4 := Lib.hid (hB.out.trans (b4.mono hB.out.size))
            replace c0 := k4 _ _ c0
            replace c1 := k4 _ _ c1
            replace c2 := k4 _ _ c2
            replace c3 := k4 _ _ c3
            replace c4 := k4 _ _ c4
            replace c5 := k4 _ _ c5
            replace hd := Lib.hid (hd.out.keep k4)
            replace hY := Lib.hid (hY.out.on b4)
            clear b4 hB CA k4 hX
            unfold av
            go_wp2_with (show wpList _ _ _ (Oper.mk _ (.store _ (.tmp 9) _) _ _ _ _ :: _) _ _; refine wpList_store_row rfl _ (.tmp 9) (.tmp 42) rfl (w4).heap.size _ rfl rfl _ _ (Whole.made (w4) _ _) (by kernel_rfl) rfl (by simp [Value.oneCell']) ?_; rw [World.setRow_alloc_new]; generalize hW : World.alloc _ _ = w5; have p9 := Lib.hid (made_eq hW).1; have b5 := Lib.hid (made_eq hW).2; clear hW; replace hp1 := Lib.hid (hp1.out.on b5.out); replace hd1 := Lib.hid (hd1.out.keep (Keeps.below b5.out)); replace hY := Lib.hid (hY.out.on b5.out); replace hd := Lib.hid (hd.out.keep (Keeps.below b5.out)); replace c0 := (Keeps.below b5.out) _ _ c0; replace c1 := (Keeps.below b5.out) _ _ c1; replace c2 := (Keeps.below b5.out) _ _ c2; replace c3 := (Keeps.below b5.out) _ _ c3; replace c4 := (Keeps.below b5.out) _ _ c4; replace c5 := (Keeps.below b5.out) _ _ c5; have B5 := Lib.hid (B4.out.trans (b5.out.mono B4.out.size)); clear b5)
            refine (CB.out _ _ _ _ _ hY.out hd.out).mono ?_
            rintro e w6 ⟨v2, D2, rfl, hp2, hd2, b6⟩
            obtain ⟨A2, d2, rfl, _⟩ := id hd2
            rw [bys_len] at hd2 ⊢
            obtain ⟨E2, f2, rfl⟩ := hp2.slice
            replace hp2 := Lib.hid hp2
            replace hd2 := Lib.hid hd2
            replace hp1 := Lib.hid (hp1.out.on b6)
            replace hd1 := Lib.hid (hd1.out.keep (Keeps.below b6))
            replace p9 := Lib.hid (p9.out.on b6)
            have B6 := Lib.hid (B5.out.trans (b6.mono B5.out.size))
            clear b6 B5 B4 CB hY hd c0 c1 c2 c3 c4 c5
            unfold av
            go_wp2_with (show wpList _ _ _ (Oper.mk _ (.store _ (.tmp 11) _) _ _ _ _ :: _) _ _; refine wpList_store_row rfl _ (.tmp 11) (.tmp 51) rfl (w6).heap.size _ rfl rfl _ _ (Whole.made (w6) _ _) (by kernel_rfl) rfl (by simp [Value.oneCell']) ?_; rw [World.setRow_alloc_new]; generalize hW : World.alloc _ _ = w7; have p11 := Lib.hid (made_eq hW).1; have b7 := Lib.hid (made_eq hW).2; clear hW; replace hp1 := Lib.hid (hp1.out.on b7.out); replace hd1 := Lib.hid (hd1.out.keep (Keeps.below b7.out)); replace hp2 := Lib.hid (hp2.out.on b7.out); replace hd2 := Lib.hid (hd2.out.keep (Keeps.below b7.out)); replace p9 := Lib.hid (p9.out.on b7.out); have B7 := Lib.hid (B6.out.trans (b7.out.mono B6.out.size)); clear b7)
            have SS := rsame9_any _ _ r.1 r.1 w7 hp1.out hp2.out
            rw [eqS_self] at SS
            have SA := fun w' (hw : Below w7.heap.size w7 w') => rsameAnswer9_any r.2 r.2 A1 A2 d1 d2 w' (hd1.out.keep (Keeps.below hw)) (hd2.out.keep (Keeps.below hw))
            rw [eqA_me] at SA
            unfold av at SA
            have SG := fun w' (hw : PS w' (.slice E1 r.1.length f1) r.1) => right9_any _ r.1 w' hw hrs.out.2
            rw [hrs.out.1] at SG
            replace SS := Lib.hid SS
            replace SA := Lib.hid SA
            replace SG := Lib.hid SG
            refine SS.out.mono ?_
            rintro e w8 ⟨rfl, b8⟩
            replace p9 := Lib.hid (p9.out.on b8)
            replace p11 := Lib.hid (p11.out.on b8)
            have B8 := Lib.hid (B7.out.trans (b8.mono B7.out.size))
            have b8' := Lib.hid b8
            clear b8 SS
            go_wp2_with (first
              | (show wpList _ _ _ (Oper.mk _ (.load _ (.tmp 9)) _ _ _ _ :: _) _ _; refine wpList_load_rowg rfl 32 (.tmp 9) rfl (w4.heap.size) rfl _ _ _ _ (p9.out) Try.underlying32 rfl (by kernel_rfl) ?_)
              | (show wpList _ _ _ (Oper.mk _ (.load _ (.tmp 11)) _ _ _ _ :: _) _ _; refine wpList_load_rowg rfl 32 (.tmp 11) rfl (w6.heap.size) rfl _ _ _ _ (p11.out) Try.underlying32 rfl (by kernel_rfl) ?_))
            refine (SA.out _ b8'.out).mono ?_
            rintro e wa ⟨rfl, ba⟩
            have Ba := Lib.hid (B8.out.trans (ba.mono B8.out.size))
            have h7a := Lib.hid (b8'.out.trans (ba.mono b8'.out.size))
            clear ba SA p9 p11
            go_wp2_with fail
            refine (SG.out _ (hp1.out.on h7a.out)).mono ?_
            rintro e wb ⟨rfl, bb⟩
            have Bb := Lib.hid (Ba.out.trans (bb.mono Ba.out.size))
            have h7b := Lib.hid (h7a.out.trans (bb.mono h7a.out.size))
            clear bb SG
            go_wp2
            go_roundw
            case rel => exact ⟨j + 1, by omega, by go_num, Lib.hid (by rw [hnx.out]; exact hp1.out.on h7b.out), Lib.hid (by rw [hnx.out]; exact hp2.out.on h7b.out), Bb⟩
            case measure => simp [intOf]; omega
          · obtain rfl : j = l.length := by omega
            have hYl := Lib.hid (show PS wr _ (runX s l) by have := hY.out; rw [List.take_length] at this; exact this)
            clear hX hY C1 C2 SR
            go_wp2_with fail
            refine (CR.out _ (HV.out.on hB.out) (HU.out.on hB.out)).mono ?_
            rintro e w4 ⟨v4, T4, rfl, hp4, b4⟩
            have SS := rsame9_any _ _ (runX s l) (runX s l) w4 hp4 (hYl.out.on b4)
            rw [eqS_self] at SS
            replace SS := Lib.hid SS
            have B4 := Lib.hid (hB.out.trans (b4.mono hB.out.size))
            clear b4 hp4 CR
            go_wp2_with fail
            refine SS.out.mono ?_
            rintro e w5 ⟨rfl, b5⟩
            have B5 := Lib.hid (B4.out.trans (b5.mono B4.out.size))
            clear b5
            go_wp2_with fail
            refine (LV.out _).mono ?_
            rintro e w9 ⟨rfl, b9⟩
            have B9 := Lib.hid (B5.out.trans (b9.mono B5.out.size))
            clear b9
            go_wp2
            go_ret
            exact ⟨rfl, B9.out⟩
end Go.Proofs.Ytejkpjaaefobnaa
