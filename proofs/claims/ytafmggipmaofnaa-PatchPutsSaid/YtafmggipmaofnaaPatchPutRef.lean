/- Layer 8: a patch as bytes: the reference's. -/
import Derived.Test.YtafmggipmaofnaaPatchPut
import Derived.Test.YtafmggipmaofnaaPatchRight
import Derived.Test.YtafmggipmaofnaaPageRef
namespace Go.Proofs.Ytafmggipmaofnaa
set_option maxRecDepth 20000
open Go.RowKit

theorem text_bytes (d : List UInt8) (w : World) (hd : d.length ≤ 65535) : Calls Try.prog 32 #[.string ⟨d.toArray⟩] w (OwnB (beb 2 (ub d.length) ++ d) w) := by
  have e : (⟨d.toArray⟩ : ByteArray).size = d.length := by simp [ByteArray.size]
  refine (refText ⟨d.toArray⟩ w (by rw [e]; exact hd)).mono fun e' w' ⟨v, h1, h2, h3⟩ => ⟨v, h1, ?_, h3⟩
  have e2 : textb d = beb 2 (ub (d.length : Int)) ++ d := by unfold textb; rw [ub_nat d.length (by omega)]
  unfold fOwn
  rw [← e2, bys_len]
  have e3 : (textb d).length = 2 + d.length := by simp [textb]
  rw [e3]
  simpa [e] using h2

theorem app_own0 {w w' : World} {base : Nat} {v v' : Value} {x : Nat} (h : App w w' base 5 v v' (bys (beb 2 x)) [.int .u8 0]) : w'.ownsRow base 5 1 v' 3 (bys (beb 2 x ++ [0])) := by
  have h1 := h.own (.inl (by simp))
  have e : bys (beb 2 x) ++ [Value.int .u8 0] = bys (beb 2 x ++ [0]) := by simp [bys]
  rw [e, bys_len, List.length_append, beb_len] at h1
  exact h1
theorem bys_at2 (x : Nat) : (bys (beb 2 x ++ [0]))[2]? = some (.int .u8 0) := by
  simp [bys]
theorem bys_set2 (x : Nat) : (bys (beb 2 x ++ [0])).set 2 (.int .u8 1) = bys (beb 2 x ++ beb 1 (ub (fbyte true))) := by
  have h : beb 1 (ub (fbyte true)) = [1] := by decide
  rw [h]
  simp [bys, List.set_append_right]
theorem beb_f0 : beb 1 (ub (fbyte false)) = [0] := by decide
set_option maxHeartbeats 4000000 in
theorem rform8_any (x : Pt) (vr : Value) (w : World) (hpg : i64 x.pg) (hr : RS w vr x.rs) (hs : Sane x.rs) :
    Calls Try.prog 17 #[pv vr x] w (OwnB (bytesP x) w) := by
  obtain ⟨i0, hi, hz0, hz1, hz2⟩ := info_parts Try.info5
  have CK := Lib.hid (fun w' (h : Below w.heap.size w w') => right8_any x vr w' hpg (hr.keep (Keeps.below h)) hs)
  have HL := Lib.hid hr
  obtain ⟨pg, fr, l⟩ := x
  unfold bytesP at *
  obtain ⟨Al, cl, rfl, l1, l2, _, _⟩ := id hr
  have l3 := hr.bd.2.2
  simp only at *
  clear hr
  unfold pv at *
  simp only at *
  unfold OwnB
  cases hg : okP8 ⟨pg, fr, l⟩ with
  | false =>
    rw [hg] at CK
    simp only [Bool.false_eq_true, if_false] at CK ⊢
    go_enter Try.func17, Try.ntmps17
    go_wp2_with (first
      | (refine wpList_load_row rfl _ _ rfl (w.heap.size) rfl _ _ _ _ (Whole.made w _ _) Try.underlying37 rfl (by kernel_rfl) ?_)
      | (go_at_call 18; refine (CK.out _ ((Below.refl _ w).alloc (Nat.le_refl _) _)).mono ?_; rintro e w1 ⟨rfl, b1⟩))
    go_ret
    exact ⟨_, rfl, World.ownsRow_nil _ _ _ _, ((Below.refl _ w).alloc (Nat.le_refl _) _).trans (b1.mono (by simp))⟩
  | true =>
    rw [hg] at CK
    simp only [if_true] at CK ⊢
    have hgd : 0 ≤ pg ∧ pg ≤ 65535 ∧ l.length ≤ 500 ∧ okRuns 0 l = true := of_decide_eq_true hg
    have hall := ok_all l 0 hgd.2.2.2
    have HH : headB ⟨pg, fr, l⟩ = beb 2 (ub pg) ++ beb 1 (ub (fbyte fr)) ++ beb 2 (ub l.length) := by simp [headB]
    have hHl := headB_len ⟨pg, fr, l⟩
    unfold patchB
    generalize headB ⟨pg, fr, l⟩ = H at *
    replace HH := Lib.hid HH
    clear hg hpg
    cases fr with
    | false =>
      skip
      go_enter Try.func17, Try.ntmps17
      go_wp2_with (refine wpList_load_row rfl _ _ rfl (w.heap.size) rfl _ _ _ _ (Whole.made w _ _) Try.underlying37 rfl (by kernel_rfl) ?_)
      refine (CK.out _ ((Below.refl _ w).alloc (Nat.le_refl _) _)).mono ?_
      rintro e w1 ⟨rfl, b1⟩
      have hw1 := (Whole.made w 37 #[.int .i64 pg, .bool false, .slice Al l.length cl]).on b1
      have q0 : w1.cell? ⟨w.heap.size, 0, none⟩ = some (.int .i64 pg) := hw1.cell 0
      have B1 := Lib.hid (((Below.refl _ w).alloc (Nat.le_refl _) (.cells #[.int .i64 pg, .bool false, .slice Al l.length cl] 37)).trans (b1.mono (by simp)))
      clear b1
      go_wp2_with fail
      refine (ownb_bytes 2 pg _ (by omega)).mono ?_
      rintro e w2 ⟨v2, rfl, o2, b2⟩
      have hw2 := (hw1.on b2).later (.cells #[.int .u8 0] 5)
      have O2 := Lib.hid (fOwn.on (o2.low B1.out.size) ((Below.refl _ _).alloc (Nat.le_refl _) (.cells #[.int .u8 0] 5)))
      have B2 := Lib.hid (B1.out.trans (b2.mono B1.out.size))
      replace hw2 := Lib.hid hw2
      clear o2 b2 q0 hw1 CK
      go_wp2_with (at_builtin; refine wpList_app _ rfl (.tmp 10) (.tmp 11) 32 rfl w.heap.size 5 i0 (.int .u8 0) 1 Try.underlying32 hi hz0 hz1 hz2 rfl v2 (bys (beb 2 (ub pg))) rfl (.inl O2.out) _ [.int .u8 0] rfl (SV.lit1 _ _ _) (by simp [Value.oneCell']) (by rw [bys_len]; unfold maxLen; simp) (by rw [bys_len]; simp) (by have := B2.out.size; simp; omega) ?_; intro v3 w3 happ; have hw3 := (happ.other hw2.out.lt (own_not O2.out hw2.out (by decide))).trans hw2.out; have o3 := app_own0 happ; have B3 := Lib.hid ((B2.out.alloc B2.out.size (.cells #[.int .u8 0] 5)).trans (happ.below (by have := B2.out.size; simp; omega))); clear happ; obtain ⟨g3, cap3, rfl⟩ := own_pos o3 (by omega); have q1 : w3.cell? ⟨w.heap.size, 1, none⟩ = some (.bool false) := Whole.cell hw3 1; have q2 : w3.cell? ⟨w.heap.size, 2, none⟩ = some (.slice Al l.length cl) := Whole.cell hw3 2; have hgn : g3 ≠ w.heap.size := (fun e => own_not o3 hw3 (by decide) (by rw [e]; rfl)); have c3 := o3.cellAt 2 (by omega); have f3 := o3.frozenAt 2; rw [bys_at2] at c3; have O3 := Lib.hid o3; have W3 := Lib.hid hw3; clear o3 hw3)
      have OW : Hid (fOwn w.heap.size 5 (bys (beb 2 (ub pg) ++ beb 1 (ub (fbyte false)))) (.slice (some ⟨g3, 0, none⟩) 3 cap3) w3) := Lib.hid (by rw [beb_f0]; unfold fOwn; rw [bys_len]; simpa using O3.out)
      have OB := B3
      have hwb : Hid (Whole w3 w.heap.size 37 #[.int .i64 pg, .bool false, .slice Al l.length cl]) := W3
      clear O3 B3 W3 hw2 O2 B2 B1 q1 q2 c3 f3 hgn
      skip
      refine (ownb_bytes 2 (l.length : Int) _ (by omega)).mono ?_
      rintro e w4 ⟨v4, rfl, o4, b4⟩
      have hw4 := Lib.hid (hwb.out.on b4)
      have S4 := Lib.hid o4.sv
      have B4 := Lib.hid (OB.out.trans (b4.mono OB.out.size))
      have O4 := Lib.hid (fOwn.on OW.out b4)
      clear o4 b4 OW OB hwb
      go_wp2_with (at_builtin; refine wpList_app _ rfl (.tmp 17) (.tmp 21) 32 rfl w.heap.size 5 i0 (.int .u8 0) 1 Try.underlying32 hi hz0 hz1 hz2 rfl (.slice (some ⟨g3, 0, none⟩) 3 cap3) (bys (beb 2 (ub pg) ++ beb 1 (ub (fbyte false)))) rfl (.inl O4.out) v4 (bys (beb 2 (ub l.length))) rfl S4.out (bys_one _) (by rw [bys_len, bys_len]; unfold maxLen; simp) (by rw [bys_len, bys_len]; simp) B4.out.size ?_; intro v5 w5 happ; have hw5 := Lib.hid ((happ.other hw4.out.lt (own_not O4.out hw4.out (by decide))).trans hw4.out); have O5 : Hid (fOwn w.heap.size 5 (bys H) v5 w5) := Lib.hid (by have := happ.own (.inr O4.out); rw [← bys_app, ← HH.out] at this; exact this); have B5 := Lib.hid (B4.out.trans (happ.below B4.out.size)); clear happ)
      go_loopw [3, 4] (fun v i wr => ∃ k : Nat, k ≤ l.length ∧ i = .int .i64 k ∧ fOwn w.heap.size 5 (bys (H ++ runsB (l.take k))) v wr ∧ Below w.heap.size w wr ∧ Whole wr w.heap.size 37 #[.int .i64 pg, .bool false, .slice Al l.length cl]) (fun _ i _ => l.length - (intOf i).toNat)
      case atStart => exact ⟨0, by omega, rfl, by simpa [runsB] using O5.out, B5.out, hw5.out⟩
      case round =>
        obtain ⟨k, hk, rfl, hO, hB, hbx⟩ := hrel
        have q2 : wr.cell? ⟨w.heap.size, 2, none⟩ = some (.slice Al l.length cl) := Whole.cell hbx 2
        by_cases hlt : k < l.length
        · obtain ⟨bl, ol, r, D, rfl, hr, cr1, cr2, cr3⟩ := RS.at HL.out hlt
          have hwi := (wthn_iff r).1 (hall r (List.mem_of_getElem? hr))
          have hrl := runsB_len (l.take k) (fun s hs => hall s (List.mem_of_mem_take hs))
          have hkk : (l.take k).length * 504 ≤ 500 * 504 := Nat.mul_le_mul_right _ (by rw [List.length_take]; omega)
          obtain ⟨Ad, cd, rfl, _⟩ := id cr3
          rw [bys_len] at cr2 cr3
          have CR2 := Lib.hid cr2
          have CR3 := Lib.hid cr3
          replace cr1 := Keeps.below hB _ _ cr1
          have HR := Lib.hid (show H ++ runsB (l.take k) ++ beb 2 (ub r.p) ++ (beb 2 (ub r.d.length) ++ r.d) = H ++ runsB (l.take (k + 1)) by rw [runsB_snoc hr]; simp [runB, List.append_assoc])
          have hX : (H ++ runsB (l.take k)).length ≤ 300000 := by rw [List.length_append]; omega
          clear cr2 cr3 hrl hkk
          generalize H ++ runsB (l.take k) = X at *
          replace hO := Lib.hid hO
          replace hB := Lib.hid hB
          replace hbx := Lib.hid hbx
          go_wp2_with fail
          refine (ownb_bytes 2 r.p _ (by omega)).mono ?_
          rintro e w6 ⟨v6, rfl, o6, b6⟩
          have S6 := Lib.hid o6.sv
          have B6 := Lib.hid (hB.out.trans (b6.mono hB.out.size))
          have O6 := Lib.hid (fOwn.on hO.out b6)
          have hb6 := Lib.hid (hbx.out.on b6)
          clear o6 b6 q2 cr1 hbx hO hB
          go_wp2_with (at_builtin; refine wpList_app _ rfl (.tmp 30) (.tmp 37) 32 rfl w.heap.size 5 i0 (.int .u8 0) 1 Try.underlying32 hi hz0 hz1 hz2 rfl u3 (bys X) rfl (.inl O6.out) v6 (bys (beb 2 (ub r.p))) rfl S6.out (bys_one _) (by rw [bys_len, bys_len]; unfold maxLen; simp; omega) (by rw [bys_len, bys_len]; simp; omega) B6.out.size ?_; intro v7 w7 happ; have hb7 := Lib.hid ((happ.other hb6.out.lt (own_not O6.out hb6.out (by decide))).trans hb6.out); have O7 : Hid (fOwn w.heap.size 5 (bys (X ++ beb 2 (ub r.p))) v7 w7) := Lib.hid (by have := happ.own (.inr O6.out); rw [← bys_app] at this; exact this); have B7 := Lib.hid (B6.out.trans (happ.below B6.out.size)); have q2 : w7.cell? ⟨w.heap.size, 2, none⟩ = some (.slice (some ⟨bl, ol, none⟩) l.length cl) := Whole.cell hb7.out 2; have cr2 := Keeps.below B7.out _ _ CR2.out; have cs := run_bytes_string (P := Try.prog) (CR3.out.keep (Keeps.below B7.out)) 32 5 Try.underlying32 Try.underlying5 9 Try.underlying9; clear happ)
          refine (text_bytes r.d _ (by omega)).mono ?_
          rintro e w8 ⟨v8, rfl, o8, b8⟩
          have S8 := Lib.hid o8.sv
          have B8 := Lib.hid (B7.out.trans (b8.mono B7.out.size))
          have O8 := Lib.hid (fOwn.on O7.out b8)
          have hb8 := Lib.hid (Whole.on hb7.out b8)
          clear o8 b8 q2 cr2 cs hb7 O7 B7 S6 B6 O6 hb6
          go_wp2_with (at_builtin; refine wpList_app _ rfl (.tmp 39) (.tmp 47) 32 rfl w.heap.size 5 i0 (.int .u8 0) 1 Try.underlying32 hi hz0 hz1 hz2 rfl v7 (bys (X ++ beb 2 (ub r.p))) rfl (.inl O8.out) v8 (bys (beb 2 (ub r.d.length) ++ r.d)) rfl S8.out (bys_one _) (by rw [bys_len, bys_len]; unfold maxLen; simp; omega) (by rw [bys_len, bys_len]; simp; omega) B8.out.size ?_; intro v9 w9 happ; have hb9 := Lib.hid ((happ.other hb8.out.lt (own_not O8.out hb8.out (by decide))).trans hb8.out); have O9 : Hid (fOwn w.heap.size 5 (bys (X ++ beb 2 (ub r.p) ++ (beb 2 (ub r.d.length) ++ r.d))) v9 w9) := Lib.hid (by have := happ.own (.inr O8.out); rw [← bys_app] at this; exact this); have B9 := Lib.hid (B8.out.trans (happ.below B8.out.size)); clear happ)
          go_roundw
          case rel => exact ⟨k + 1, by omega, by go_num, by rw [← HR.out]; exact O9.out, B9.out, hb9.out⟩
          case measure => simp [intOf]; omega
        · obtain rfl : k = l.length := by omega
          rw [List.take_length] at hO
          go_wp2
          go_ret
          exact ⟨_, rfl, hO, hB⟩
    | true =>
      skip
      go_enter Try.func17, Try.ntmps17
      go_wp2_with (refine wpList_load_row rfl _ _ rfl (w.heap.size) rfl _ _ _ _ (Whole.made w _ _) Try.underlying37 rfl (by kernel_rfl) ?_)
      refine (CK.out _ ((Below.refl _ w).alloc (Nat.le_refl _) _)).mono ?_
      rintro e w1 ⟨rfl, b1⟩
      have hw1 := (Whole.made w 37 #[.int .i64 pg, .bool true, .slice Al l.length cl]).on b1
      have q0 : w1.cell? ⟨w.heap.size, 0, none⟩ = some (.int .i64 pg) := hw1.cell 0
      have B1 := Lib.hid (((Below.refl _ w).alloc (Nat.le_refl _) (.cells #[.int .i64 pg, .bool true, .slice Al l.length cl] 37)).trans (b1.mono (by simp)))
      clear b1
      go_wp2_with fail
      refine (ownb_bytes 2 pg _ (by omega)).mono ?_
      rintro e w2 ⟨v2, rfl, o2, b2⟩
      have hw2 := (hw1.on b2).later (.cells #[.int .u8 0] 5)
      have O2 := Lib.hid (fOwn.on (o2.low B1.out.size) ((Below.refl _ _).alloc (Nat.le_refl _) (.cells #[.int .u8 0] 5)))
      have B2 := Lib.hid (B1.out.trans (b2.mono B1.out.size))
      replace hw2 := Lib.hid hw2
      clear o2 b2 q0 hw1 CK
      go_wp2_with (at_builtin; refine wpList_app _ rfl (.tmp 10) (.tmp 11) 32 rfl w.heap.size 5 i0 (.int .u8 0) 1 Try.underlying32 hi hz0 hz1 hz2 rfl v2 (bys (beb 2 (ub pg))) rfl (.inl O2.out) _ [.int .u8 0] rfl (SV.lit1 _ _ _) (by simp [Value.oneCell']) (by rw [bys_len]; unfold maxLen; simp) (by rw [bys_len]; simp) (by have := B2.out.size; simp; omega) ?_; intro v3 w3 happ; have hw3 := (happ.other hw2.out.lt (own_not O2.out hw2.out (by decide))).trans hw2.out; have o3 := app_own0 happ; have B3 := Lib.hid ((B2.out.alloc B2.out.size (.cells #[.int .u8 0] 5)).trans (happ.below (by have := B2.out.size; simp; omega))); clear happ; obtain ⟨g3, cap3, rfl⟩ := own_pos o3 (by omega); have q1 : w3.cell? ⟨w.heap.size, 1, none⟩ = some (.bool true) := Whole.cell hw3 1; have q2 : w3.cell? ⟨w.heap.size, 2, none⟩ = some (.slice Al l.length cl) := Whole.cell hw3 2; have hgn : g3 ≠ w.heap.size := (fun e => own_not o3 hw3 (by decide) (by rw [e]; rfl)); have c3 := o3.cellAt 2 (by omega); have f3 := o3.frozenAt 2; rw [bys_at2] at c3; have O3 := Lib.hid o3; have W3 := Lib.hid hw3; clear o3 hw3)
      have st := O3.out.stored 2 (.int .u8 1)
      rw [bys_set2] at st
      have OW : Hid (fOwn w.heap.size 5 (bys (beb 2 (ub pg) ++ beb 1 (ub (fbyte true)))) (.slice (some ⟨g3, 0, none⟩) 3 cap3) (w3.setCell ⟨g3, 2, none⟩ (.int .u8 1))) := Lib.hid (by unfold fOwn; rw [bys_len]; simpa using st.1)
      have OB := Lib.hid (B3.out.grown st.2 B3.out.size (fun j hj => by injection hj with hj; have := (World.ownsRow.lt O3.out g3 rfl).1; omega))
      have hwb : Hid (Whole (w3.setCell ⟨g3, 2, none⟩ (.int .u8 1)) w.heap.size 37 #[.int .i64 pg, .bool true, .slice Al l.length cl]) := Lib.hid (Whole.apart (show Whole w3 w.heap.size 37 _ from W3.out) (fun e => hgn e.symm) _)
      clear st O3 B3 W3 hw2 O2 B2 B1 q1 q2 c3 f3 hgn
      generalize w3.setCell ⟨g3, 2, none⟩ (.int .u8 1) = w3 at *
      skip
      refine (ownb_bytes 2 (l.length : Int) _ (by omega)).mono ?_
      rintro e w4 ⟨v4, rfl, o4, b4⟩
      have hw4 := Lib.hid (hwb.out.on b4)
      have S4 := Lib.hid o4.sv
      have B4 := Lib.hid (OB.out.trans (b4.mono OB.out.size))
      have O4 := Lib.hid (fOwn.on OW.out b4)
      clear o4 b4 OW OB hwb
      go_wp2_with (at_builtin; refine wpList_app _ rfl (.tmp 17) (.tmp 21) 32 rfl w.heap.size 5 i0 (.int .u8 0) 1 Try.underlying32 hi hz0 hz1 hz2 rfl (.slice (some ⟨g3, 0, none⟩) 3 cap3) (bys (beb 2 (ub pg) ++ beb 1 (ub (fbyte true)))) rfl (.inl O4.out) v4 (bys (beb 2 (ub l.length))) rfl S4.out (bys_one _) (by rw [bys_len, bys_len]; unfold maxLen; simp) (by rw [bys_len, bys_len]; simp) B4.out.size ?_; intro v5 w5 happ; have hw5 := Lib.hid ((happ.other hw4.out.lt (own_not O4.out hw4.out (by decide))).trans hw4.out); have O5 : Hid (fOwn w.heap.size 5 (bys H) v5 w5) := Lib.hid (by have := happ.own (.inr O4.out); rw [← bys_app, ← HH.out] at this; exact this); have B5 := Lib.hid (B4.out.trans (happ.below B4.out.size)); clear happ)
      go_loopw [3, 4] (fun v i wr => ∃ k : Nat, k ≤ l.length ∧ i = .int .i64 k ∧ fOwn w.heap.size 5 (bys (H ++ runsB (l.take k))) v wr ∧ Below w.heap.size w wr ∧ Whole wr w.heap.size 37 #[.int .i64 pg, .bool true, .slice Al l.length cl]) (fun _ i _ => l.length - (intOf i).toNat)
      case atStart => exact ⟨0, by omega, rfl, by simpa [runsB] using O5.out, B5.out, hw5.out⟩
      case round =>
        obtain ⟨k, hk, rfl, hO, hB, hbx⟩ := hrel
        have q2 : wr.cell? ⟨w.heap.size, 2, none⟩ = some (.slice Al l.length cl) := Whole.cell hbx 2
        by_cases hlt : k < l.length
        · obtain ⟨bl, ol, r, D, rfl, hr, cr1, cr2, cr3⟩ := RS.at HL.out hlt
          have hwi := (wthn_iff r).1 (hall r (List.mem_of_getElem? hr))
          have hrl := runsB_len (l.take k) (fun s hs => hall s (List.mem_of_mem_take hs))
          have hkk : (l.take k).length * 504 ≤ 500 * 504 := Nat.mul_le_mul_right _ (by rw [List.length_take]; omega)
          obtain ⟨Ad, cd, rfl, _⟩ := id cr3
          rw [bys_len] at cr2 cr3
          have CR2 := Lib.hid cr2
          have CR3 := Lib.hid cr3
          replace cr1 := Keeps.below hB _ _ cr1
          have HR := Lib.hid (show H ++ runsB (l.take k) ++ beb 2 (ub r.p) ++ (beb 2 (ub r.d.length) ++ r.d) = H ++ runsB (l.take (k + 1)) by rw [runsB_snoc hr]; simp [runB, List.append_assoc])
          have hX : (H ++ runsB (l.take k)).length ≤ 300000 := by rw [List.length_append]; omega
          clear cr2 cr3 hrl hkk
          generalize H ++ runsB (l.take k) = X at *
          replace hO := Lib.hid hO
          replace hB := Lib.hid hB
          replace hbx := Lib.hid hbx
          go_wp2_with fail
          refine (ownb_bytes 2 r.p _ (by omega)).mono ?_
          rintro e w6 ⟨v6, rfl, o6, b6⟩
          have S6 := Lib.hid o6.sv
          have B6 := Lib.hid (hB.out.trans (b6.mono hB.out.size))
          have O6 := Lib.hid (fOwn.on hO.out b6)
          have hb6 := Lib.hid (hbx.out.on b6)
          clear o6 b6 q2 cr1 hbx hO hB
          go_wp2_with (at_builtin; refine wpList_app _ rfl (.tmp 30) (.tmp 37) 32 rfl w.heap.size 5 i0 (.int .u8 0) 1 Try.underlying32 hi hz0 hz1 hz2 rfl u3 (bys X) rfl (.inl O6.out) v6 (bys (beb 2 (ub r.p))) rfl S6.out (bys_one _) (by rw [bys_len, bys_len]; unfold maxLen; simp; omega) (by rw [bys_len, bys_len]; simp; omega) B6.out.size ?_; intro v7 w7 happ; have hb7 := Lib.hid ((happ.other hb6.out.lt (own_not O6.out hb6.out (by decide))).trans hb6.out); have O7 : Hid (fOwn w.heap.size 5 (bys (X ++ beb 2 (ub r.p))) v7 w7) := Lib.hid (by have := happ.own (.inr O6.out); rw [← bys_app] at this; exact this); have B7 := Lib.hid (B6.out.trans (happ.below B6.out.size)); have q2 : w7.cell? ⟨w.heap.size, 2, none⟩ = some (.slice (some ⟨bl, ol, none⟩) l.length cl) := Whole.cell hb7.out 2; have cr2 := Keeps.below B7.out _ _ CR2.out; have cs := run_bytes_string (P := Try.prog) (CR3.out.keep (Keeps.below B7.out)) 32 5 Try.underlying32 Try.underlying5 9 Try.underlying9; clear happ)
          refine (text_bytes r.d _ (by omega)).mono ?_
          rintro e w8 ⟨v8, rfl, o8, b8⟩
          have S8 := Lib.hid o8.sv
          have B8 := Lib.hid (B7.out.trans (b8.mono B7.out.size))
          have O8 := Lib.hid (fOwn.on O7.out b8)
          have hb8 := Lib.hid (Whole.on hb7.out b8)
          clear o8 b8 q2 cr2 cs hb7 O7 B7 S6 B6 O6 hb6
          go_wp2_with (at_builtin; refine wpList_app _ rfl (.tmp 39) (.tmp 47) 32 rfl w.heap.size 5 i0 (.int .u8 0) 1 Try.underlying32 hi hz0 hz1 hz2 rfl v7 (bys (X ++ beb 2 (ub r.p))) rfl (.inl O8.out) v8 (bys (beb 2 (ub r.d.length) ++ r.d)) rfl S8.out (bys_one _) (by rw [bys_len, bys_len]; unfold maxLen; simp; omega) (by rw [bys_len, bys_len]; simp; omega) B8.out.size ?_; intro v9 w9 happ; have hb9 := Lib.hid ((happ.other hb8.out.lt (own_not O8.out hb8.out (by decide))).trans hb8.out); have O9 : Hid (fOwn w.heap.size 5 (bys (X ++ beb 2 (ub r.p) ++ (beb 2 (ub r.d.length) ++ r.d))) v9 w9) := Lib.hid (by have := happ.own (.inr O8.out); rw [← bys_app] at this; exact this); have B9 := Lib.hid (B8.out.trans (happ.below B8.out.size)); clear happ)
          go_roundw
          case rel => exact ⟨k + 1, by omega, by go_num, by rw [← HR.out]; exact O9.out, B9.out, hb9.out⟩
          case measure => simp [intOf]; omega
        · obtain rfl : k = l.length := by omega
          rw [List.take_length] at hO
          go_wp2
          go_ret
          exact ⟨_, rfl, hO, hB⟩
end Go.Proofs.Ytafmggipmaofnaa
