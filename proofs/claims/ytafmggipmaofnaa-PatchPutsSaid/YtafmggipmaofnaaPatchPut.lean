/- Layer 8: a patch as bytes: the program's. -/
import Derived.Test.YtafmggipmaofnaaPatchCheck
import Derived.Test.YtafmggipmaofnaaCellPut
namespace Go.Proofs.Ytafmggipmaofnaa
set_option maxRecDepth 20000
open Go.RowKit

/-- A run as bytes; runs; a patch. -/
def runB (r : Rn) : List UInt8 := beb 2 (ub r.p) ++ beb 2 (ub r.d.length) ++ r.d
def runsB (l : List Rn) : List UInt8 := l.flatMap runB
def fbyte (b : Bool) : Int := if b then 1 else 0
def headB (x : Pt) : List UInt8 := beb 2 (ub x.pg) ++ beb 1 (ub (fbyte x.fr)) ++ beb 2 (ub x.rs.length)
def patchB (x : Pt) : List UInt8 := headB x ++ runsB x.rs
def bytesP (x : Pt) : List UInt8 := if okP8 x then patchB x else []
theorem headB_len (x : Pt) : (headB x).length = 5 := by simp [headB]
theorem runB_len (r : Rn) : (runB r).length = 4 + r.d.length := by simp [runB]; omega
theorem runsB_snoc {l : List Rn} {k : Nat} {r : Rn} (h : l[k]? = some r) : runsB (l.take (k + 1)) = runsB (l.take k) ++ runB r := by
  unfold runsB
  rw [List.take_add_one, h, List.flatMap_append]
  simp
theorem ok_all : ∀ (l : List Rn) (b : Int), okRuns b l = true → ∀ r ∈ l, wthn r = true
  | [], _, _, r, h => by cases h
  | x :: l, b, h, r, hr => by
    unfold okRuns at h
    simp only [Bool.and_eq_true] at h
    rcases List.mem_cons.1 hr with rfl | hr
    · exact h.1.1
    · exact ok_all l _ h.2 r hr
theorem runsB_len : ∀ (l : List Rn), (∀ r ∈ l, wthn r = true) → (runsB l).length ≤ l.length * 504
  | [], _ => by simp [runsB]
  | r :: l, h => by
    have h1 := (wthn_iff r).1 (h r (by simp))
    have h2 := runsB_len l fun s hs => h s (List.mem_cons_of_mem _ hs)
    have e : runsB (r :: l) = runB r ++ runsB l := by simp [runsB]
    rw [e, List.length_append, runB_len, List.length_cons]
    omega
theorem bytesP_len (x : Pt) : (bytesP x).length ≤ 300000 := by
  unfold bytesP
  split
  · rename_i h
    have h1 : 0 ≤ x.pg ∧ x.pg ≤ 65535 ∧ x.rs.length ≤ 500 ∧ okRuns 0 x.rs = true := of_decide_eq_true h
    have h2 := runsB_len x.rs (ok_all x.rs 0 h1.2.2.2)
    unfold patchB
    rw [List.length_append, headB_len]
    have : x.rs.length * 504 ≤ 500 * 504 := Nat.mul_le_mul_right _ h1.2.2.1
    omega
  · simp

theorem own_not {w : World} {M : Nat} {t t' : TypeId} {s n : Nat} {v : Value} {xs : List Value} {g : Nat} {cs : Array Value} (h : w.ownsRow M t s v n xs) (hw : Whole w g t' cs) (hne : t ≠ t') : v.ownBlock ≠ some g := by
  rcases h.2 with ⟨rfl, _⟩ | ⟨g', cap, cur, rfl, _, hg, _⟩
  · simp [Value.ownBlock]
  · intro e
    simp only [Value.ownBlock, Option.some.injEq] at e
    subst e
    rw [show w.heap[g']? = _ from hw] at hg
    injection hg with hg
    injection hg with _ hg
    exact hne hg.symm
set_option maxHeartbeats 4000000 in
theorem form8_any (x : Pt) (vr : Value) (w : World) (hpg : i64 x.pg) (hr : RS w vr x.rs) (hs : Sane x.rs) :
    Calls Try.prog 30 #[pv vr x] w (OwnB (bytesP x) w) := by
  obtain ⟨i0, hi, hz0, hz1, hz2⟩ := info_parts Try.info5
  have CK := Lib.hid (fun w' (h : Below w.heap.size w w') => check8_any x vr w' hpg (hr.keep (Keeps.below h)) hs)
  have HL := Lib.hid hr
  obtain ⟨pg, fr, l⟩ := x
  unfold ck8 bytesP at *
  obtain ⟨Al, cl, rfl, l1, l2, _, _⟩ := id hr
  have l3 := hr.bd.2.2
  simp only at *
  clear hr
  unfold pv at *
  simp only at *
  unfold OwnB
  cases hg : okP8 ⟨pg, fr, l⟩ with
  | false =>
    rw [hg] at CK
    simp only [Bool.false_eq_true, if_false] at CK ⊢
    go_enter Try.func30, Try.ntmps30
    go_wp2_with (first
      | (refine wpList_load_row rfl _ _ rfl (w.heap.size) rfl _ _ _ _ (Whole.made w _ _) Try.underlying37 rfl (by kernel_rfl) ?_)
      | (go_at_call 12; refine (CK.out _ ((Below.refl _ w).alloc (Nat.le_refl _) _)).mono ?_; rintro e w1 ⟨rfl, b1⟩))
    go_ret
    exact ⟨_, rfl, World.ownsRow_nil _ _ _ _, ((Below.refl _ w).alloc (Nat.le_refl _) _).trans (b1.mono (by simp))⟩
  | true =>
    rw [hg] at CK
    simp only [if_true] at CK ⊢
    have hgd : 0 ≤ pg ∧ pg ≤ 65535 ∧ l.length ≤ 500 ∧ okRuns 0 l = true := of_decide_eq_true hg
    have hall := ok_all l 0 hgd.2.2.2
    have PU := Lib.hid (fun (w' : World) (v : Value) (l' : List UInt8) (m : Nat) (x : Int) (h1 : l'.length ≤ 1073741824) (h2 : SV w' v (bys l')) (h3 : 1 ≤ m) (h4 : m ≤ 8) => own_put v l' m x w' h1 h2 h3 h4)
    have HH : headB ⟨pg, fr, l⟩ = [] ++ beb 2 (ub pg) ++ beb 1 (ub (fbyte fr)) ++ beb 2 (ub l.length) := by simp [headB]
    have hHl := headB_len ⟨pg, fr, l⟩
    unfold patchB
    generalize headB ⟨pg, fr, l⟩ = H at *
    replace HH := Lib.hid HH
    clear hg hpg
    cases fr with
    | false =>
      skip
      go_enter Try.func30, Try.ntmps30
      go_wp2_with (first
        | (refine wpList_load_row rfl _ _ rfl (w.heap.size) rfl _ _ _ _ (Whole.made w _ _) Try.underlying37 rfl (by kernel_rfl) ?_)
        | (go_at_call 12; refine (CK.out _ ((Below.refl _ w).alloc (Nat.le_refl _) _)).mono ?_; rintro e w1 ⟨rfl, b1⟩; have hw1 := (Whole.made w 37 #[.int .i64 pg, .bool false, .slice Al l.length cl]).on b1; have q0 : w1.cell? ⟨w.heap.size, 0, none⟩ = some (.int .i64 pg) := hw1.cell 0; have q1 : w1.cell? ⟨w.heap.size, 1, none⟩ = some (.bool false) := hw1.cell 1; have B1 := Lib.hid (((Below.refl _ w).alloc (Nat.le_refl _) (.cells #[.int .i64 pg, .bool false, .slice Al l.length cl] 37)).trans (b1.mono (by simp))); clear b1)
        | fail)
      refine (PU.out w1 (.slice none 0 0) [] 2 pg (by simp) (SV.nil _) (by omega) (by omega)).mono ?_
      rintro e w2 ⟨v2, rfl, o2, b2⟩
      have hw2 := hw1.on b2
      have S2 := Lib.hid o2.sv
      have B2 := Lib.hid (B1.out.trans (b2.mono B1.out.size))
      clear o2 b2 q0 q1 hw1
      go_wp2_with fail
      refine (PU.out w2 v2 ([] ++ beb 2 (ub pg)) 1 (fbyte false) (by simp) S2.out (by omega) (by omega)).mono ?_
      rintro e w3 ⟨v3, rfl, o3, b3⟩
      have hw3 := hw2.on b3
      have S3 := Lib.hid o3.sv
      have B3 := Lib.hid (B2.out.trans (b3.mono B2.out.size))
      have q2 : w3.cell? ⟨w.heap.size, 2, none⟩ = some (.slice Al l.length cl) := hw3.cell 2
      clear o3 b3 hw2
      go_wp2_with fail
      refine (PU.out w3 v3 ([] ++ beb 2 (ub pg) ++ beb 1 (ub (fbyte false))) 2 (l.length : Int) (by simp) S3.out (by omega) (by omega)).mono ?_
      rintro e w4 ⟨v4, rfl, o4, b4⟩
      have O4 : Hid (fOwn w.heap.size 5 (bys H) v4 w4) := Lib.hid (by rw [HH.out]; exact o4.low B3.out.size)
      have B4 := Lib.hid (B3.out.trans (b4.mono B3.out.size))
      have r2 : w4.cell? ⟨w.heap.size, 2, none⟩ = some (.slice Al l.length cl) := (hw3.on b4).cell 2
      clear o4 b4 hw3 q2 CK PU HH
      go_wp2
      skip
      go_loopw [4, 26] (fun v i wr => ∃ k : Nat, k ≤ l.length ∧ i = .int .i64 k ∧ fOwn w.heap.size 5 (bys (H ++ runsB (l.take k))) v wr ∧ Below w.heap.size w wr) (fun _ i _ => l.length - (intOf i).toNat)
      case atStart => exact ⟨0, by omega, rfl, by simpa [runsB] using O4.out, B4.out⟩
      case round =>
        obtain ⟨k, hk, rfl, hO, hB⟩ := hrel
        by_cases hlt : k < l.length
        · obtain ⟨bl, ol, r, D, rfl, hr, cr1, cr2, cr3⟩ := RS.at HL.out hlt
          replace cr1 := Keeps.below hB _ _ cr1
          replace cr2 := Keeps.below hB _ _ cr2
          have hwi := (wthn_iff r).1 (hall r (List.mem_of_getElem? hr))
          have hrl := runsB_len (l.take k) (fun s hs => hall s (List.mem_of_mem_take hs))
          have hkk : (l.take k).length * 504 ≤ 500 * 504 := Nat.mul_le_mul_right _ (by rw [List.length_take]; omega)
          obtain ⟨Ad, cd, rfl, _⟩ := id cr3
          rw [bys_len] at cr2 cr3
          have CR3 := Lib.hid cr3
          have HR := Lib.hid (show H ++ runsB (l.take k) ++ (beb 2 (ub r.p) ++ beb 2 (ub r.d.length)) ++ r.d = H ++ runsB (l.take (k + 1)) by rw [runsB_snoc hr]; simp [runB, List.append_assoc])
          have hX : (H ++ runsB (l.take k)).length ≤ 300000 := by rw [List.length_append]; omega
          clear cr3 hrl hkk
          generalize H ++ runsB (l.take k) = X at *
          have P1 := Lib.hid (fun w => own_put (.slice none 0 0) [] 2 r.p w (by simp) (SV.nil w) (by omega) (by omega))
          have P2 := Lib.hid (fun w v (h : SV w v (bys (beb 2 (ub r.p)))) => own_put v (beb 2 (ub r.p)) 2 (r.d.length : Int) w (by simp) h (by omega) (by omega))
          rw [List.nil_append] at P1
          have hB1 := Lib.hid (hB.alloc hB.size (.cells #[.int .i64 r.p, .slice Ad r.d.length cd] 56))
          have hO1 := Lib.hid (fOwn.on hO ((Below.refl _ wr).alloc (Nat.le_refl _) (.cells #[.int .i64 r.p, .slice Ad r.d.length cd] 56)))
          have hw6 := Whole.made wr 56 #[.int .i64 r.p, .slice Ad r.d.length cd]
          clear hO
          go_wp2_with fail
          generalize wr.alloc (.cells #[.int .i64 r.p, .slice Ad r.d.length cd] 56) = w5 at *
          refine wp_region_new 8 [] [] [33, 37] (by kernel_rfl) (by kernel_rfl) (by kernel_rfl) (by kernel_rfl) (fun t ht => by cases ht) (by simp) (free_draw w5) ?_
          simp only [List.take_succ_cons, List.take_zero, List.drop_succ_cons, List.drop_zero, List.zipIdx_cons, List.zipIdx_nil, Nat.zero_add, Nat.reduceAdd]
          repeat (show wpF _ _ _ _ _ _ (_ :: _) _ _; first
            | (refine f_skip (fun V => by rfl) ?_; simp only [Act.put, List.setIfInBounds_toArray, List.set_cons_succ, List.set_cons_zero])
              
                  | (refine f_load_cell (by first | exact cls_free _ | exact cls_row _ _ _ _ | exact cls_fill _ _ _ _ _ | exact cls_butC _ _ | exact cls_butD _ _ _ _ _ _ _) (fun V => by rfl) _ _ rfl _ (fun V => by rfl) _ (fun w hb => ((hw6.on hb).cell 0).trans rfl) _ Try.underlying3 rfl ?_; simp only [Act.put, List.setIfInBounds_toArray, List.set_cons_succ, List.set_cons_zero])
                  | (refine f_load_cell (by first | exact cls_free _ | exact cls_row _ _ _ _ | exact cls_fill _ _ _ _ _ | exact cls_butC _ _ | exact cls_butD _ _ _ _ _ _ _) (fun V => by rfl) _ _ rfl _ (fun V => by rfl) _ (fun w hb => ((hw6.on hb).cell 1).trans rfl) _ Try.underlying32 rfl ?_; simp only [Act.put, List.setIfInBounds_toArray, List.set_cons_succ, List.set_cons_zero])
                  | (refine f_callF (by first | exact cls_free _ | exact cls_row _ _ _ _ | exact cls_fill _ _ _ _ _ | exact cls_butC _ _ | exact cls_butD _ _ _ _ _ _ _) (fSV (bys (beb 2 (ub r.p)))) (stays_sv _) (fun V => by rfl) (by decide) 42 _ _ rfl (enters_of Try.func42 rfl rfl) _ (fun V w hb hk => (P1.out w).mono fun e w' ⟨v, h1, h2, h3⟩ => ⟨v, h1, h2.sv, h3⟩) (fun V => by rfl) ?_; simp only [Act.put, List.setIfInBounds_toArray, List.set_cons_succ, List.set_cons_zero, keyOf, Option.getD_some])
                  | (refine f_callF (by first | exact cls_free _ | exact cls_row _ _ _ _ | exact cls_fill _ _ _ _ _ | exact cls_butC _ _ | exact cls_butD _ _ _ _ _ _ _) (fSV (bys (beb 2 (ub r.p) ++ beb 2 (ub r.d.length)))) (stays_sv _) (fun V => by rfl) (by decide) 42 _ _ rfl (enters_of Try.func42 rfl rfl) _ (fun V w hb hk => (P2.out w _ (hk.slot 33 rfl rfl)).mono fun e w' ⟨v, h1, h2, h3⟩ => ⟨v, h1, h2.sv, h3⟩) (fun V => by rfl) ?_; simp only [Act.put, List.setIfInBounds_toArray, List.set_cons_succ, List.set_cons_zero, keyOf, Option.getD_some])
            | (refine f_quiet (by first | exact cls_free _ | exact cls_row _ _ _ _ | exact cls_fill _ _ _ _ _ | exact cls_butC _ _ | exact cls_butD _ _ _ _ _ _ _) (fun V => by rfl) (fun V => ⟨_, rfl, by simp⟩) ?_; apply Exists.intro; refine And.intro (fun V w hw K hK => ?_) ?_; ((try simp only [Act.put, List.setIfInBounds_toArray, List.set_cons_succ, List.set_cons_zero] at hK); go_big_quiet_op; exact hK); simp only [Act.put, List.setIfInBounds_toArray, List.set_cons_succ, List.set_cons_zero]))
          refine f_nil ?_
          intro V w6 hq hkn _
          have S7 : Hid (SV w6 (V 7) (bys (beb 2 (ub r.p) ++ beb 2 (ub r.d.length)))) := Lib.hid (all_slot hkn 37 rfl)
          have O6 := Lib.hid (fOwn.on hO1.out hq)
          have B6 := Lib.hid (hB1.out.trans (Below.mono hq hB1.out.size))
          have q0 : w6.cell? ⟨wr.heap.size, 1, none⟩ = some (.slice Ad r.d.length cd) := (hw6.on hq).cell 1
          have hne6 := own_not O6.out (hw6.on hq) (by decide)
          have hw6' := hw6.on hq
          clear hkn hq P1 P2
          go_wp2_with (first
            | (at_builtin; refine wpList_app _ rfl (.tmp 30) (.tmp 37) 32 rfl w.heap.size 5 i0 (.int .u8 0) 1 Try.underlying32 hi hz0 hz1 hz2 rfl u4 (bys X) rfl (.inl O6.out) (V 7) (bys (beb 2 (ub r.p) ++ beb 2 (ub r.d.length))) rfl S7.out (bys_one _) (by rw [bys_len, bys_len]; unfold maxLen; simp; omega) (by rw [bys_len, bys_len]; simp; omega) B6.out.size ?_; intro v7 w7 happ; have O7 : Hid (fOwn w.heap.size 5 (bys (X ++ (beb 2 (ub r.p) ++ beb 2 (ub r.d.length)))) v7 w7) := Lib.hid (by have := happ.own (.inr O6.out); unfold fOwn; rwa [bys_app]); have B7 := Lib.hid (B6.out.trans (happ.below B6.out.size)); have q7 : w7.cell? ⟨wr.heap.size, 1, none⟩ = some (.slice Ad r.d.length cd) := Whole.cell ((happ.other hw6'.lt hne6).trans hw6') 1; clear happ q0)
            | ((at_builtin; refine wpList_appo rfl (.tmp 39) (.tmp 41) 32 rfl (w.heap.size) 5 i0 Try.underlying32 hi hz0 hz1 hz2 (v7) (.slice Ad r.d.length cd) (X ++ (beb 2 (ub r.p) ++ beb 2 (ub r.d.length))) (r.d) rfl rfl (O7.out) (CR3.out.keep (Keeps.below B7.out)) (by simp; omega) (B7.out.size) ?_); intro v8 w8 O8 b8; have B8 := Lib.hid (B7.out.trans b8.out); clear b8)
            | fail)
          go_roundw
          case rel => exact ⟨k + 1, by omega, by go_num, by rw [← HR.out]; exact O8.out, B8.out⟩
          case measure => simp [intOf]; omega
        · obtain rfl : k = l.length := by omega
          rw [List.take_length] at hO
          go_wp2
          go_ret
          exact ⟨_, rfl, hO, hB⟩
    | true =>
      skip
      go_enter Try.func30, Try.ntmps30
      go_wp2_with (first
        | (refine wpList_load_row rfl _ _ rfl (w.heap.size) rfl _ _ _ _ (Whole.made w _ _) Try.underlying37 rfl (by kernel_rfl) ?_)
        | (go_at_call 12; refine (CK.out _ ((Below.refl _ w).alloc (Nat.le_refl _) _)).mono ?_; rintro e w1 ⟨rfl, b1⟩; have hw1 := (Whole.made w 37 #[.int .i64 pg, .bool true, .slice Al l.length cl]).on b1; have q0 : w1.cell? ⟨w.heap.size, 0, none⟩ = some (.int .i64 pg) := hw1.cell 0; have q1 : w1.cell? ⟨w.heap.size, 1, none⟩ = some (.bool true) := hw1.cell 1; have B1 := Lib.hid (((Below.refl _ w).alloc (Nat.le_refl _) (.cells #[.int .i64 pg, .bool true, .slice Al l.length cl] 37)).trans (b1.mono (by simp))); clear b1)
        | fail)
      refine (PU.out w1 (.slice none 0 0) [] 2 pg (by simp) (SV.nil _) (by omega) (by omega)).mono ?_
      rintro e w2 ⟨v2, rfl, o2, b2⟩
      have hw2 := hw1.on b2
      have S2 := Lib.hid o2.sv
      have B2 := Lib.hid (B1.out.trans (b2.mono B1.out.size))
      clear o2 b2 q0 q1 hw1
      go_wp2_with fail
      refine (PU.out w2 v2 ([] ++ beb 2 (ub pg)) 1 (fbyte true) (by simp) S2.out (by omega) (by omega)).mono ?_
      rintro e w3 ⟨v3, rfl, o3, b3⟩
      have hw3 := hw2.on b3
      have S3 := Lib.hid o3.sv
      have B3 := Lib.hid (B2.out.trans (b3.mono B2.out.size))
      have q2 : w3.cell? ⟨w.heap.size, 2, none⟩ = some (.slice Al l.length cl) := hw3.cell 2
      clear o3 b3 hw2
      go_wp2_with fail
      refine (PU.out w3 v3 ([] ++ beb 2 (ub pg) ++ beb 1 (ub (fbyte true))) 2 (l.length : Int) (by simp) S3.out (by omega) (by omega)).mono ?_
      rintro e w4 ⟨v4, rfl, o4, b4⟩
      have O4 : Hid (fOwn w.heap.size 5 (bys H) v4 w4) := Lib.hid (by rw [HH.out]; exact o4.low B3.out.size)
      have B4 := Lib.hid (B3.out.trans (b4.mono B3.out.size))
      have r2 : w4.cell? ⟨w.heap.size, 2, none⟩ = some (.slice Al l.length cl) := (hw3.on b4).cell 2
      clear o4 b4 hw3 q2 CK PU HH
      go_wp2
      skip
      go_loopw [4, 26] (fun v i wr => ∃ k : Nat, k ≤ l.length ∧ i = .int .i64 k ∧ fOwn w.heap.size 5 (bys (H ++ runsB (l.take k))) v wr ∧ Below w.heap.size w wr) (fun _ i _ => l.length - (intOf i).toNat)
      case atStart => exact ⟨0, by omega, rfl, by simpa [runsB] using O4.out, B4.out⟩
      case round =>
        obtain ⟨k, hk, rfl, hO, hB⟩ := hrel
        by_cases hlt : k < l.length
        · obtain ⟨bl, ol, r, D, rfl, hr, cr1, cr2, cr3⟩ := RS.at HL.out hlt
          replace cr1 := Keeps.below hB _ _ cr1
          replace cr2 := Keeps.below hB _ _ cr2
          have hwi := (wthn_iff r).1 (hall r (List.mem_of_getElem? hr))
          have hrl := runsB_len (l.take k) (fun s hs => hall s (List.mem_of_mem_take hs))
          have hkk : (l.take k).length * 504 ≤ 500 * 504 := Nat.mul_le_mul_right _ (by rw [List.length_take]; omega)
          obtain ⟨Ad, cd, rfl, _⟩ := id cr3
          rw [bys_len] at cr2 cr3
          have CR3 := Lib.hid cr3
          have HR := Lib.hid (show H ++ runsB (l.take k) ++ (beb 2 (ub r.p) ++ beb 2 (ub r.d.length)) ++ r.d = H ++ runsB (l.take (k + 1)) by rw [runsB_snoc hr]; simp [runB, List.append_assoc])
          have hX : (H ++ runsB (l.take k)).length ≤ 300000 := by rw [List.length_append]; omega
          clear cr3 hrl hkk
          generalize H ++ runsB (l.take k) = X at *
          have P1 := Lib.hid (fun w => own_put (.slice none 0 0) [] 2 r.p w (by simp) (SV.nil w) (by omega) (by omega))
          have P2 := Lib.hid (fun w v (h : SV w v (bys (beb 2 (ub r.p)))) => own_put v (beb 2 (ub r.p)) 2 (r.d.length : Int) w (by simp) h (by omega) (by omega))
          rw [List.nil_append] at P1
          have hB1 := Lib.hid (hB.alloc hB.size (.cells #[.int .i64 r.p, .slice Ad r.d.length cd] 56))
          have hO1 := Lib.hid (fOwn.on hO ((Below.refl _ wr).alloc (Nat.le_refl _) (.cells #[.int .i64 r.p, .slice Ad r.d.length cd] 56)))
          have hw6 := Whole.made wr 56 #[.int .i64 r.p, .slice Ad r.d.length cd]
          clear hO
          go_wp2_with fail
          generalize wr.alloc (.cells #[.int .i64 r.p, .slice Ad r.d.length cd] 56) = w5 at *
          refine wp_region_new 8 [] [] [33, 37] (by kernel_rfl) (by kernel_rfl) (by kernel_rfl) (by kernel_rfl) (fun t ht => by cases ht) (by simp) (free_draw w5) ?_
          simp only [List.take_succ_cons, List.take_zero, List.drop_succ_cons, List.drop_zero, List.zipIdx_cons, List.zipIdx_nil, Nat.zero_add, Nat.reduceAdd]
          repeat (show wpF _ _ _ _ _ _ (_ :: _) _ _; first
            | (refine f_skip (fun V => by rfl) ?_; simp only [Act.put, List.setIfInBounds_toArray, List.set_cons_succ, List.set_cons_zero])
              
                  | (refine f_load_cell (by first | exact cls_free _ | exact cls_row _ _ _ _ | exact cls_fill _ _ _ _ _ | exact cls_butC _ _ | exact cls_butD _ _ _ _ _ _ _) (fun V => by rfl) _ _ rfl _ (fun V => by rfl) _ (fun w hb => ((hw6.on hb).cell 0).trans rfl) _ Try.underlying3 rfl ?_; simp only [Act.put, List.setIfInBounds_toArray, List.set_cons_succ, List.set_cons_zero])
                  | (refine f_load_cell (by first | exact cls_free _ | exact cls_row _ _ _ _ | exact cls_fill _ _ _ _ _ | exact cls_butC _ _ | exact cls_butD _ _ _ _ _ _ _) (fun V => by rfl) _ _ rfl _ (fun V => by rfl) _ (fun w hb => ((hw6.on hb).cell 1).trans rfl) _ Try.underlying32 rfl ?_; simp only [Act.put, List.setIfInBounds_toArray, List.set_cons_succ, List.set_cons_zero])
                  | (refine f_callF (by first | exact cls_free _ | exact cls_row _ _ _ _ | exact cls_fill _ _ _ _ _ | exact cls_butC _ _ | exact cls_butD _ _ _ _ _ _ _) (fSV (bys (beb 2 (ub r.p)))) (stays_sv _) (fun V => by rfl) (by decide) 42 _ _ rfl (enters_of Try.func42 rfl rfl) _ (fun V w hb hk => (P1.out w).mono fun e w' ⟨v, h1, h2, h3⟩ => ⟨v, h1, h2.sv, h3⟩) (fun V => by rfl) ?_; simp only [Act.put, List.setIfInBounds_toArray, List.set_cons_succ, List.set_cons_zero, keyOf, Option.getD_some])
                  | (refine f_callF (by first | exact cls_free _ | exact cls_row _ _ _ _ | exact cls_fill _ _ _ _ _ | exact cls_butC _ _ | exact cls_butD _ _ _ _ _ _ _) (fSV (bys (beb 2 (ub r.p) ++ beb 2 (ub r.d.length)))) (stays_sv _) (fun V => by rfl) (by decide) 42 _ _ rfl (enters_of Try.func42 rfl rfl) _ (fun V w hb hk => (P2.out w _ (hk.slot 33 rfl rfl)).mono fun e w' ⟨v, h1, h2, h3⟩ => ⟨v, h1, h2.sv, h3⟩) (fun V => by rfl) ?_; simp only [Act.put, List.setIfInBounds_toArray, List.set_cons_succ, List.set_cons_zero, keyOf, Option.getD_some])
            | (refine f_quiet (by first | exact cls_free _ | exact cls_row _ _ _ _ | exact cls_fill _ _ _ _ _ | exact cls_butC _ _ | exact cls_butD _ _ _ _ _ _ _) (fun V => by rfl) (fun V => ⟨_, rfl, by simp⟩) ?_; apply Exists.intro; refine And.intro (fun V w hw K hK => ?_) ?_; ((try simp only [Act.put, List.setIfInBounds_toArray, List.set_cons_succ, List.set_cons_zero] at hK); go_big_quiet_op; exact hK); simp only [Act.put, List.setIfInBounds_toArray, List.set_cons_succ, List.set_cons_zero]))
          refine f_nil ?_
          intro V w6 hq hkn _
          have S7 : Hid (SV w6 (V 7) (bys (beb 2 (ub r.p) ++ beb 2 (ub r.d.length)))) := Lib.hid (all_slot hkn 37 rfl)
          have O6 := Lib.hid (fOwn.on hO1.out hq)
          have B6 := Lib.hid (hB1.out.trans (Below.mono hq hB1.out.size))
          have q0 : w6.cell? ⟨wr.heap.size, 1, none⟩ = some (.slice Ad r.d.length cd) := (hw6.on hq).cell 1
          have hne6 := own_not O6.out (hw6.on hq) (by decide)
          have hw6' := hw6.on hq
          clear hkn hq P1 P2
          go_wp2_with (first
            | (at_builtin; refine wpList_app _ rfl (.tmp 30) (.tmp 37) 32 rfl w.heap.size 5 i0 (.int .u8 0) 1 Try.underlying32 hi hz0 hz1 hz2 rfl u4 (bys X) rfl (.inl O6.out) (V 7) (bys (beb 2 (ub r.p) ++ beb 2 (ub r.d.length))) rfl S7.out (bys_one _) (by rw [bys_len, bys_len]; unfold maxLen; simp; omega) (by rw [bys_len, bys_len]; simp; omega) B6.out.size ?_; intro v7 w7 happ; have O7 : Hid (fOwn w.heap.size 5 (bys (X ++ (beb 2 (ub r.p) ++ beb 2 (ub r.d.length)))) v7 w7) := Lib.hid (by have := happ.own (.inr O6.out); unfold fOwn; rwa [bys_app]); have B7 := Lib.hid (B6.out.trans (happ.below B6.out.size)); have q7 : w7.cell? ⟨wr.heap.size, 1, none⟩ = some (.slice Ad r.d.length cd) := Whole.cell ((happ.other hw6'.lt hne6).trans hw6') 1; clear happ q0)
            | ((at_builtin; refine wpList_appo rfl (.tmp 39) (.tmp 41) 32 rfl (w.heap.size) 5 i0 Try.underlying32 hi hz0 hz1 hz2 (v7) (.slice Ad r.d.length cd) (X ++ (beb 2 (ub r.p) ++ beb 2 (ub r.d.length))) (r.d) rfl rfl (O7.out) (CR3.out.keep (Keeps.below B7.out)) (by simp; omega) (B7.out.size) ?_); intro v8 w8 O8 b8; have B8 := Lib.hid (B7.out.trans b8.out); clear b8)
            | fail)
          go_roundw
          case rel => exact ⟨k + 1, by omega, by go_num, by rw [← HR.out]; exact O8.out, B8.out⟩
          case measure => simp [intOf]; omega
        · obtain rfl : k = l.length := by omega
          rw [List.take_length] at hO
          go_wp2
          go_ret
          exact ⟨_, rfl, hO, hB⟩

theorem put8_any (v : Value) (l : List UInt8) (x : Pt) (vr : Value) (w : World) (hv : SV w v (bys l)) (hl : l.length ≤ 1000000) (hpg : i64 x.pg) (hr : RS w vr x.rs) (hs : Sane x.rs) :
    Calls Try.prog 16 #[v, pv vr x] w (OwnB (l ++ bytesP x) w) := by
  obtain ⟨B, k, b, rfl⟩ : ∃ B k b, v = .slice B k b := by obtain ⟨B, b, e, _⟩ := hv; exact ⟨B, _, b, e⟩
  have hcl := bytesP_len x
  have CF := Lib.hid (fun w' (hb : Below w.heap.size w w') => form8_any x vr w' hpg (hr.keep (Keeps.below hb)) hs)
  have CC := fun w' D p q (hb : Below w.heap.size w w') (h : SV w' (.slice D p q) (bys (bytesP x))) => concat_any (some ⟨w'.heap.size, 0, none⟩) 2 2 [.slice B k b, .slice D p q] [l, bytesP x] (w'.alloc (.cells #[.slice B k b, .slice D p q] 32))
    (sv_row w' [.slice B k b, .slice D p q] 2 32 (0, 0) rfl (by omega)) (fun j u hu => by
      match j with
      | 0 => simp at hu; subst hu; exact ⟨l, rfl, hv.keep ((Keeps.below hb).trans (Keeps.alloc _ _))⟩
      | 1 => simp at hu; subst hu; exact ⟨bytesP x, rfl, h.keep (Keeps.alloc _ _)⟩
      | j + 2 => simp at hu) rfl (by simp; omega)
  simp only [List.flatten_cons, List.flatten_nil, List.append_nil] at CC
  replace CC := Lib.hid CC
  obtain ⟨Al, cl, rfl, _⟩ := id hr
  clear hcl hv hr
  generalize hg : bytesP x = y at *
  clear hg
  unfold pv at CF ⊢
  go_enter Try.func16, Try.ntmps16
  go_wp2_with (refine wpList_load_row rfl _ _ rfl (w.heap.size) rfl _ _ _ _ (Whole.made w _ _) Try.underlying37 rfl (by kernel_rfl) ?_)
  refine (CF.out _ ((Below.refl _ _).alloc (Nat.le_refl _) _)).mono ?_
  rintro e w1 ⟨v1, rfl, o1, b1⟩
  have b1' := ((Below.refl w.heap.size w).alloc (Nat.le_refl _) _).trans (b1.mono (by simp))
  have s1 := o1.sv
  obtain ⟨D, p, q, rfl⟩ : ∃ D p q, v1 = .slice D p q := by obtain ⟨D, q, e, _⟩ := s1; exact ⟨D, _, q, e⟩
  have S1 := Lib.hid s1
  have B1 := Lib.hid b1'
  clear s1 b1' b1 o1
  go_wp2_with fail
  refine (CC.out _ _ _ _ B1.out S1.out).mono ?_
  rintro e w2 ⟨v2, rfl, o2, b2⟩
  have O2 := Lib.hid (o2.low (show w.heap.size ≤ _ by have := B1.out.size; simp; omega))
  have B2 := Lib.hid ((B1.out.alloc B1.out.size _).trans (b2.mono (by have := B1.out.size; simp; omega)))
  clear o2 b2
  go_wp2
  go_ret
  exact ⟨_, rfl, O2.out, B2.out⟩
end Go.Proofs.Ytafmggipmaofnaa
