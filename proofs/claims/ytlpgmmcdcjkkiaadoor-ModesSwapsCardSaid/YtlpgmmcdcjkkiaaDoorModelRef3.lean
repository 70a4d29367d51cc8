/- The reference's Same, SameAnswer, Right, MuchState. -/
import Derived.Test.YtlpgmmcdcjkkiaaDoorModelRef
import Derived.Test.YtlpgmmcdcjkkiaaDoorModelCopy
import Derived.Test.YtlpgmmcdcjkkiaaDoorListFacts
import Derived.Test.YtlpgmmcdcjkkiaaDoorRegionNew
namespace Go.Proofs.YtlpgmmcdcjkkiaaDoor
set_option maxRecDepth 20000
open Go.RowKit Go.Sort

section
variable {P : Program} {ops : Array Oper} {C : World → Prop} {D : List Tmp} {bars : List Nat} {Q : Act → World → Prop} {o : Oper} {i : Nat} {rest : List (Oper × Nat)} {Fr : (Nat → Value) → Act} {kn : Kn}
theorem run_ix9 {t e : TypeId} {b off n c k s : Nat} {kd : IntKind} {j : Int} (ht : P.underlying t = some (.slice e)) (hs : (P.info? e).map (·.size) = some s) (hj : j = k) (hk : k < n) (w : World) :
    (Instr.indexAt t (.slice (some ⟨b, off, none⟩) n c) (.int kd j)).run P w = .ok (.pointer (some ⟨b, off + k * s, none⟩)) w := by
  subst hj
  cases hq : P.info? e with
  | none => simp [hq] at hs
  | some inf =>
    have hs' : inf.size = s := by simpa [hq] using hs
    have h1 : (0 : Int) ≤ k ∧ (k : Int) < n := by omega
    have h2 : (sizeOf e).run P w = .ok s w := by simp [sizeOf, typeInfo, hq, hs']
    simp only [Instr.indexAt, asIntOf, Sem.run_bind, Sem.run_pure, Result.andThen_ok, run_underlying ht, h1, and_self, if_true, h2, Int.toNat_natCast, Addr.add_lit]
theorem f_ix9 (hcl : Cls C) (hw : ∀ V, Region.wanted o (yielded ops (Fr V).tmps) = true) (ty : TypeId) (x y : Operand) (ho : o.op = .indexAddr ty x y) (b off n c : Nat) (hx : ∀ V, (Fr V).eval x = .slice (some ⟨b, off, none⟩) n c) (e : TypeId) (s k : Nat) (kd : IntKind) (j : Int) (hy : ∀ V, (Fr V).eval y = .int kd j)
    (hu : P.underlying ty = some (.slice e)) (hs : (P.info? e).map (·.size) = some s) (hj : j = k) (hk : k < n) (hr : wpF P ops C bars D Q rest (fun V => (Fr V).put o.dst (.pointer (some ⟨b, off + k * s, none⟩))) kn) : wpF P ops C bars D Q ((o, i) :: rest) Fr kn :=
  f_is hcl hw _ (fun V w _ _ => to_run (v := .pointer (some ⟨b, off + k * s, none⟩)) (w' := w) (by
    unfold execOp
    simp only [ho, hx, hy, run_ix9 hu hs hj hk w, Sem.run_bind, Sem.run_pure, Result.andThen_ok]) ⟨rfl, Below.refl _ _⟩) hr
theorem guard_str (op : BinOp) (t : TypeId) (s u : Operand) (a b : ByteArray) (w : World) : (eqGuard op t s u (.string a) (.string b)).run P w = .ok () w := by
  cases op <;> simp [eqGuard]
theorem run_neq_str (t : TypeId) (a b : List UInt8) (w : World) : (binOp .neq t (.string ⟨a.toArray⟩) (.string ⟨b.toArray⟩)).run P w = .ok (.bool (!(a == b))) w := by
  have h : binOp .neq t (.string ⟨a.toArray⟩) (.string ⟨b.toArray⟩) = pure (.bool (!(a == b))) := by simp [binOp, Op.stringOp]
  rw [h]; rfl
end
theorem rsameAnswer9_any (a b : An) (A B : Option Addr) (c d : Nat) (w : World) (hA : SV w (.slice A a.c.d.length c) (bys a.c.d)) (hB : SV w (.slice B b.c.d.length d) (bys b.c.d)) :
    Calls Tryd.prog 32 #[av (.slice A a.c.d.length c) a, av (.slice B b.c.d.length d) b] w fun e w' => e = .returned (.bool (eqA a b)) ∧ Below w.heap.size w w' := by
  have CS := Lib.hid (fun w' (h : Below w.heap.size w w') => rsame5_any _ _ a.c b.c w' (hA.keep (Keeps.below h)) (hB.keep (Keeps.below h)))
  clear hA hB
  unfold av
  unfold cv at CS
  by_cases hk : a.e = b.e
  · have e : eqA a b = sameC a.c b.c := by simp [eqA, hk]
    rw [e]
    rw [hk]
    clear hk e
    go_enter Tryd.func32, Tryd.ntmps32
    go_wp2_with (go_at_call 39; refine (CS.out _ (two_more (Below.refl _ _) _ _)).mono ?_; rintro e w1 ⟨rfl, b1⟩; replace b1 := Lib.hid b1)
    go_ret
    exact ⟨rfl, bthen (two_more (Below.refl _ _) _ _) b1.out⟩
  · have e : eqA a b = false := by simp [eqA, hk]
    rw [e]
    have hk2 : (a.e == b.e) = false := by simpa using hk
    clear CS e
    go_enter Tryd.func32, Tryd.ntmps32
    go_wp2
    go_ret
    exact ⟨rfl, two_more (Below.refl _ _) _ _⟩
theorem PS.atC {w : World} {A : Option Addr} {n c : Nat} {l : List Pr} (h : PS w (.slice A n c) l) {k : Nat} (hk : k < n) : ∃ b off p Ad cd, A = some ⟨b, off, none⟩ ∧ l[k]? = some p ∧ w.cell? ⟨b, off + k * 6, none⟩ = some (.string ⟨p.k.toArray⟩) ∧ w.rangeAt b (off + k * 6 + 1) (ccs p.c (.slice Ad p.c.d.length cd)) ∧ SV w (.slice Ad p.c.d.length cd) (bys p.c.d) := by
  obtain ⟨b, off, p, D, h1, h2, h3, h4⟩ := h.at hk
  obtain ⟨Ad, cd, hD, _⟩ := id h4
  rw [bys_len] at hD
  subst hD
  refine ⟨b, off, p, Ad, cd, h1, h2, h3 0 _ rfl, fun j u hu => ?_, h4⟩
  rw [Nat.add_assoc, Nat.add_comm 1 j]
  exact h3 (j + 1) u (by rw [pcs_cons]; exact hu)
set_option maxHeartbeats 2000000 in
theorem rsame9_any (v u : Value) (s t : List Pr) (w : World) (hv : PS w v s) (hu : PS w u t) :
    Calls Tryd.prog 31 #[v, u] w fun e w' => e = .returned (.bool (eqS s t)) ∧ Below w.heap.size w w' := by
  obtain ⟨A, c, rfl, _⟩ := id hv
  obtain ⟨B, d, rfl, _⟩ := id hu
  have l3 := hv.bd.2
  have m3 := hu.bd.2
  have HV := Lib.hid hv
  have HU := Lib.hid hu
  clear hv hu
  by_cases hlen : s.length = t.length
  · have hne : ((s.length : Int) != (t.length : Int)) = false := by simp [hlen]
    have HL := Lib.hid hlen
    clear hlen
    go_enter Tryd.func31, Tryd.ntmps31
    go_wp2_with (show wpList _ _ _ (Oper.mk _ (.binOp .neq _ (.tmp 7) (.tmp 9) _) _ _ _ _ :: _) _ _; refine wpList_bin rfl .neq 3 _ (.tmp 7) (.tmp 9) rfl _ _ (.bool false) rfl rfl (run_neq_i _ _ _ _ false (hne) _) (guard_neq_i _ _ _ _ _ _ _) ?_)
    go_loopw [5] (fun i wr => ∃ j : Nat, j ≤ s.length ∧ i = .int .i64 j ∧ Hid (eqS s t = eqS (s.drop j) (t.drop j)) ∧ Hid (Below w.heap.size w wr)) (fun i _ => s.length - (intOf i).toNat)
    case atStart => exact ⟨0, by omega, rfl, Lib.hid (by simp), Lib.hid (Below.refl _ _)⟩
    case round =>
      obtain ⟨j, hj, rfl, hE, hB⟩ := hrel
      by_cases hlt : j < s.length
      · obtain ⟨b, off, p, Ad, cd, rfl, hp, c0, c1, hd⟩ := PS.atC (HV.out.keep (Keeps.below hB.out)) hlt
        obtain ⟨b', off', q, Bd, ce, rfl, hq, e0, e1, he⟩ := PS.atC (HU.out.keep (Keeps.below hB.out)) (k := j) (by have := HL.out; omega)
        have hst := Lib.hid (eqS_step s t j p q hp hq)
        have hjt := Lib.hid (show j < t.length by have := HL.out; omega)
        by_cases hk : p.k = q.k
        · have hN := fun w => run_neq_str (P := Tryd.prog) 9 p.k q.k w
          rw [show (!(p.k == q.k)) = false by simp [hk]] at hN
          have hx : eqP p q = sameC p.c q.c := by simp [eqP, hk]
          go_wp2_with fail
          cases hsc : sameC p.c q.c
          all_goals
            have CS := fun w' (hw : Below wr.heap.size wr w') => rsame5_any _ _ p.c q.c w' (hd.keep (Keeps.below hw)) (he.keep (Keeps.below hw))
            rw [hsc] at CS
            unfold cv at CS
            replace CS := Lib.hid CS
            refine wp_region_facts 25 [] [] (by kernel_rfl) (by kernel_rfl) (by kernel_rfl) (free_draw wr) ?_
            simp only [List.take_succ_cons, List.take_zero, List.drop_succ_cons, List.drop_zero, List.zipIdx_cons, List.zipIdx_nil, Nat.zero_add, Nat.reduceAdd]
            repeat (show wpF _ _ _ _ _ _ (_ :: _) _ _; first
              | (refine f_skip (fun V => by rfl) ?_; simp only [Act.put, List.setIfInBounds_toArray, List.set_cons_succ, List.set_cons_zero])
                
                        | (refine f_ix9 (by first | exact cls_free _ | exact cls_row _ _ _ _ | exact cls_fill _ _ _ _ _ | exact cls_butC _ _ | exact cls_butD _ _ _ _ _ _ _) (fun V => by rfl) 30 (.tmp 17) _ rfl _ _ _ _ (fun V => by rfl) 38 6 (j) _ _ (fun V => by rfl) Tryd.underlying30 (by kernel_rfl) (rfl) (hlt) ?_; simp only [Act.put, List.setIfInBounds_toArray, List.set_cons_succ, List.set_cons_zero])
                        | (refine f_ix9 (by first | exact cls_free _ | exact cls_row _ _ _ _ | exact cls_fill _ _ _ _ _ | exact cls_butC _ _ | exact cls_butD _ _ _ _ _ _ _) (fun V => by rfl) 30 (.tmp 22) _ rfl _ _ _ _ (fun V => by rfl) 38 6 (j) _ _ (fun V => by rfl) Tryd.underlying30 (by kernel_rfl) (rfl) (hjt.out) ?_; simp only [Act.put, List.setIfInBounds_toArray, List.set_cons_succ, List.set_cons_zero])
                        | (refine f_ix9 (by first | exact cls_free _ | exact cls_row _ _ _ _ | exact cls_fill _ _ _ _ _ | exact cls_butC _ _ | exact cls_butD _ _ _ _ _ _ _) (fun V => by rfl) 30 (.tmp 29) _ rfl _ _ _ _ (fun V => by rfl) 38 6 (j) _ _ (fun V => by rfl) Tryd.underlying30 (by kernel_rfl) (rfl) (hlt) ?_; simp only [Act.put, List.setIfInBounds_toArray, List.set_cons_succ, List.set_cons_zero])
                        | (refine f_ix9 (by first | exact cls_free _ | exact cls_row _ _ _ _ | exact cls_fill _ _ _ _ _ | exact cls_butC _ _ | exact cls_butD _ _ _ _ _ _ _) (fun V => by rfl) 30 (.tmp 34) _ rfl _ _ _ _ (fun V => by rfl) 38 6 (j) _ _ (fun V => by rfl) Tryd.underlying30 (by kernel_rfl) (rfl) (hjt.out) ?_; simp only [Act.put, List.setIfInBounds_toArray, List.set_cons_succ, List.set_cons_zero])
                        | (refine f_load_cell (by first | exact cls_free _ | exact cls_row _ _ _ _ | exact cls_fill _ _ _ _ _ | exact cls_butC _ _ | exact cls_butD _ _ _ _ _ _ _) (fun V => by rfl) _ _ rfl _ (fun V => by rfl) _ (fun w hb => (Keeps.below hb) _ _ c0) _ Tryd.underlying9 rfl ?_; simp only [Act.put, List.setIfInBounds_toArray, List.set_cons_succ, List.set_cons_zero])
                        | (refine f_load_cell (by first | exact cls_free _ | exact cls_row _ _ _ _ | exact cls_fill _ _ _ _ _ | exact cls_butC _ _ | exact cls_butD _ _ _ _ _ _ _) (fun V => by rfl) _ _ rfl _ (fun V => by rfl) _ (fun w hb => (Keeps.below hb) _ _ e0) _ Tryd.underlying9 rfl ?_; simp only [Act.put, List.setIfInBounds_toArray, List.set_cons_succ, List.set_cons_zero])
                        | (refine f_load_mid (by first | exact cls_free _ | exact cls_row _ _ _ _ | exact cls_fill _ _ _ _ _ | exact cls_butC _ _ | exact cls_butD _ _ _ _ _ _ _) (fun V => by rfl) 36 _ rfl _ _ (fun V => by rfl) (ccs p.c (.slice Ad p.c.d.length cd)) _ (fun w hb => rangeAt_keep c1 (Keeps.below hb)) Tryd.underlying36 rfl (by kernel_rfl) ?_; simp only [Act.put, List.setIfInBounds_toArray, List.set_cons_succ, List.set_cons_zero])
                        | (refine f_load_mid (by first | exact cls_free _ | exact cls_row _ _ _ _ | exact cls_fill _ _ _ _ _ | exact cls_butC _ _ | exact cls_butD _ _ _ _ _ _ _) (fun V => by rfl) 36 _ rfl _ _ (fun V => by rfl) (ccs q.c (.slice Bd q.c.d.length ce)) _ (fun w hb => rangeAt_keep e1 (Keeps.below hb)) Tryd.underlying36 rfl (by kernel_rfl) ?_; simp only [Act.put, List.setIfInBounds_toArray, List.set_cons_succ, List.set_cons_zero])
                        | (refine f_binop (by first | exact cls_free _ | exact cls_row _ _ _ _ | exact cls_fill _ _ _ _ _ | exact cls_butC _ _ | exact cls_butD _ _ _ _ _ _ _) (fun V => by rfl) _ _ _ _ _ rfl _ _ _ (hN) (fun w => guard_str _ _ _ _ _ _ w) (fun V => by rfl) (fun V => by rfl) ?_; simp only [Act.put, List.setIfInBounds_toArray, List.set_cons_succ, List.set_cons_zero])
                        | (refine f_call (by first | exact cls_free _ | exact cls_row _ _ _ _ | exact cls_fill _ _ _ _ _ | exact cls_butC _ _ | exact cls_butD _ _ _ _ _ _ _) (fun V => by rfl) 39 _ _ rfl (enters_of Tryd.func39 rfl rfl) _ _ (fun V w hb hk => CS.out w hb) (fun V => by rfl) ?_; simp only [Act.put, List.setIfInBounds_toArray, List.set_cons_succ, List.set_cons_zero])
              | (refine f_quiet (by first | exact cls_free _ | exact cls_row _ _ _ _ | exact cls_fill _ _ _ _ _ | exact cls_butC _ _ | exact cls_butD _ _ _ _ _ _ _) (fun V => by rfl) (fun V => ⟨_, rfl, by simp⟩) ?_; apply Exists.intro; refine And.intro (fun V w hw K hK => ?_) ?_; ((try simp only [Act.put, List.setIfInBounds_toArray, List.set_cons_succ, List.set_cons_zero] at hK); go_big_quiet_op; exact hK); simp only [Act.put, List.setIfInBounds_toArray, List.set_cons_succ, List.set_cons_zero]))
            refine f_nil ?_
            intro V w' hq2 hkn
            clear hkn
            have B1 := Lib.hid (hB.out.trans (hq2.mono hB.out.size))
            clear hq2
            go_wp2
          · go_ret
            exact ⟨by rw [hE.out, hst.out, hx, hsc, Bool.false_and]; rfl, B1.out⟩
          · go_roundw
            case rel => exact ⟨j + 1, by omega, by go_num, Lib.hid (by rw [hE.out, hst.out, hx, hsc, Bool.true_and]), B1⟩
            case measure => simp [intOf]; omega
        · have hN := fun w => run_neq_str (P := Tryd.prog) 9 p.k q.k w
          rw [show (!(p.k == q.k)) = true by simp [hk]] at hN
          have hx : eqP p q = false := by simp [eqP, hk]
          go_wp2_with fail
          refine wp_region_facts 25 [] [] (by kernel_rfl) (by kernel_rfl) (by kernel_rfl) (free_draw wr) ?_
          simp only [List.take_succ_cons, List.take_zero, List.drop_succ_cons, List.drop_zero, List.zipIdx_cons, List.zipIdx_nil, Nat.zero_add, Nat.reduceAdd]
          repeat (show wpF _ _ _ _ _ _ (_ :: _) _ _; first
            | (refine f_skip (fun V => by rfl) ?_; simp only [Act.put, List.setIfInBounds_toArray, List.set_cons_succ, List.set_cons_zero])
              
                    | (refine f_ix9 (by first | exact cls_free _ | exact cls_row _ _ _ _ | exact cls_fill _ _ _ _ _ | exact cls_butC _ _ | exact cls_butD _ _ _ _ _ _ _) (fun V => by rfl) 30 (.tmp 17) _ rfl _ _ _ _ (fun V => by rfl) 38 6 (j) _ _ (fun V => by rfl) Tryd.underlying30 (by kernel_rfl) (rfl) (hlt) ?_; simp only [Act.put, List.setIfInBounds_toArray, List.set_cons_succ, List.set_cons_zero])
                    | (refine f_ix9 (by first | exact cls_free _ | exact cls_row _ _ _ _ | exact cls_fill _ _ _ _ _ | exact cls_butC _ _ | exact cls_butD _ _ _ _ _ _ _) (fun V => by rfl) 30 (.tmp 22) _ rfl _ _ _ _ (fun V => by rfl) 38 6 (j) _ _ (fun V => by rfl) Tryd.underlying30 (by kernel_rfl) (rfl) (hjt.out) ?_; simp only [Act.put, List.setIfInBounds_toArray, List.set_cons_succ, List.set_cons_zero])
                    | (refine f_load_cell (by first | exact cls_free _ | exact cls_row _ _ _ _ | exact cls_fill _ _ _ _ _ | exact cls_butC _ _ | exact cls_butD _ _ _ _ _ _ _) (fun V => by rfl) _ _ rfl _ (fun V => by rfl) _ (fun w hb => (Keeps.below hb) _ _ c0) _ Tryd.underlying9 rfl ?_; simp only [Act.put, List.setIfInBounds_toArray, List.set_cons_succ, List.set_cons_zero])
                    | (refine f_load_cell (by first | exact cls_free _ | exact cls_row _ _ _ _ | exact cls_fill _ _ _ _ _ | exact cls_butC _ _ | exact cls_butD _ _ _ _ _ _ _) (fun V => by rfl) _ _ rfl _ (fun V => by rfl) _ (fun w hb => (Keeps.below hb) _ _ e0) _ Tryd.underlying9 rfl ?_; simp only [Act.put, List.setIfInBounds_toArray, List.set_cons_succ, List.set_cons_zero])
                    | (refine f_binop (by first | exact cls_free _ | exact cls_row _ _ _ _ | exact cls_fill _ _ _ _ _ | exact cls_butC _ _ | exact cls_butD _ _ _ _ _ _ _) (fun V => by rfl) _ _ _ _ _ rfl _ _ _ (hN) (fun w => guard_str _ _ _ _ _ _ w) (fun V => by rfl) (fun V => by rfl) ?_; simp only [Act.put, List.setIfInBounds_toArray, List.set_cons_succ, List.set_cons_zero])
            | (refine f_quiet (by first | exact cls_free _ | exact cls_row _ _ _ _ | exact cls_fill _ _ _ _ _ | exact cls_butC _ _ | exact cls_butD _ _ _ _ _ _ _) (fun V => by rfl) (fun V => ⟨_, rfl, by simp⟩) ?_; apply Exists.intro; refine And.intro (fun V w hw K hK => ?_) ?_; ((try simp only [Act.put, List.setIfInBounds_toArray, List.set_cons_succ, List.set_cons_zero] at hK); go_big_quiet_op; exact hK); simp only [Act.put, List.setIfInBounds_toArray, List.set_cons_succ, List.set_cons_zero]))
          refine f_nil ?_
          intro V w' hq2 hkn
          clear hkn
          have B1 := Lib.hid (hB.out.trans (hq2.mono hB.out.size))
          clear hq2
          go_wp2
          go_ret
          exact ⟨by rw [hE.out, hst.out, hx, Bool.false_and]; rfl, B1.out⟩
      · obtain rfl : j = s.length := by omega
        have hy : eqS s t = true := by rw [hE.out, List.drop_length, HL.out, List.drop_length]; rfl
        replace hy := Lib.hid hy
        go_wp2
        go_ret
        exact ⟨by rw [hy.out]; rfl, hB.out⟩
  · have hne : ((s.length : Int) != (t.length : Int)) = true := by simp; omega
    rw [eqS_len s t hlen]
    clear hlen
    go_enter Tryd.func31, Tryd.ntmps31
    go_wp2_with (show wpList _ _ _ (Oper.mk _ (.binOp .neq _ (.tmp 7) (.tmp 9) _) _ _ _ _ :: _) _ _; refine wpList_bin rfl .neq 3 _ (.tmp 7) (.tmp 9) rfl _ _ (.bool true) rfl rfl (run_neq_i _ _ _ _ true (hne) _) (guard_neq_i _ _ _ _ _ _ _) ?_)
    go_ret
    exact ⟨rfl, Below.refl _ _⟩
def Muched (l : List Pr) (w : World) (e : Ending) (w' : World) : Prop := ∃ g, e = .returned (.bool g) ∧ (g = false → l.length ≤ 60 ∧ ∀ p ∈ l, p.k.length ≤ 300 ∧ p.c.d.length ≤ 300) ∧ Below w.heap.size w w'
set_option maxHeartbeats 1000000 in
/-- Where it says no, the pairs are few and short. -/
theorem muchState_any (v : Value) (l : List Pr) (w : World) (hv : PS w v l) (hl : ∀ p ∈ l, p.c.d.length ≤ 9223372036854775807 ∧ p.k.length ≤ 9223372036854775807) :
    Calls Tryd.prog 14 #[v] w (Muched l w) := by
  obtain ⟨A, c, rfl, _⟩ := id hv
  have l3 := hv.bd.2
  have HV := Lib.hid hv
  clear hv
  go_enter Tryd.func14, Tryd.ntmps14
  go_wp2
  go_loopw [3] (fun i wr => ∃ k : Nat, k ≤ l.length ∧ k ≤ 100 ∧ i = .int .i64 k ∧ (∀ j p, j < k → l[j]? = some p → p.k.length ≤ 300 ∧ p.c.d.length ≤ 300) ∧ wr = w) (fun i _ => l.length - (intOf i).toNat)
  case atStart => exact ⟨0, by omega, by omega, rfl, fun j r h => by omega, rfl⟩
  case round =>
    obtain ⟨k, hk, hk1, rfl, htk, rfl⟩ := hrel
    by_cases hlt : k < l.length
    · by_cases h100 : k < 100
      · obtain ⟨b, off, p, Ad, cd, rfl, hp, c0, c1, c2, c3, c4, c5, hd⟩ := PS.at6 HV.out hlt
        obtain ⟨hl1, hl2⟩ := hl p (List.mem_of_getElem? hp)
        clear hd
        have hks : (⟨p.k.toArray⟩ : ByteArray).size = p.k.length := rfl
        by_cases h6 : 300 < p.k.length
        · go_wp2
          go_ret
          exact ⟨true, rfl, (fun h => (by cases h)), Below.refl _ _⟩
        · by_cases h7 : 300 < p.c.d.length
          · go_wp2
            go_ret
            exact ⟨true, rfl, (fun h => (by cases h)), Below.refl _ _⟩
          · go_wp2
            go_roundw
            case rel => exact ⟨k + 1, by omega, by omega, by go_num, fun j q hj hq => by
              rcases Nat.lt_or_ge j k with h | h
              · exact htk j q h hq
              · have : j = k := by omega
                subst this
                rw [hp] at hq
                injection hq with hq
                subst hq
                omega, by trivial⟩
            case measure => simp [intOf]; omega
      · have h60 : 60 < l.length := by omega
        go_wp2
        go_ret
        exact ⟨_, rfl, (fun h => (by have := of_decide_eq_false h; omega)), Below.refl _ _⟩
    · obtain rfl : k = l.length := by omega
      have hall : ∀ r ∈ l, r.k.length ≤ 300 ∧ r.c.d.length ≤ 300 := fun r hr => by
        obtain ⟨j, hj, rfl⟩ := List.getElem_of_mem hr
        exact htk j _ hj (List.getElem?_eq_getElem hj)
      go_wp2
      go_ret
      exact ⟨_, rfl, (fun h => ⟨(by have := of_decide_eq_false h; omega), hall⟩), Below.refl _ _⟩
/-- The key ahead of a place. -/
def prevK (l : List Pr) : Nat → List UInt8
  | 0 => []
  | j + 1 => ((l[j]?).map (·.k)).getD []
theorem run_gtr_i {P : Program} (t : TypeId) (k : IntKind) (i j : Int) (b : Bool) (h : decide (j < i) = b) (w : World) : (binOp .gtr t (.int k i) (.int k j)).run P w = .ok (.bool b) w := by
  subst h
  simp [binOp, Op.intCmp]
theorem guard_gtr {P : Program} (t : TypeId) (s u : Operand) (x y : Value) (w : World) : (eqGuard .gtr t s u x y).run P w = .ok () w := by
  simp [eqGuard]
set_option maxHeartbeats 4000000 in
theorem rright9_any (v : Value) (l : List Pr) (w : World) (hv : PS w v l) (hl : Small l) :
    Calls Tryd.prog 15 #[v] w fun e w' => e = .returned (.bool (rightM l)) ∧ Below w.heap.size w w' := by
  obtain ⟨A, c, rfl, _⟩ := id hv
  have l3 := hv.bd.2
  have HV := Lib.hid hv
  have HS := Lib.hid hl
  clear hv hl
  go_enter Tryd.func15, Tryd.ntmps15
  go_wp2
  go_loopw [3] (fun i wr => ∃ j : Nat, j ≤ l.length ∧ i = .int .i64 j ∧ Hid (rightM l = rightFrom (prevK l j) (l.drop j)) ∧ Hid (Below w.heap.size w wr)) (fun i _ => l.length - (intOf i).toNat)
  case atStart => exact ⟨0, by omega, rfl, Lib.hid (by rw [List.drop_zero]; rfl), Lib.hid (Below.refl _ _)⟩
  case round =>
    obtain ⟨j, hj, rfl, hE, hB⟩ := hrel
    by_cases hlt : j < l.length
    · obtain ⟨b, off, p, Ad, cd, rfl, hp, c0, c1, hd⟩ := PS.atC (HV.out.keep (Keeps.below hB.out)) hlt
      have hsm := HS.out p (List.mem_of_getElem? hp)
      have hdr : l.drop j = p :: l.drop (j + 1) := by
        obtain ⟨h1, rfl⟩ := List.getElem?_eq_some_iff.1 hp
        exact List.drop_eq_getElem_cons h1
      have hst : rightFrom (prevK l j) (l.drop j) = (decide (prevK l j < p.k) && (okP p && rightFrom p.k (l.drop (j + 1)))) := by rw [hdr, rightFrom]
      have hnx : prevK l (j + 1) = p.k := by simp [prevK, hp]
      have CK := fun w => right_any ⟨p.k.toArray⟩ w (by show p.k.toArray.size ≤ _; simp; omega)
      have CC := fun w => right5_any Ad p.c.d.length cd p.c w rfl (by omega)
      rw [show (⟨p.k.toArray⟩ : ByteArray).data.toList = p.k from rfl] at CK
      unfold cv at CC
      replace hst := Lib.hid hst
      replace hnx := Lib.hid hnx
      clear hd hdr hsm
      cases hk : isKey p.k with
      | false =>
        have e := Lib.hid (show rightM l = false by rw [hE.out, hst.out]; simp [okP, hk])
        rw [hk] at CK
        replace CK := Lib.hid CK
        clear CC hk hp
        go_wp2_with fail
        refine wp_region_facts 34 [] [] (by kernel_rfl) (by kernel_rfl) (by kernel_rfl) (free_draw wr) ?_
        simp only [List.take_succ_cons, List.take_zero, List.drop_succ_cons, List.drop_zero, List.zipIdx_cons, List.zipIdx_nil, Nat.zero_add, Nat.reduceAdd]
        repeat (show wpF _ _ _ _ _ _ (_ :: _) _ _; first
          | (refine f_skip (fun V => by rfl) ?_; simp only [Act.put, List.setIfInBounds_toArray, List.set_cons_succ, List.set_cons_zero])
            
                | (refine f_ix9 (by first | exact cls_free _ | exact cls_row _ _ _ _ | exact cls_fill _ _ _ _ _ | exact cls_butC _ _ | exact cls_butD _ _ _ _ _ _ _) (fun V => by rfl) 30 (.tmp 10) _ rfl _ _ _ _ (fun V => by rfl) 38 6 (j) _ _ (fun V => by rfl) Tryd.underlying30 (by kernel_rfl) (rfl) (hlt) ?_; simp only [Act.put, List.setIfInBounds_toArray, List.set_cons_succ, List.set_cons_zero])
                | (refine f_load_cell (by first | exact cls_free _ | exact cls_row _ _ _ _ | exact cls_fill _ _ _ _ _ | exact cls_butC _ _ | exact cls_butD _ _ _ _ _ _ _) (fun V => by rfl) _ _ rfl _ (fun V => by rfl) _ (fun w hb => (Keeps.below hb) _ _ c0) _ Tryd.underlying9 rfl ?_; simp only [Act.put, List.setIfInBounds_toArray, List.set_cons_succ, List.set_cons_zero])
                | (refine f_call (by first | exact cls_free _ | exact cls_row _ _ _ _ | exact cls_fill _ _ _ _ _ | exact cls_butC _ _ | exact cls_butD _ _ _ _ _ _ _) (fun V => by rfl) 25 _ _ rfl (enters_of Tryd.func25 rfl rfl) _ _ (fun V w hb hk => (CK.out w).mono fun e w1 ⟨h1, h2⟩ => ⟨h1, h2 ▸ Below.refl _ _⟩) (fun V => by rfl) ?_; simp only [Act.put, List.setIfInBounds_toArray, List.set_cons_succ, List.set_cons_zero])
          | (refine f_quiet (by first | exact cls_free _ | exact cls_row _ _ _ _ | exact cls_fill _ _ _ _ _ | exact cls_butC _ _ | exact cls_butD _ _ _ _ _ _ _) (fun V => by rfl) (fun V => ⟨_, rfl, by simp⟩) ?_; apply Exists.intro; refine And.intro (fun V w hw K hK => ?_) ?_; ((try simp only [Act.put, List.setIfInBounds_toArray, List.set_cons_succ, List.set_cons_zero] at hK); go_big_quiet_op; exact hK); simp only [Act.put, List.setIfInBounds_toArray, List.set_cons_succ, List.set_cons_zero]))
        refine f_nil ?_
        intro V w' hq2 hkn
        clear hkn
        have B1 := Lib.hid (hB.out.trans (hq2.mono hB.out.size))
        clear hq2
        go_wp2
        go_ret
        exact ⟨by rw [e.out]; rfl, B1.out⟩
      | true =>
        rw [hk] at CK
        replace CK := Lib.hid CK
        cases hg : good p.c with
        | false =>
          have e := Lib.hid (show rightM l = false by rw [hE.out, hst.out]; simp [okP, hg])
          rw [hg] at CC
          replace CC := Lib.hid CC
          clear hk hg hp
          go_wp2_with fail
          refine wp_region_facts 34 [] [] (by kernel_rfl) (by kernel_rfl) (by kernel_rfl) (free_draw wr) ?_
          simp only [List.take_succ_cons, List.take_zero, List.drop_succ_cons, List.drop_zero, List.zipIdx_cons, List.zipIdx_nil, Nat.zero_add, Nat.reduceAdd]
          repeat (show wpF _ _ _ _ _ _ (_ :: _) _ _; first
            | (refine f_skip (fun V => by rfl) ?_; simp only [Act.put, List.setIfInBounds_toArray, List.set_cons_succ, List.set_cons_zero])
              
                    | (refine f_ix9 (by first | exact cls_free _ | exact cls_row _ _ _ _ | exact cls_fill _ _ _ _ _ | exact cls_butC _ _ | exact cls_butD _ _ _ _ _ _ _) (fun V => by rfl) 30 (.tmp 10) _ rfl _ _ _ _ (fun V => by rfl) 38 6 (j) _ _ (fun V => by rfl) Tryd.underlying30 (by kernel_rfl) (rfl) (hlt) ?_; simp only [Act.put, List.setIfInBounds_toArray, List.set_cons_succ, List.set_cons_zero])
                    | (refine f_ix9 (by first | exact cls_free _ | exact cls_row _ _ _ _ | exact cls_fill _ _ _ _ _ | exact cls_butC _ _ | exact cls_butD _ _ _ _ _ _ _) (fun V => by rfl) 30 (.tmp 18) _ rfl _ _ _ _ (fun V => by rfl) 38 6 (j) _ _ (fun V => by rfl) Tryd.underlying30 (by kernel_rfl) (rfl) (hlt) ?_; simp only [Act.put, List.setIfInBounds_toArray, List.set_cons_succ, List.set_cons_zero])
                    | (refine f_load_cell (by first | exact cls_free _ | exact cls_row _ _ _ _ | exact cls_fill _ _ _ _ _ | exact cls_butC _ _ | exact cls_butD _ _ _ _ _ _ _) (fun V => by rfl) _ _ rfl _ (fun V => by rfl) _ (fun w hb => (Keeps.below hb) _ _ c0) _ Tryd.underlying9 rfl ?_; simp only [Act.put, List.setIfInBounds_toArray, List.set_cons_succ, List.set_cons_zero])
                    | (refine f_load_mid (by first | exact cls_free _ | exact cls_row _ _ _ _ | exact cls_fill _ _ _ _ _ | exact cls_butC _ _ | exact cls_butD _ _ _ _ _ _ _) (fun V => by rfl) 36 _ rfl _ _ (fun V => by rfl) (ccs p.c (.slice Ad p.c.d.length cd)) _ (fun w hb => rangeAt_keep c1 (Keeps.below hb)) Tryd.underlying36 rfl (by kernel_rfl) ?_; simp only [Act.put, List.setIfInBounds_toArray, List.set_cons_succ, List.set_cons_zero])
                    | (refine f_call (by first | exact cls_free _ | exact cls_row _ _ _ _ | exact cls_fill _ _ _ _ _ | exact cls_butC _ _ | exact cls_butD _ _ _ _ _ _ _) (fun V => by rfl) 25 _ _ rfl (enters_of Tryd.func25 rfl rfl) _ _ (fun V w hb hk => (CK.out w).mono fun e w1 ⟨h1, h2⟩ => ⟨h1, h2 ▸ Below.refl _ _⟩) (fun V => by rfl) ?_; simp only [Act.put, List.setIfInBounds_toArray, List.set_cons_succ, List.set_cons_zero])
                    | (refine f_call (by first | exact cls_free _ | exact cls_row _ _ _ _ | exact cls_fill _ _ _ _ _ | exact cls_butC _ _ | exact cls_butD _ _ _ _ _ _ _) (fun V => by rfl) 26 _ _ rfl (enters_of Tryd.func26 rfl rfl) _ _ (fun V w hb hk => CC.out w) (fun V => by rfl) ?_; simp only [Act.put, List.setIfInBounds_toArray, List.set_cons_succ, List.set_cons_zero])
            | (refine f_quiet (by first | exact cls_free _ | exact cls_row _ _ _ _ | exact cls_fill _ _ _ _ _ | exact cls_butC _ _ | exact cls_butD _ _ _ _ _ _ _) (fun V => by rfl) (fun V => ⟨_, rfl, by simp⟩) ?_; apply Exists.intro; refine And.intro (fun V w hw K hK => ?_) ?_; ((try simp only [Act.put, List.setIfInBounds_toArray, List.set_cons_succ, List.set_cons_zero] at hK); go_big_quiet_op; exact hK); simp only [Act.put, List.setIfInBounds_toArray, List.set_cons_succ, List.set_cons_zero]))
          refine f_nil ?_
          intro V w' hq2 hkn
          clear hkn
          have B1 := Lib.hid (hB.out.trans (hq2.mono hB.out.size))
          clear hq2
          go_wp2
          go_ret
          exact ⟨by rw [e.out]; rfl, B1.out⟩
        | true =>
          rw [hg] at CC
          replace CC := Lib.hid CC
          have hok : okP p = true := by simp [okP, hk, hg]
          have hne := key_ne hk
          clear hk hg
          cases j with
          | zero =>
            have e := Lib.hid (show rightM l = rightFrom (prevK l 1) (l.drop 1) by rw [hE.out, hst.out, hok, Bool.true_and, hnx.out, decide_eq_true (show prevK l 0 < p.k from hne), Bool.true_and])
            have hG := fun w => run_gtr_i (P := Tryd.prog) 3 .i64 0 0 false rfl w
            clear hok hne hp
            go_wp2_with fail
            refine wp_region_facts 34 [] [] (by kernel_rfl) (by kernel_rfl) (by kernel_rfl) (free_draw wr) ?_
            simp only [List.take_succ_cons, List.take_zero, List.drop_succ_cons, List.drop_zero, List.zipIdx_cons, List.zipIdx_nil, Nat.zero_add, Nat.reduceAdd]
            repeat (show wpF _ _ _ _ _ _ (_ :: _) _ _; first
              | (refine f_skip (fun V => by rfl) ?_; simp only [Act.put, List.setIfInBounds_toArray, List.set_cons_succ, List.set_cons_zero])
                
                        | (refine f_ix9 (by first | exact cls_free _ | exact cls_row _ _ _ _ | exact cls_fill _ _ _ _ _ | exact cls_butC _ _ | exact cls_butD _ _ _ _ _ _ _) (fun V => by rfl) 30 (.tmp 10) _ rfl _ _ _ _ (fun V => by rfl) 38 6 (0) _ _ (fun V => by rfl) Tryd.underlying30 (by kernel_rfl) (rfl) (hlt) ?_; simp only [Act.put, List.setIfInBounds_toArray, List.set_cons_succ, List.set_cons_zero])
                        | (refine f_ix9 (by first | exact cls_free _ | exact cls_row _ _ _ _ | exact cls_fill _ _ _ _ _ | exact cls_butC _ _ | exact cls_butD _ _ _ _ _ _ _) (fun V => by rfl) 30 (.tmp 18) _ rfl _ _ _ _ (fun V => by rfl) 38 6 (0) _ _ (fun V => by rfl) Tryd.underlying30 (by kernel_rfl) (rfl) (hlt) ?_; simp only [Act.put, List.setIfInBounds_toArray, List.set_cons_succ, List.set_cons_zero])
                        | (refine f_load_cell (by first | exact cls_free _ | exact cls_row _ _ _ _ | exact cls_fill _ _ _ _ _ | exact cls_butC _ _ | exact cls_butD _ _ _ _ _ _ _) (fun V => by rfl) _ _ rfl _ (fun V => by rfl) _ (fun w hb => (Keeps.below hb) _ _ c0) _ Tryd.underlying9 rfl ?_; simp only [Act.put, List.setIfInBounds_toArray, List.set_cons_succ, List.set_cons_zero])
                        | (refine f_load_mid (by first | exact cls_free _ | exact cls_row _ _ _ _ | exact cls_fill _ _ _ _ _ | exact cls_butC _ _ | exact cls_butD _ _ _ _ _ _ _) (fun V => by rfl) 36 _ rfl _ _ (fun V => by rfl) (ccs p.c (.slice Ad p.c.d.length cd)) _ (fun w hb => rangeAt_keep c1 (Keeps.below hb)) Tryd.underlying36 rfl (by kernel_rfl) ?_; simp only [Act.put, List.setIfInBounds_toArray, List.set_cons_succ, List.set_cons_zero])
                        | (refine f_binop (by first | exact cls_free _ | exact cls_row _ _ _ _ | exact cls_fill _ _ _ _ _ | exact cls_butC _ _ | exact cls_butD _ _ _ _ _ _ _) (fun V => by rfl) _ _ _ _ _ rfl _ _ _ (hG) (fun w => guard_gtr _ _ _ _ _ w) (fun V => by rfl) (fun V => by rfl) ?_; simp only [Act.put, List.setIfInBounds_toArray, List.set_cons_succ, List.set_cons_zero])
                        | (refine f_call (by first | exact cls_free _ | exact cls_row _ _ _ _ | exact cls_fill _ _ _ _ _ | exact cls_butC _ _ | exact cls_butD _ _ _ _ _ _ _) (fun V => by rfl) 25 _ _ rfl (enters_of Tryd.func25 rfl rfl) _ _ (fun V w hb hk => (CK.out w).mono fun e w1 ⟨h1, h2⟩ => ⟨h1, h2 ▸ Below.refl _ _⟩) (fun V => by rfl) ?_; simp only [Act.put, List.setIfInBounds_toArray, List.set_cons_succ, List.set_cons_zero])
                        | (refine f_call (by first | exact cls_free _ | exact cls_row _ _ _ _ | exact cls_fill _ _ _ _ _ | exact cls_butC _ _ | exact cls_butD _ _ _ _ _ _ _) (fun V => by rfl) 26 _ _ rfl (enters_of Tryd.func26 rfl rfl) _ _ (fun V w hb hk => CC.out w) (fun V => by rfl) ?_; simp only [Act.put, List.setIfInBounds_toArray, List.set_cons_succ, List.set_cons_zero])
              | (refine f_quiet (by first | exact cls_free _ | exact cls_row _ _ _ _ | exact cls_fill _ _ _ _ _ | exact cls_butC _ _ | exact cls_butD _ _ _ _ _ _ _) (fun V => by rfl) (fun V => ⟨_, rfl, by simp⟩) ?_; apply Exists.intro; refine And.intro (fun V w hw K hK => ?_) ?_; ((try simp only [Act.put, List.setIfInBounds_toArray, List.set_cons_succ, List.set_cons_zero] at hK); go_big_quiet_op; exact hK); simp only [Act.put, List.setIfInBounds_toArray, List.set_cons_succ, List.set_cons_zero]))
            refine f_nil ?_
            intro V w' hq2 hkn
            clear hkn
            have B1 := Lib.hid (hB.out.trans (hq2.mono hB.out.size))
            clear hq2
            go_wp2
            go_roundw
            case rel => exact ⟨1, by omega, by go_num, e, B1⟩
            case measure => simp [intOf]; omega
          | succ m =>
            obtain ⟨b2, off2, q, Aq, cq, he2, hq, d0, d1, hdq⟩ := PS.atC (HV.out.keep (Keeps.below hB.out)) (k := m) (by omega)
            injection he2 with he2
            injection he2 with he3 he4
            subst he3 he4
            clear hdq d1
            have hpk : prevK l (m + 1) = q.k := by simp [prevK, hq]
            have hG := fun w => run_gtr_i (P := Tryd.prog) 3 .i64 ((m : Int) + 1) 0 true (decide_eq_true (by omega)) w
            have hLE := fun w => run_leq_str (P := Tryd.prog) 9 p.k q.k w
            have hst2 := hst.out
            rw [hpk, hok, Bool.true_and] at hst2
            by_cases hlk : q.k < p.k
            · rw [decide_eq_false (fun h => h hlk)] at hLE
              have e := Lib.hid (show rightM l = rightFrom (prevK l (m + 1 + 1)) (l.drop (m + 1 + 1)) by rw [hE.out, hpk, hst2, decide_eq_true hlk, Bool.true_and, hnx.out])
              clear hok hne hp hq hpk hst2 hlk
              go_wp2_with fail
              refine wp_region_facts 34 [] [] (by kernel_rfl) (by kernel_rfl) (by kernel_rfl) (free_draw wr) ?_
              simp only [List.take_succ_cons, List.take_zero, List.drop_succ_cons, List.drop_zero, List.zipIdx_cons, List.zipIdx_nil, Nat.zero_add, Nat.reduceAdd]
              repeat (show wpF _ _ _ _ _ _ (_ :: _) _ _; first
                | (refine f_skip (fun V => by rfl) ?_; simp only [Act.put, List.setIfInBounds_toArray, List.set_cons_succ, List.set_cons_zero])
                  
                            | (refine f_ix9 (by first | exact cls_free _ | exact cls_row _ _ _ _ | exact cls_fill _ _ _ _ _ | exact cls_butC _ _ | exact cls_butD _ _ _ _ _ _ _) (fun V => by rfl) 30 (.tmp 10) _ rfl _ _ _ _ (fun V => by rfl) 38 6 (m + 1) _ _ (fun V => by rfl) Tryd.underlying30 (by kernel_rfl) (by omega) (hlt) ?_; simp only [Act.put, List.setIfInBounds_toArray, List.set_cons_succ, List.set_cons_zero])
                            | (refine f_ix9 (by first | exact cls_free _ | exact cls_row _ _ _ _ | exact cls_fill _ _ _ _ _ | exact cls_butC _ _ | exact cls_butD _ _ _ _ _ _ _) (fun V => by rfl) 30 (.tmp 18) _ rfl _ _ _ _ (fun V => by rfl) 38 6 (m + 1) _ _ (fun V => by rfl) Tryd.underlying30 (by kernel_rfl) (by omega) (hlt) ?_; simp only [Act.put, List.setIfInBounds_toArray, List.set_cons_succ, List.set_cons_zero])
                            | (refine f_ix9 (by first | exact cls_free _ | exact cls_row _ _ _ _ | exact cls_fill _ _ _ _ _ | exact cls_butC _ _ | exact cls_butD _ _ _ _ _ _ _) (fun V => by rfl) 30 (.tmp 30) _ rfl _ _ _ _ (fun V => by rfl) 38 6 (m + 1) _ _ (fun V => by rfl) Tryd.underlying30 (by kernel_rfl) (by omega) (hlt) ?_; simp only [Act.put, List.setIfInBounds_toArray, List.set_cons_succ, List.set_cons_zero])
                            | (refine f_ix9 (by first | exact cls_free _ | exact cls_row _ _ _ _ | exact cls_fill _ _ _ _ _ | exact cls_butC _ _ | exact cls_butD _ _ _ _ _ _ _) (fun V => by rfl) 30 (.tmp 35) _ rfl _ _ _ _ (fun V => by rfl) 38 6 (m) _ _ (fun V => by rfl) Tryd.underlying30 (by kernel_rfl) (by omega) (by omega) ?_; simp only [Act.put, List.setIfInBounds_toArray, List.set_cons_succ, List.set_cons_zero])
                            | (refine f_load_cell (by first | exact cls_free _ | exact cls_row _ _ _ _ | exact cls_fill _ _ _ _ _ | exact cls_butC _ _ | exact cls_butD _ _ _ _ _ _ _) (fun V => by rfl) _ _ rfl _ (fun V => by rfl) _ (fun w hb => (Keeps.below hb) _ _ c0) _ Tryd.underlying9 rfl ?_; simp only [Act.put, List.setIfInBounds_toArray, List.set_cons_succ, List.set_cons_zero])
                            | (refine f_load_cell (by first | exact cls_free _ | exact cls_row _ _ _ _ | exact cls_fill _ _ _ _ _ | exact cls_butC _ _ | exact cls_butD _ _ _ _ _ _ _) (fun V => by rfl) _ _ rfl _ (fun V => by rfl) _ (fun w hb => (Keeps.below hb) _ _ d0) _ Tryd.underlying9 rfl ?_; simp only [Act.put, List.setIfInBounds_toArray, List.set_cons_succ, List.set_cons_zero])
                            | (refine f_load_mid (by first | exact cls_free _ | exact cls_row _ _ _ _ | exact cls_fill _ _ _ _ _ | exact cls_butC _ _ | exact cls_butD _ _ _ _ _ _ _) (fun V => by rfl) 36 _ rfl _ _ (fun V => by rfl) (ccs p.c (.slice Ad p.c.d.length cd)) _ (fun w hb => rangeAt_keep c1 (Keeps.below hb)) Tryd.underlying36 rfl (by kernel_rfl) ?_; simp only [Act.put, List.setIfInBounds_toArray, List.set_cons_succ, List.set_cons_zero])
                            | (refine f_binop (by first | exact cls_free _ | exact cls_row _ _ _ _ | exact cls_fill _ _ _ _ _ | exact cls_butC _ _ | exact cls_butD _ _ _ _ _ _ _) (fun V => by rfl) _ _ _ _ _ rfl _ _ _ (hG) (fun w => guard_gtr _ _ _ _ _ w) (fun V => by rfl) (fun V => by rfl) ?_; simp only [Act.put, List.setIfInBounds_toArray, List.set_cons_succ, List.set_cons_zero])
                            | (refine f_binop (by first | exact cls_free _ | exact cls_row _ _ _ _ | exact cls_fill _ _ _ _ _ | exact cls_butC _ _ | exact cls_butD _ _ _ _ _ _ _) (fun V => by rfl) _ _ _ _ _ rfl _ _ _ (hLE) (fun w => guard_str _ _ _ _ _ _ w) (fun V => by rfl) (fun V => by rfl) ?_; simp only [Act.put, List.setIfInBounds_toArray, List.set_cons_succ, List.set_cons_zero])
                            | (refine f_call (by first | exact cls_free _ | exact cls_row _ _ _ _ | exact cls_fill _ _ _ _ _ | exact cls_butC _ _ | exact cls_butD _ _ _ _ _ _ _) (fun V => by rfl) 25 _ _ rfl (enters_of Tryd.func25 rfl rfl) _ _ (fun V w hb hk => (CK.out w).mono fun e w1 ⟨h1, h2⟩ => ⟨h1, h2 ▸ Below.refl _ _⟩) (fun V => by rfl) ?_; simp only [Act.put, List.setIfInBounds_toArray, List.set_cons_succ, List.set_cons_zero])
                            | (refine f_call (by first | exact cls_free _ | exact cls_row _ _ _ _ | exact cls_fill _ _ _ _ _ | exact cls_butC _ _ | exact cls_butD _ _ _ _ _ _ _) (fun V => by rfl) 26 _ _ rfl (enters_of Tryd.func26 rfl rfl) _ _ (fun V w hb hk => CC.out w) (fun V => by rfl) ?_; simp only [Act.put, List.setIfInBounds_toArray, List.set_cons_succ, List.set_cons_zero])
                | (refine f_quiet (by first | exact cls_free _ | exact cls_row _ _ _ _ | exact cls_fill _ _ _ _ _ | exact cls_butC _ _ | exact cls_butD _ _ _ _ _ _ _) (fun V => by rfl) (fun V => ⟨_, rfl, by simp⟩) ?_; apply Exists.intro; refine And.intro (fun V w hw K hK => ?_) ?_; ((try simp only [Act.put, List.setIfInBounds_toArray, List.set_cons_succ, List.set_cons_zero] at hK); go_big_quiet_op; exact hK); simp only [Act.put, List.setIfInBounds_toArray, List.set_cons_succ, List.set_cons_zero]))
              refine f_nil ?_
              intro V w' hq2 hkn
              clear hkn
              have B1 := Lib.hid (hB.out.trans (hq2.mono hB.out.size))
              clear hq2
              go_wp2
              go_roundw
              case rel => exact ⟨m + 1 + 1, by omega, by go_num, e, B1⟩
              case measure => simp [intOf]; omega
            · rw [decide_eq_true hlk] at hLE
              have e := Lib.hid (show rightM l = false by rw [hE.out, hpk, hst2, decide_eq_false hlk, Bool.false_and])
              clear hok hne hp hq hpk hst2 hlk
              go_wp2_with fail
              refine wp_region_facts 34 [] [] (by kernel_rfl) (by kernel_rfl) (by kernel_rfl) (free_draw wr) ?_
              simp only [List.take_succ_cons, List.take_zero, List.drop_succ_cons, List.drop_zero, List.zipIdx_cons, List.zipIdx_nil, Nat.zero_add, Nat.reduceAdd]
              repeat (show wpF _ _ _ _ _ _ (_ :: _) _ _; first
                | (refine f_skip (fun V => by rfl) ?_; simp only [Act.put, List.setIfInBounds_toArray, List.set_cons_succ, List.set_cons_zero])
                  
                            | (refine f_ix9 (by first | exact cls_free _ | exact cls_row _ _ _ _ | exact cls_fill _ _ _ _ _ | exact cls_butC _ _ | exact cls_butD _ _ _ _ _ _ _) (fun V => by rfl) 30 (.tmp 10) _ rfl _ _ _ _ (fun V => by rfl) 38 6 (m + 1) _ _ (fun V => by rfl) Tryd.underlying30 (by kernel_rfl) (by omega) (hlt) ?_; simp only [Act.put, List.setIfInBounds_toArray, List.set_cons_succ, List.set_cons_zero])
                            | (refine f_ix9 (by first | exact cls_free _ | exact cls_row _ _ _ _ | exact cls_fill _ _ _ _ _ | exact cls_butC _ _ | exact cls_butD _ _ _ _ _ _ _) (fun V => by rfl) 30 (.tmp 18) _ rfl _ _ _ _ (fun V => by rfl) 38 6 (m + 1) _ _ (fun V => by rfl) Tryd.underlying30 (by kernel_rfl) (by omega) (hlt) ?_; simp only [Act.put, List.setIfInBounds_toArray, List.set_cons_succ, List.set_cons_zero])
                            | (refine f_ix9 (by first | exact cls_free _ | exact cls_row _ _ _ _ | exact cls_fill _ _ _ _ _ | exact cls_butC _ _ | exact cls_butD _ _ _ _ _ _ _) (fun V => by rfl) 30 (.tmp 30) _ rfl _ _ _ _ (fun V => by rfl) 38 6 (m + 1) _ _ (fun V => by rfl) Tryd.underlying30 (by kernel_rfl) (by omega) (hlt) ?_; simp only [Act.put, List.setIfInBounds_toArray, List.set_cons_succ, List.set_cons_zero])
                            | (refine f_ix9 (by first | exact cls_free _ | exact cls_row _ _ _ _ | exact cls_fill _ _ _ _ _ | exact cls_butC _ _ | exact cls_butD _ _ _ _ _ _ _) (fun V => by rfl) 30 (.tmp 35) _ rfl _ _ _ _ (fun V => by rfl) 38 6 (m) _ _ (fun V => by rfl) Tryd.underlying30 (by kernel_rfl) (by omega) (by omega) ?_; simp only [Act.put, List.setIfInBounds_toArray, List.set_cons_succ, List.set_cons_zero])
                            | (refine f_load_cell (by first | exact cls_free _ | exact cls_row _ _ _ _ | exact cls_fill _ _ _ _ _ | exact cls_butC _ _ | exact cls_butD _ _ _ _ _ _ _) (fun V => by rfl) _ _ rfl _ (fun V => by rfl) _ (fun w hb => (Keeps.below hb) _ _ c0) _ Tryd.underlying9 rfl ?_; simp only [Act.put, List.setIfInBounds_toArray, List.set_cons_succ, List.set_cons_zero])
                            | (refine f_load_cell (by first | exact cls_free _ | exact cls_row _ _ _ _ | exact cls_fill _ _ _ _ _ | exact cls_butC _ _ | exact cls_butD _ _ _ _ _ _ _) (fun V => by rfl) _ _ rfl _ (fun V => by rfl) _ (fun w hb => (Keeps.below hb) _ _ d0) _ Tryd.underlying9 rfl ?_; simp only [Act.put, List.setIfInBounds_toArray, List.set_cons_succ, List.set_cons_zero])
                            | (refine f_load_mid (by first | exact cls_free _ | exact cls_row _ _ _ _ | exact cls_fill _ _ _ _ _ | exact cls_butC _ _ | exact cls_butD _ _ _ _ _ _ _) (fun V => by rfl) 36 _ rfl _ _ (fun V => by rfl) (ccs p.c (.slice Ad p.c.d.length cd)) _ (fun w hb => rangeAt_keep c1 (Keeps.below hb)) Tryd.underlying36 rfl (by kernel_rfl) ?_; simp only [Act.put, List.setIfInBounds_toArray, List.set_cons_succ, List.set_cons_zero])
                            | (refine f_binop (by first | exact cls_free _ | exact cls_row _ _ _ _ | exact cls_fill _ _ _ _ _ | exact cls_butC _ _ | exact cls_butD _ _ _ _ _ _ _) (fun V => by rfl) _ _ _ _ _ rfl _ _ _ (hG) (fun w => guard_gtr _ _ _ _ _ w) (fun V => by rfl) (fun V => by rfl) ?_; simp only [Act.put, List.setIfInBounds_toArray, List.set_cons_succ, List.set_cons_zero])
                            | (refine f_binop (by first | exact cls_free _ | exact cls_row _ _ _ _ | exact cls_fill _ _ _ _ _ | exact cls_butC _ _ | exact cls_butD _ _ _ _ _ _ _) (fun V => by rfl) _ _ _ _ _ rfl _ _ _ (hLE) (fun w => guard_str _ _ _ _ _ _ w) (fun V => by rfl) (fun V => by rfl) ?_; simp only [Act.put, List.setIfInBounds_toArray, List.set_cons_succ, List.set_cons_zero])
                            | (refine f_call (by first | exact cls_free _ | exact cls_row _ _ _ _ | exact cls_fill _ _ _ _ _ | exact cls_butC _ _ | exact cls_butD _ _ _ _ _ _ _) (fun V => by rfl) 25 _ _ rfl (enters_of Tryd.func25 rfl rfl) _ _ (fun V w hb hk => (CK.out w).mono fun e w1 ⟨h1, h2⟩ => ⟨h1, h2 ▸ Below.refl _ _⟩) (fun V => by rfl) ?_; simp only [Act.put, List.setIfInBounds_toArray, List.set_cons_succ, List.set_cons_zero])
                            | (refine f_call (by first | exact cls_free _ | exact cls_row _ _ _ _ | exact cls_fill _ _ _ _ _ | exact cls_butC _ _ | exact cls_butD _ _ _ _ _ _ _) (fun V => by rfl) 26 _ _ rfl (enters_of Tryd.func26 rfl rfl) _ _ (fun V w hb hk => CC.out w) (fun V => by rfl) ?_; simp only [Act.put, List.setIfInBounds_toArray, List.set_cons_succ, List.set_cons_zero])
                | (refine f_quiet (by first | exact cls_free _ | exact cls_row _ _ _ _ | exact cls_fill _ _ _ _ _ | exact cls_butC _ _ | exact cls_butD _ _ _ _ _ _ _) (fun V => by rfl) (fun V => ⟨_, rfl, by simp⟩) ?_; apply Exists.intro; refine And.intro (fun V w hw K hK => ?_) ?_; ((try simp only [Act.put, List.setIfInBounds_toArray, List.set_cons_succ, List.set_cons_zero] at hK); go_big_quiet_op; exact hK); simp only [Act.put, List.setIfInBounds_toArray, List.set_cons_succ, List.set_cons_zero]))
              refine f_nil ?_
              intro V w' hq2 hkn
              clear hkn
              have B1 := Lib.hid (hB.out.trans (hq2.mono hB.out.size))
              clear hq2
              go_wp2
              go_ret
              exact ⟨by rw [e.out]; rfl, B1.out⟩
    · obtain rfl : j = l.length := by omega
      have hy : rightM l = true := by rw [hE.out, List.drop_length]; rfl
      replace hy := Lib.hid hy
      go_wp2
      go_ret
      exact ⟨by rw [hy.out]; rfl, hB.out⟩
end Go.Proofs.YtlpgmmcdcjkkiaaDoor
