/- Layer 8: Same, what Get tells of Put, the law PatchPuts. -/
import Derived.Test.YtafmggipmaofnaaPatchSame
import Derived.Test.YtafmggipmaofnaaPatchCheck
import Derived.Test.YtafmggipmaofnaaPatchGet
import Derived.Test.YtafmggipmaofnaaCellBytes
import Derived.Test.YtafmggipmaofnaaPatchLaws
import Derived.Test.YtafmggipmaofnaaPatchPut
import Derived.Test.YtafmggipmaofnaaPatchPutRef
/- Layer 8: two patches: the same ones? the program's and the reference's. -/
namespace Go.Proofs.Ytafmggipmaofnaa
set_option maxRecDepth 20000
open Go.RowKit

set_option maxHeartbeats 4000000 in
theorem equalFunc8_any (vl vm : Value) (l m : List Rn) (w : World) (hl : RS w vl l) (hm : RS w vm m) :
    Calls Try.prog 33 #[vl, vm, .func (.func 34) #[] #[]] w fun e w' => e = .returned (.bool (decide (l = m))) ∧ Below w.heap.size w w' := by
  obtain ⟨Al, cl, rfl, l1, l2, _, _⟩ := id hl
  obtain ⟨Am, cm, rfl, m1, m2, _, _⟩ := id hm
  have l3 := hl.bd.2.2
  have m3 := hm.bd.2.2
  by_cases hlen : l.length = m.length
  · have HL := Lib.hid hl
    have HM := Lib.hid hm
    have hne : ((l.length : Int) != (m.length : Int)) = false := by simp [hlen]
    have HN := Lib.hid hlen
    clear hl hm hlen
    go_enter Try.func33, Try.ntmps33
    go_wp2_with (show wpList _ _ _ (Oper.mk _ (.binOp .neq _ (.tmp 11) (.tmp 13) _) _ _ _ _ :: _) _ _; refine wpList_bin rfl .neq 3 _ (.tmp 11) (.tmp 13) rfl _ _ (.bool false) rfl rfl (run_neq_i _ _ _ _ false (hne) _) (guard_neq_i _ _ _ _ _ _ _) ?_)
    go_loopw [17] (fun i wr => ∃ k : Nat, k ≤ l.length ∧ i = .int .i64 k ∧ l.take k = m.take k ∧ Below w.heap.size w wr) (fun i _ => l.length - (intOf i).toNat)
    case atStart => exact ⟨0, by omega, rfl, by simp, Below.refl _ _⟩
    case round =>
      obtain ⟨k, hk, rfl, htk, hB⟩ := hrel
      by_cases hlt : k < l.length
      · obtain ⟨bl, ol, r, D, rfl, hr, cr1, cr2, cr3⟩ := RS.at (HL.out.keep (Keeps.below hB)) hlt
        obtain ⟨bm, om, s, E, rfl, hs, cs1, cs2, cs3⟩ := RS.at (HM.out.keep (Keeps.below hB)) (k := k) (by have := HN.out; omega)
        have hkm : k < m.length := by have := HN.out; omega
        have SR := Lib.hid (fun w' (h : Below wr.heap.size wr w') => sameRun_any r s D E w' (cr3.keep (Keeps.below h)) (cs3.keep (Keeps.below h)))
        obtain ⟨Ad, cd, rfl, _⟩ := id cr3
        obtain ⟨Ae, ce, rfl, _⟩ := id cs3
        rw [bys_len] at cr2 cs2 SR
        rw [bys_len] at SR
        clear cr3 cs3
        unfold rv at SR
        have ct1 := Keeps.alloc wr (.cells #[.int .i64 r.p, .slice Ad r.d.length cd] 56) _ _ cs1
        have ct2 := Keeps.alloc wr (.cells #[.int .i64 r.p, .slice Ad r.d.length cd] 56) _ _ cs2
        replace hB := Lib.hid hB
        by_cases heq : r = s
        · rw [decide_eq_true heq] at SR
          have htk2 := Lib.hid (take_more htk hr hs heq)
          clear heq
          go_wp2_with fail
          refine (SR.out _ (two_more (Below.refl _ _) _ _)).mono ?_
          rintro e w1 ⟨rfl, b1⟩
          have B1 := Lib.hid ((two_more hB.out (.cells #[.int .i64 r.p, .slice Ad r.d.length cd] 56) (.cells #[.int .i64 s.p, .slice Ae s.d.length ce] 56)).trans (b1.mono (by have := hB.out.size; simp; omega)))
          clear b1
          go_wp2
          go_roundw
          case rel => exact ⟨k + 1, by omega, by go_num, htk2.out, B1.out⟩
          case measure => simp [intOf]; omega
        · rw [decide_eq_false heq] at SR
          have hno : decide (l = m) = false := decide_eq_false (take_ne hr hs heq)
          clear heq
          go_wp2_with fail
          refine (SR.out _ (two_more (Below.refl _ _) _ _)).mono ?_
          rintro e w1 ⟨rfl, b1⟩
          have B1 := Lib.hid ((two_more hB.out (.cells #[.int .i64 r.p, .slice Ad r.d.length cd] 56) (.cells #[.int .i64 s.p, .slice Ae s.d.length ce] 56)).trans (b1.mono (by have := hB.out.size; simp; omega)))
          clear b1
          go_wp2
          go_ret
          exact ⟨(by rw [hno]; rfl), B1.out⟩
      · obtain rfl : k = l.length := by omega
        have hyes : decide (l = m) = true := decide_eq_true (by rw [List.take_length, HN.out, List.take_length] at htk; exact htk)
        go_wp2
        go_ret
        exact ⟨(by rw [hyes]; rfl), hB⟩
  · have hno : decide (l = m) = false := decide_eq_false fun e => hlen (by rw [e])
    have hne : ((l.length : Int) != (m.length : Int)) = true := by simp; omega
    clear hl hm
    go_enter Try.func33, Try.ntmps33
    go_wp2_with (show wpList _ _ _ (Oper.mk _ (.binOp .neq _ (.tmp 11) (.tmp 13) _) _ _ _ _ :: _) _ _; refine wpList_bin rfl .neq 3 _ (.tmp 11) (.tmp 13) rfl _ _ (.bool true) rfl rfl (run_neq_i _ _ _ _ true (hne) _) (guard_neq_i _ _ _ _ _ _ _) ?_)
    go_ret
    exact ⟨(by rw [hno]; rfl), Below.refl _ _⟩

theorem pt_ne_pg {x y : Pt} (h : x.pg ≠ y.pg) : x ≠ y := fun e => h (by rw [e])
theorem pt_ne_fr {x y : Pt} (h : x.fr ≠ y.fr) : x ≠ y := fun e => h (by rw [e])
theorem pt_rs {p q : Int} {f g : Bool} {l m : List Rn} (hp : p = q) (hf : f = g) : decide ((⟨p, f, l⟩ : Pt) = ⟨q, g, m⟩) = decide (l = m) := by
  subst hp hf
  apply decide_eq_decide.2
  constructor
  · intro h; injection h
  · rintro rfl; rfl
set_option maxHeartbeats 4000000 in
theorem same8_any (x y : Pt) (vx vy : Value) (w : World) (hx : RS w vx x.rs) (hy : RS w vy y.rs) :
      Calls Try.prog 19 #[pv vx x, pv vy y] w fun e w' => e = .returned (.bool (decide (x = y))) ∧ Below w.heap.size w w' := by
    obtain ⟨p, f, l⟩ := x
    obtain ⟨q, g, m⟩ := y
    simp only at hx hy
    have CE := Lib.hid (fun w' (h : Below w.heap.size w w') => equalFunc8_any vx vy l m w' (hx.keep (Keeps.below h)) (hy.keep (Keeps.below h)))
    obtain ⟨Ax, cx, rfl, _⟩ := hx
    obtain ⟨Ay, cy, rfl, _⟩ := hy
    unfold pv
    by_cases hp : p = q
    · have hpe : (p == q) = true := by simp [hp]
      by_cases hf : f = g
      · rw [pt_rs hp hf]
        generalize decide (l = m) = z at *
        subst hf
        clear hp
        cases f <;> cases z
        all_goals
          go_enter Try.func19, Try.ntmps19
          go_wp2_with (first
            | (show wpList _ _ _ (Oper.mk _ (.binOp .eql _ (.tmp 6) (.tmp 8) _) _ _ _ _ :: _) _ _; refine wpList_bin rfl .eql 3 _ (.tmp 6) (.tmp 8) rfl _ _ (.bool true) rfl rfl (run_eql_i _ _ _ _ true (hpe) _) (guard_eql_i _ _ _ _ _ _ _) ?_)
            | (go_at_call 33; refine (CE.out _ (two_more (Below.refl _ _) _ _)).mono ?_; rintro e w1 ⟨rfl, b1⟩))
          go_ret
          exact ⟨rfl, (two_more (Below.refl _ _) _ _).trans (b1.mono (by simp; omega))⟩
      · have hno : decide ((⟨p, f, l⟩ : Pt) = ⟨q, g, m⟩) = false := decide_eq_false (pt_ne_fr hf)
        rw [hno]
        clear CE hno hp
        cases f <;> cases g <;> first
          | exact absurd rfl hf
          | (clear hf
             go_enter Try.func19, Try.ntmps19
             go_wp2_with (show wpList _ _ _ (Oper.mk _ (.binOp .eql _ (.tmp 6) (.tmp 8) _) _ _ _ _ :: _) _ _; refine wpList_bin rfl .eql 3 _ (.tmp 6) (.tmp 8) rfl _ _ (.bool true) rfl rfl (run_eql_i _ _ _ _ true (hpe) _) (guard_eql_i _ _ _ _ _ _ _) ?_)
             go_ret
             exact ⟨rfl, two_more (Below.refl _ _) _ _⟩)
    · have hpe : (p == q) = false := by simp [hp]
      have hno : decide ((⟨p, f, l⟩ : Pt) = ⟨q, g, m⟩) = false := decide_eq_false (pt_ne_pg hp)
      rw [hno]
      clear CE hno hp
      go_enter Try.func19, Try.ntmps19
      go_wp2_with (show wpList _ _ _ (Oper.mk _ (.binOp .eql _ (.tmp 6) (.tmp 8) _) _ _ _ _ :: _) _ _; refine wpList_bin rfl .eql 3 _ (.tmp 6) (.tmp 8) rfl _ _ (.bool false) rfl rfl (run_eql_i _ _ _ _ false (hpe) _) (guard_eql_i _ _ _ _ _ _ _) ?_)
      go_ret
      exact ⟨rfl, two_more (Below.refl _ _) _ _⟩
set_option maxHeartbeats 4000000 in
theorem rsame8_any (x y : Pt) (vx vy : Value) (w : World) (hx : RS w vx x.rs) (hy : RS w vy y.rs) :
          Calls Try.prog 20 #[pv vx x, pv vy y] w fun e w' => e = .returned (.bool (decide (x = y))) ∧ Below w.heap.size w w' := by
        obtain ⟨p, f, l⟩ := x
        obtain ⟨q, g, m⟩ := y
        simp only at hx hy
        have CE := Lib.hid (fun w' (h : Below w.heap.size w w') => sameRuns_any vx vy l m w' (hx.keep (Keeps.below h)) (hy.keep (Keeps.below h)))
        obtain ⟨Ax, cx, rfl, _⟩ := hx
        obtain ⟨Ay, cy, rfl, _⟩ := hy
        unfold pv
        by_cases hp : p = q
        · have hpe : (p == q) = true := by simp [hp]
          by_cases hf : f = g
          · rw [pt_rs hp hf]
            generalize decide (l = m) = z at *
            subst hf
            clear hp
            cases f <;> cases z
            all_goals
              go_enter Try.func20, Try.ntmps20
              go_wp2_with (first
                | (show wpList _ _ _ (Oper.mk _ (.binOp .eql _ (.tmp 6) (.tmp 8) _) _ _ _ _ :: _) _ _; refine wpList_bin rfl .eql 3 _ (.tmp 6) (.tmp 8) rfl _ _ (.bool true) rfl rfl (run_eql_i _ _ _ _ true (hpe) _) (guard_eql_i _ _ _ _ _ _ _) ?_)
                | (go_at_call 8; refine (CE.out _ (two_more (Below.refl _ _) _ _)).mono ?_; rintro e w1 ⟨rfl, b1⟩))
              go_ret
              exact ⟨rfl, (two_more (Below.refl _ _) _ _).trans (b1.mono (by simp; omega))⟩
          · have hno : decide ((⟨p, f, l⟩ : Pt) = ⟨q, g, m⟩) = false := decide_eq_false (pt_ne_fr hf)
            rw [hno]
            clear CE hno hp
            cases f <;> cases g <;> first
              | exact absurd rfl hf
              | (clear hf
                 go_enter Try.func20, Try.ntmps20
                 go_wp2_with (show wpList _ _ _ (Oper.mk _ (.binOp .eql _ (.tmp 6) (.tmp 8) _) _ _ _ _ :: _) _ _; refine wpList_bin rfl .eql 3 _ (.tmp 6) (.tmp 8) rfl _ _ (.bool true) rfl rfl (run_eql_i _ _ _ _ true (hpe) _) (guard_eql_i _ _ _ _ _ _ _) ?_)
                 go_ret
                 exact ⟨rfl, two_more (Below.refl _ _) _ _⟩)
        · have hpe : (p == q) = false := by simp [hp]
          have hno : decide ((⟨p, f, l⟩ : Pt) = ⟨q, g, m⟩) = false := decide_eq_false (pt_ne_pg hp)
          rw [hno]
          clear CE hno hp
          go_enter Try.func20, Try.ntmps20
          go_wp2_with (show wpList _ _ _ (Oper.mk _ (.binOp .eql _ (.tmp 6) (.tmp 8) _) _ _ _ _ :: _) _ _; refine wpList_bin rfl .eql 3 _ (.tmp 6) (.tmp 8) rfl _ _ (.bool false) rfl rfl (run_eql_i _ _ _ _ false (hpe) _) (guard_eql_i _ _ _ _ _ _ _) ?_)
          go_ret
          exact ⟨rfl, two_more (Below.refl _ _) _ _⟩
end Go.Proofs.Ytafmggipmaofnaa

/- Layer 8: what Get tells of the bytes of a patch that may be. -/
namespace Go.Proofs.Ytafmggipmaofnaa
open Go.RowKit

theorem wrap_two (n : Int) (h : 0 ≤ n ∧ n ≤ 65535) : wrap64 ((ub n % 256 ^ 2 : Nat) : Int) = n := by
  have h1 := ub_cast n
  rw [Nat.mod_eq_of_lt (by omega)]
  unfold wrap64
  omega
theorem rd2 (n : Int) (h : 0 ≤ n ∧ n ≤ 65535) (r : List UInt8) : rdI (beb 2 (ub n) ++ r, false) 2 = n := by rw [rdI_beb, wrap_two n h]
theorem rdB_app (d r : List UInt8) : rdB (d ++ r, false) d.length = d := by
  have h : rdHas (d ++ r, false) d.length = true := by simp [rdHas]
  unfold rdB
  rw [if_pos h]
  simp
theorem rdS_app (d r : List UInt8) : rdS (d ++ r, false) d.length = (r, false) := by
  have h : rdHas (d ++ r, false) d.length = true := by simp [rdHas]
  unfold rdS
  rw [if_pos h]
  simp
theorem rrn_run (r : Rn) (hw : wthn r = true) (t : List UInt8) : rrn (runB r ++ t, false) = r ∧ rnx (runB r ++ t, false) = (t, false) := by
  have h := (wthn_iff r).1 hw
  have e : runB r ++ t = beb 2 (ub r.p) ++ (beb 2 (ub (r.d.length : Int)) ++ (r.d ++ t)) := by unfold runB; simp
  unfold rrn rnx
  rw [e, rd2 r.p (by omega), rdS_beb, rd2 (r.d.length : Int) (by omega), rdS_beb, Int.toNat_natCast, rdB_app, rdS_app]
  exact ⟨rfl, rfl⟩
theorem rst_succ (s : Rs) : ∀ k, rst s (k + 1) = rst (rnx s) k
  | 0 => rfl
  | k + 1 => congrArg rnx (rst_succ s k)
theorem rrun_succ (s : Rs) (k : Nat) : rrun s (k + 1) = rrn s :: rrun (rnx s) k := by
  unfold rrun
  rw [List.range_succ_eq_map, List.map_cons, List.map_map]
  congr 1
  apply List.map_congr_left
  intro j _
  show rrn (rst s (j + 1)) = _
  rw [rst_succ]
theorem rrun_runs : ∀ (l : List Rn), (∀ r ∈ l, wthn r = true) → ∀ t, rrun (runsB l ++ t, false) l.length = l
  | [], _, t => rfl
  | r :: l, hw, t => by
    have h := rrn_run r (hw r (by simp)) (runsB l ++ t)
    have e : runsB (r :: l) = runB r ++ runsB l := by simp [runsB]
    rw [e, List.append_assoc, List.length_cons, rrun_succ, h.1, h.2, rrun_runs l (fun s hs => hw s (List.mem_cons_of_mem _ hs)) t]
theorem num2_at (pre : List UInt8) (n : Nat) (h : n ≤ 65535) (t : List UInt8) : num2 (pre ++ (beb 2 (ub n) ++ t)) pre.length = n := by
  unfold num2
  rw [if_pos (by simp), List.drop_left, List.take_left' (beb_len _ _), numOf_beb, ub_nat n (by omega), Nat.mod_eq_of_lt (by omega)]
theorem clm_runs : ∀ (l : List Rn), (∀ r ∈ l, wthn r = true) → ∀ pre t, clm (pre ++ (runsB l ++ t)) l.length pre.length = pre.length + (runsB l).length
  | [], _, pre, t => by simp [clm, runsB]
  | r :: l, hw, pre, t => by
    have h := (wthn_iff r).1 (hw r (by simp))
    have e : runsB (r :: l) = runB r ++ runsB l := by simp [runsB]
    have hn : num2 (pre ++ (runsB (r :: l) ++ t)) (pre.length + 2) = r.d.length := by
      have h1 := num2_at (pre ++ beb 2 (ub r.p)) r.d.length (by omega) (r.d ++ (runsB l ++ t))
      rw [List.length_append, beb_len] at h1
      refine Eq.trans ?_ h1
      congr 1
      rw [e]
      unfold runB
      simp
    have ih := clm_runs l (fun s hs => hw s (List.mem_cons_of_mem _ hs)) (pre ++ runB r) t
    rw [List.length_append, runB_len] at ih
    rw [List.length_cons]
    unfold clm
    rw [hn, show pre ++ (runsB (r :: l) ++ t) = (pre ++ runB r) ++ (runsB l ++ t) by rw [e]; simp, ih, e, List.length_append, runB_len]
    try omega
theorem claimed_back (x : Pt) (hx : okP8 x = true) (t : List UInt8) : claimedN (patchB x ++ t) = (patchB x).length := by
  have ho : 0 ≤ x.pg ∧ x.pg ≤ 65535 ∧ x.rs.length ≤ 500 ∧ okRuns 0 x.rs = true := of_decide_eq_true hx
  have h1 := num2_at (beb 2 (ub x.pg) ++ beb 1 (ub (fbyte x.fr))) x.rs.length (by omega) (runsB x.rs ++ t)
  have h2 := clm_runs x.rs (ok_all x.rs 0 ho.2.2.2) (headB x) t
  rw [headB_len] at h2
  rw [List.length_append, beb_len, beb_len] at h1
  have e : patchB x ++ t = headB x ++ (runsB x.rs ++ t) := by unfold patchB; rw [List.append_assoc]
  have h3 : num2 (headB x ++ (runsB x.rs ++ t)) 3 = x.rs.length := by
    refine Eq.trans ?_ h1
    unfold headB
    simp only [List.append_assoc]
  unfold claimedN
  rw [e, h3, h2]
  unfold patchB
  rw [List.length_append, headB_len]
theorem get_back (x : Pt) (hx : okP8 x = true) (t : List UInt8) : getP (patchB x ++ t) = (x, ((patchB x).length : Int), 0) := by
  have ho : 0 ≤ x.pg ∧ x.pg ≤ 65535 ∧ x.rs.length ≤ 500 ∧ okRuns 0 x.rs = true := of_decide_eq_true hx
  unfold getP
  rw [claimed_back x hx t, if_neg (by simp), List.take_left' rfl]
  have e : patchB x = beb 2 (ub x.pg) ++ (beb 1 (ub (fbyte x.fr)) ++ (beb 2 (ub (x.rs.length : Int)) ++ (runsB x.rs ++ []))) := by unfold patchB headB; simp
  have a1 : rdI (patchB x, false) 2 = x.pg := by rw [e, rd2 _ (by omega)]
  have a2 : rdS (patchB x, false) 2 = (beb 1 (ub (fbyte x.fr)) ++ (beb 2 (ub (x.rs.length : Int)) ++ (runsB x.rs ++ [])), false) := by rw [e, rdS_beb]
  have a3 : ∀ r, rdI (beb 1 (ub (fbyte x.fr)) ++ r, false) 1 = fbyte x.fr := fun r => by
    rw [rdI_beb]
    cases x.fr
    · exact wrap_one 0 (by omega)
    · exact wrap_one 1 (by omega)
  have hrr := rrun_runs x.rs (ok_all x.rs 0 ho.2.2.2) []
  have hxe : (⟨x.pg, decide (fbyte x.fr = 1), x.rs⟩ : Pt) = x := by
    obtain ⟨pg, fr, rs⟩ := x
    cases fr <;> rfl
  have hf : decide (1 < fbyte x.fr) = false := by cases x.fr <;> rfl
  simp only [a1, a2, a3, rdS_beb, rd2 (x.rs.length : Int) (by omega), Int.toNat_natCast, hrr, hxe, hf, hx, Bool.not_true, Bool.or_false, Bool.false_eq_true, if_false]
end Go.Proofs.Ytafmggipmaofnaa

/- Layer 8: the law PatchPuts. -/
namespace Go.Proofs.Ytafmggipmaofnaa
open Go.RowKit

theorem wpList_app_both {P : Program} {ops : Array Oper} {Q : Exit → Act → World → Prop} {a : Act} {w : World} {rest : List Oper} {o : Oper} (hw : Region.wanted o (yielded ops a.tmps) = true) (s x : Operand) (t : TypeId) (ho : o.op = .call { callee := .builtin .append, args := #[s, x], argTypes := #[t, t] })
    (base : Nat) (e : TypeId) (i : TypeInfo) (z : Value) (bytes : Nat) (ht : P.underlying t = some (.slice e)) (hi : P.info? e = some i) (hz : i.zero = some z) (hsize : i.size = 1) (hby : i.bytes = bytes) (hzs : z.cells.size = 1)
    (g cap n : Nat) (xs : List Value) (hs : a.eval s = .slice (some ⟨g, 0, none⟩) n cap) (hown : w.ownsRow base e 1 (.slice (some ⟨g, 0, none⟩) n cap) n xs)
    (ad : Addr) (m c : Nat) (hx : a.eval x = .slice (some ad) m c) (news : List Value) (hl : news.length = m) (hnews : ∀ j u, news[j]? = some u → w.cell? (ad.add j) = some u) (h1 : ∀ u ∈ news, u.oneCell' = true)
    (h63 : n + m ≤ maxLen) (hbytes : (n + m) * bytes ≤ 140737488355328) (hbase : base ≤ w.heap.size)
    (h : ∀ v' w', Hid (w'.ownsRow base e 1 v' (n + m) (xs ++ news)) → Hid (w'.ownsRow base e 1 (.slice (some ⟨g, 0, none⟩) n cap) n xs) → Hid (But g w w') → wpList P ops Q rest (a.put o.dst v') w') : wpList P ops Q (o :: rest) a w :=
  wpList_step fun K hK => by
    rw [if_pos hw]
    obtain ⟨v', w', hr, g1, g2, g3, _⟩ := run_app_both (P := P) w base t o.type e i z bytes ht hi hz hsize hby hzs g cap n xs hown ad m c news hl hnews h1 h63 hbytes hbase
    unfold Oper.wp execOp
    simp only [ho, resolve, invoke, builtin, Sem.run_bind, Sem.run_pure, Result.andThen_ok, List.map_toArray, List.map_cons, List.map_nil, hs, hx, hr]
    exact hK _ _ (h v' w' (Lib.hid g1) (Lib.hid g2) (Lib.hid g3))

theorem sameT8 (v u : Value) (l : List UInt8) (w : World) (hv : SV w v (bys l)) (hu : SV w u (bys l)) :
    Calls Try.prog 11 #[v, u] w fun e w' => e = .returned (.bool true) ∧ Below w.heap.size w w' :=
  (same_any v u l l w hv hu).mono fun e w' ⟨h1, h2⟩ => ⟨by rw [h1]; simp, h2 ▸ Below.refl _ _⟩

set_option maxHeartbeats 8000000 in
theorem puts8_law (l : List UInt8) (x y : Pt) (v vx vy : Value) (w : World) (hv : SV w v (bys l)) (hx : RS w vx x.rs) (hsx : Sane x.rs) (hpx : i64 x.pg) (hy : RS w vy y.rs) (hsy : Sane y.rs) (_hpy : i64 y.pg) :
    Calls Try.prog 5 #[v, pv vx x, pv vy y] w fun e w' => e = .returned (.bool true) ∧ Below w.heap.size w w' := by
  have LV := Lib.hid (fun w => live8_any w)
  have HX := Lib.hid hx
  have HY := Lib.hid hy
  have HV := Lib.hid hv
  have PU := Lib.hid (fun w' (h : Below w.heap.size w w') (hl : l.length ≤ 1000000) => put8_any v l x vx w' (hv.keep (Keeps.below h)) hl hpx (hx.keep (Keeps.below h)) hsx)
  have CK := Lib.hid (fun w' (h : Below w.heap.size w w') => check8_any x vx w' hpx (hx.keep (Keeps.below h)) hsx)
  have RB := Lib.hid (fun w' (h : Below w.heap.size w w') => rform8_any x vx w' hpx (hx.keep (Keeps.below h)) hsx)
  have RR := Lib.hid (fun w' (h : Below w.heap.size w w') => right8_any x vx w' hpx (hx.keep (Keeps.below h)) hsx)
  have SX := Lib.hid hsx
  have SY := Lib.hid hsy
  have SM := Lib.hid (fun w' (h : Below w.heap.size w w') => same8_any x y vx vy w' (hx.keep (Keeps.below h)) (hy.keep (Keeps.below h)))
  have RM := Lib.hid (fun w' (h : Below w.heap.size w w') => rsame8_any x y vx vy w' (hx.keep (Keeps.below h)) (hy.keep (Keeps.below h)))
  have RX := Lib.hid (fun w' vz (h : Below w.heap.size w w') (hz : RS w' vz x.rs) => rsame8_any x x vz vx w' hz (hx.keep (Keeps.below h)))
  rw [decide_eq_true rfl] at RX
  have GB := Lib.hid (get_back x)
  have hyl := bytesP_len x
  have hyp : okP8 x = true → bytesP x = patchB x ∧ 5 ≤ (patchB x).length := fun h => ⟨by unfold bytesP; rw [if_pos h], by unfold patchB; rw [List.length_append, headB_len]; omega⟩
  generalize decide (x = y) = q at *
  clear hx hy hsx hsy hpx _hpy
  obtain ⟨A, c, rfl, _⟩ := id hv
  obtain ⟨Ax, cx, rfl, _⟩ := id HX.out
  obtain ⟨Ay, cy, rfl, _⟩ := id HY.out
  rw [bys_len] at PU HV ⊢
  clear hv
  unfold pv at *
  obtain ⟨pg, fr, rs⟩ := x
  obtain ⟨qg, qr, qs⟩ := y
  simp only at *
  by_cases h300 : 300 < l.length
  · go_enter Try.func5, Try.ntmps5
    go_wp2_with fail
    refine (LV.out _).mono ?_
    rintro e w2 ⟨rfl, b2⟩
    have B2 := two_more (Below.refl w.heap.size w) (.cells #[.int .i64 pg, .bool fr, .slice Ax rs.length cx] 37) (.cells #[.int .i64 qg, .bool qr, .slice Ay qs.length cy] 37)
    have B3 := Lib.hid (B2.trans (b2.mono B2.size))
    clear b2 B2
    go_wp2
    go_ret
    exact ⟨rfl, B3.out⟩
  · go_enter Try.func5, Try.ntmps5
    go_wp2_with fail
    have B0 := two_more (Below.refl w.heap.size w) (.cells #[.int .i64 pg, .bool fr, .slice Ax rs.length cx] 37) (.cells #[.int .i64 qg, .bool qr, .slice Ay qs.length cy] 37)
    have px := (Whole.made w 37 #[.int .i64 pg, .bool fr, .slice Ax rs.length cx]).later (.cells #[.int .i64 qg, .bool qr, .slice Ay qs.length cy] 37)
    have py := Whole.second w (.cells #[.int .i64 pg, .bool fr, .slice Ax rs.length cx] 37) 37 #[.int .i64 qg, .bool qr, .slice Ay qs.length cy]
    generalize (w.alloc (.cells #[.int .i64 pg, .bool fr, .slice Ax rs.length cx] 37)).alloc (.cells #[.int .i64 qg, .bool qr, .slice Ay qs.length cy] 37) = w0 at *
    replace B0 := Lib.hid B0
    replace px := Lib.hid px
    replace py := Lib.hid py
    refine (much_any _ rs _ (HX.out.keep (Keeps.below B0.out)) fun r h => (SX.out r h).2).mono ?_
    rintro e w1 ⟨g1, rfl, _, b1⟩
    have B1 := Lib.hid (B0.out.trans (b1.mono B0.out.size))
    have px1 := Lib.hid (px.out.on b1)
    have py1 := Lib.hid (py.out.on b1)
    clear b1 px py B0
    cases g1 with
    | true =>
      go_wp2_with fail
      refine (LV.out _).mono ?_
      rintro e w2 ⟨rfl, b2⟩
      go_wp2
      go_ret
      exact ⟨rfl, B1.out.trans (b2.mono B1.out.size)⟩
    | false =>
      have cy2 := py1.out.cell 2
      simp at cy2
      go_wp2_with fail
      clear cy2
      refine (much_any _ qs _ (HY.out.keep (Keeps.below B1.out)) fun r h => (SY.out r h).2).mono ?_
      rintro e w2 ⟨g2, rfl, _, b2⟩
      have B2 := Lib.hid (B1.out.trans (b2.mono B1.out.size))
      have px2 := Lib.hid (px1.out.on b2)
      have py2 := Lib.hid (py1.out.on b2)
      clear b2 px1 py1 B1
      cases g2 with
      | true =>
        go_wp2_with fail
        refine (LV.out _).mono ?_
        rintro e w3 ⟨rfl, b3⟩
        go_wp2
        go_ret
        exact ⟨rfl, B2.out.trans (b3.mono B2.out.size)⟩
      | false =>
        go_wp2_with (refine wpList_load_row rfl _ _ rfl (w.heap.size) rfl _ _ _ _ (px2.out) Try.underlying37 rfl (by kernel_rfl) ?_)
        refine (PU.out _ B2.out (by omega)).mono ?_
        rintro e w3 ⟨v1, rfl, o1, b3⟩
        have B3 := Lib.hid (B2.out.trans (b3.mono B2.out.size))
        have px3 := Lib.hid (px2.out.on b3)
        have py3 := Lib.hid (py2.out.on b3)
        have O3 := Lib.hid (own_lower (b' := w.heap.size) o1 B2.out.size)
        clear b3 px2 py2 B2 o1 PU
        unfold ck8 at CK
        generalize bytesP ⟨pg, fr, rs⟩ = yb at *
        have hll : ((bys (l ++ yb)).length : Nat) = l.length + yb.length := by rw [bys_len, List.length_append]
        obtain ⟨i0, hi, hz0, hz1, hz2⟩ := info_parts Try.info5
        go_wp2_with (refine wpList_load_row rfl _ _ rfl (w.heap.size) rfl _ _ _ _ (px3.out) Try.underlying37 rfl (by kernel_rfl) ?_)
        cases hok : okP8 ⟨pg, fr, rs⟩ with
        | false =>
          rw [hok] at CK RR
          simp only [Bool.false_eq_true, if_false] at CK
          refine (CK.out _ B3.out).mono ?_
          rintro e w4 ⟨rfl, b4⟩
          have B4 := Lib.hid (B3.out.trans (b4.mono B3.out.size))
          have px4 := Lib.hid (px3.out.on b4)
          have py4 := Lib.hid (py3.out.on b4)
          have O4 := Lib.hid (ownsRow_later O3.out b4)
          clear b4 px3 py3 B3 O3 CK
          go_wp2_with fail
          refine (code8_any _ _).mono ?_
          rintro e w5 ⟨rfl, b5⟩
          have B5 := Lib.hid (B4.out.trans (b5.mono B4.out.size))
          have px5 := Lib.hid (px4.out.on b5)
          have py5 := Lib.hid (py4.out.on b5)
          have O5 := Lib.hid (ownsRow_later O4.out b5)
          clear b5 px4 py4 B4 O4
          go_wp2_with fail
          refine wp_region_facts 33 [6] [33, 35, 37, 38] (by kernel_rfl) (by kernel_rfl) (by kernel_rfl) (free_draw w5) ?_
          simp only [List.take_succ_cons, List.take_zero, List.drop_succ_cons, List.drop_zero, List.zipIdx_cons, List.zipIdx_nil, Nat.zero_add, Nat.reduceAdd]
          repeat (show wpF _ _ _ _ _ _ (_ :: _) _ _; first
            | (refine f_skip (fun V => by rfl) ?_; simp only [Act.put, List.setIfInBounds_toArray, List.set_cons_succ, List.set_cons_zero])
              | (refine f_none (by first | exact cls_free _ | exact cls_row _ _ _ _ | exact cls_fill _ _ _ _ _ | exact cls_butC _ _ | exact cls_butD _ _ _ _ _ _ _) 32 5 rfl (fun V => by rfl) (by decide) w5.heap.size (fun w hb => Below.size hb) (fun w => by kernel_rfl) ?_; simp only [Act.put, List.setIfInBounds_toArray, List.set_cons_succ, List.set_cons_zero, keyOf, Option.getD_some])
                    | (refine f_app0 (by first | exact cls_free _ | exact cls_row _ _ _ _ | exact cls_fill _ _ _ _ _ | exact cls_butC _ _ | exact cls_butD _ _ _ _ _ _ _) (.tmp 33) (.tmp 34) 32 rfl 5 i0 (.int .u8 0) 1 Try.underlying32 hi hz0 hz1 hz2 rfl (fun V => by rfl) (by decide) w5.heap.size (fun w hb => Below.size hb) (bys l) _ _ (fun V w hb hk => hk.slot 33 rfl rfl) (fun V w hb hk => HV.out.keep (Keeps.below (B5.out.trans (Below.mono hb B5.out.size)))) (bys_one _) (by rw [bys_len]; unfold maxLen; omega) (by rw [bys_len]; omega) (fun V => by rfl) (fun V => by rfl) ?_; simp only [Act.put, List.setIfInBounds_toArray, List.set_cons_succ, List.set_cons_zero, keyOf, Option.getD_some])
                    | (refine f_load_row (by first | exact cls_free _ | exact cls_row _ _ _ _ | exact cls_fill _ _ _ _ _ | exact cls_butC _ _ | exact cls_butD _ _ _ _ _ _ _) (fun V => by rfl) _ _ rfl _ (fun V => by rfl) _ _ _ (fun w hb => px5.out.on hb) Try.underlying37 rfl (by kernel_rfl) ?_; simp only [Act.put, List.setIfInBounds_toArray, List.set_cons_succ, List.set_cons_zero])
                    | (refine f_load_row (by first | exact cls_free _ | exact cls_row _ _ _ _ | exact cls_fill _ _ _ _ _ | exact cls_butC _ _ | exact cls_butD _ _ _ _ _ _ _) (fun V => by rfl) _ _ rfl _ (fun V => by rfl) _ _ _ (fun w hb => py5.out.on hb) Try.underlying37 rfl (by kernel_rfl) ?_; simp only [Act.put, List.setIfInBounds_toArray, List.set_cons_succ, List.set_cons_zero])
                    | (refine f_callF (by first | exact cls_free _ | exact cls_row _ _ _ _ | exact cls_fill _ _ _ _ _ | exact cls_butC _ _ | exact cls_butD _ _ _ _ _ _ _) (fSV (bys yb)) (stays_sv _) (fun V => by rfl) (by decide) 17 _ _ rfl (enters_of Try.func17 rfl rfl) _ (fun V w hb hk => (RB.out w (B5.out.trans (Below.mono hb B5.out.size))).mono fun e w' ⟨v, h1, h2, h3⟩ => ⟨v, h1, h2.sv, h3⟩) (fun V => by rfl) ?_; simp only [Act.put, List.setIfInBounds_toArray, List.set_cons_succ, List.set_cons_zero, keyOf, Option.getD_some])
                    | (refine f_app (.tmp 35) (.tmp 37) 32 rfl 5 i0 (.int .u8 0) 1 Try.underlying32 hi hz0 hz1 hz2 rfl (fun V => by rfl) (by decide) (by decide) w5.heap.size (fun w hb => Below.size hb) (fun _ _ h hb => Below.trans h hb) (bys l) (bys yb) _ _ (fun V w hb hk => hk.slot 35 rfl rfl) (fun V w hb hk => hk.slot 37 rfl rfl) (bys_one _) (by rw [bys_len, bys_len]; unfold maxLen; omega) (by rw [bys_len, bys_len]; omega) (fun V => by rfl) (fun V => by rfl) ?_; simp only [Act.put, List.setIfInBounds_toArray, List.set_cons_succ, List.set_cons_zero, keyOf, Option.getD_some])
                    | (refine f_call (by first | exact cls_free _ | exact cls_row _ _ _ _ | exact cls_fill _ _ _ _ _ | exact cls_butC _ _ | exact cls_butD _ _ _ _ _ _ _) (fun V => by rfl) 11 _ _ rfl (enters_of Try.func11 rfl rfl) _ _ (fun V w hb hk => sameT8 _ _ (l ++ yb) w (SV.own (ownsRow_later O5.out hb)) (by have h := hk.slot 38 rfl rfl; rw [bys_app]; exact h.sv)) (fun V => by rfl) ?_; simp only [Act.put, List.setIfInBounds_toArray, List.set_cons_succ, List.set_cons_zero])
                    | (refine f_call (by first | exact cls_free _ | exact cls_row _ _ _ _ | exact cls_fill _ _ _ _ _ | exact cls_butC _ _ | exact cls_butD _ _ _ _ _ _ _) (fun V => by rfl) 18 _ _ rfl (enters_of Try.func18 rfl rfl) _ _ (fun V w hb hk => RR.out w (B5.out.trans (Below.mono hb B5.out.size))) (fun V => by rfl) ?_; simp only [Act.put, List.setIfInBounds_toArray, List.set_cons_succ, List.set_cons_zero])
                    | (refine f_call (by first | exact cls_free _ | exact cls_row _ _ _ _ | exact cls_fill _ _ _ _ _ | exact cls_butC _ _ | exact cls_butD _ _ _ _ _ _ _) (fun V => by rfl) 19 _ _ rfl (enters_of Try.func19 rfl rfl) _ _ (fun V w hb hk => SM.out w (B5.out.trans (Below.mono hb B5.out.size))) (fun V => by rfl) ?_; simp only [Act.put, List.setIfInBounds_toArray, List.set_cons_succ, List.set_cons_zero])
                    | (refine f_call (by first | exact cls_free _ | exact cls_row _ _ _ _ | exact cls_fill _ _ _ _ _ | exact cls_butC _ _ | exact cls_butD _ _ _ _ _ _ _) (fun V => by rfl) 20 _ _ rfl (enters_of Try.func20 rfl rfl) _ _ (fun V w hb hk => RM.out w (B5.out.trans (Below.mono hb B5.out.size))) (fun V => by rfl) ?_; simp only [Act.put, List.setIfInBounds_toArray, List.set_cons_succ, List.set_cons_zero])
            | (refine f_quiet (by first | exact cls_free _ | exact cls_row _ _ _ _ | exact cls_fill _ _ _ _ _ | exact cls_butC _ _ | exact cls_butD _ _ _ _ _ _ _) (fun V => by rfl) (fun V => ⟨_, rfl, by simp⟩) ?_; apply Exists.intro; refine And.intro (fun V w hw K hK => ?_) ?_; ((try simp only [Act.put, List.setIfInBounds_toArray, List.set_cons_succ, List.set_cons_zero] at hK); go_big_quiet_op; exact hK); simp only [Act.put, List.setIfInBounds_toArray, List.set_cons_succ, List.set_cons_zero]))
          refine f_nil ?_
          intro V w6 hq hkn
          have B6 := Lib.hid (B5.out.trans (Below.mono hq B5.out.size))
          clear hkn hq
          go_wp2_with fail
          refine (LV.out _).mono ?_
          rintro e w7 ⟨rfl, b7⟩
          have B7 := Lib.hid (B6.out.trans (b7.mono B6.out.size))
          clear b7
          go_wp2
          go_ret
          exact ⟨rfl, B7.out⟩
        | true =>
          obtain ⟨hyy, hy5⟩ := hyp hok
          rw [← hyy] at hy5
          have GB' := GB.out hok
          rw [← hyy] at GB'
          replace GB := Lib.hid GB'
          clear GB' hyy hyp
          rw [hok] at CK RR
          simp only [if_true] at CK
          refine (CK.out _ B3.out).mono ?_
          rintro e w4 ⟨rfl, b4⟩
          have B4 := Lib.hid (B3.out.trans (b4.mono B3.out.size))
          have px4 := Lib.hid (px3.out.on b4)
          have py4 := Lib.hid (py3.out.on b4)
          have O4 := Lib.hid (ownsRow_later O3.out b4)
          clear b4 px3 py3 B3 O3 CK
          go_wp2_with fail
          refine (code8_any _ _).mono ?_
          rintro e w5 ⟨rfl, b5⟩
          have B5 := Lib.hid (B4.out.trans (b5.mono B4.out.size))
          have px5 := Lib.hid (px4.out.on b5)
          have py5 := Lib.hid (py4.out.on b5)
          have O5 := Lib.hid (ownsRow_later O4.out b5)
          clear b5 px4 py4 B4 O4
          go_wp2_with fail
          refine wp_region_facts 33 [6] [33, 35, 37, 38] (by kernel_rfl) (by kernel_rfl) (by kernel_rfl) (free_draw w5) ?_
          simp only [List.take_succ_cons, List.take_zero, List.drop_succ_cons, List.drop_zero, List.zipIdx_cons, List.zipIdx_nil, Nat.zero_add, Nat.reduceAdd]
          repeat (show wpF _ _ _ _ _ _ (_ :: _) _ _; first
            | (refine f_skip (fun V => by rfl) ?_; simp only [Act.put, List.setIfInBounds_toArray, List.set_cons_succ, List.set_cons_zero])
              | (refine f_none (by first | exact cls_free _ | exact cls_row _ _ _ _ | exact cls_fill _ _ _ _ _ | exact cls_butC _ _ | exact cls_butD _ _ _ _ _ _ _) 32 5 rfl (fun V => by rfl) (by decide) w5.heap.size (fun w hb => Below.size hb) (fun w => by kernel_rfl) ?_; simp only [Act.put, List.setIfInBounds_toArray, List.set_cons_succ, List.set_cons_zero, keyOf, Option.getD_some])
                    | (refine f_app0 (by first | exact cls_free _ | exact cls_row _ _ _ _ | exact cls_fill _ _ _ _ _ | exact cls_butC _ _ | exact cls_butD _ _ _ _ _ _ _) (.tmp 33) (.tmp 34) 32 rfl 5 i0 (.int .u8 0) 1 Try.underlying32 hi hz0 hz1 hz2 rfl (fun V => by rfl) (by decide) w5.heap.size (fun w hb => Below.size hb) (bys l) _ _ (fun V w hb hk => hk.slot 33 rfl rfl) (fun V w hb hk => HV.out.keep (Keeps.below (B5.out.trans (Below.mono hb B5.out.size)))) (bys_one _) (by rw [bys_len]; unfold maxLen; omega) (by rw [bys_len]; omega) (fun V => by rfl) (fun V => by rfl) ?_; simp only [Act.put, List.setIfInBounds_toArray, List.set_cons_succ, List.set_cons_zero, keyOf, Option.getD_some])
                    | (refine f_load_row (by first | exact cls_free _ | exact cls_row _ _ _ _ | exact cls_fill _ _ _ _ _ | exact cls_butC _ _ | exact cls_butD _ _ _ _ _ _ _) (fun V => by rfl) _ _ rfl _ (fun V => by rfl) _ _ _ (fun w hb => px5.out.on hb) Try.underlying37 rfl (by kernel_rfl) ?_; simp only [Act.put, List.setIfInBounds_toArray, List.set_cons_succ, List.set_cons_zero])
                    | (refine f_load_row (by first | exact cls_free _ | exact cls_row _ _ _ _ | exact cls_fill _ _ _ _ _ | exact cls_butC _ _ | exact cls_butD _ _ _ _ _ _ _) (fun V => by rfl) _ _ rfl _ (fun V => by rfl) _ _ _ (fun w hb => py5.out.on hb) Try.underlying37 rfl (by kernel_rfl) ?_; simp only [Act.put, List.setIfInBounds_toArray, List.set_cons_succ, List.set_cons_zero])
                    | (refine f_callF (by first | exact cls_free _ | exact cls_row _ _ _ _ | exact cls_fill _ _ _ _ _ | exact cls_butC _ _ | exact cls_butD _ _ _ _ _ _ _) (fSV (bys yb)) (stays_sv _) (fun V => by rfl) (by decide) 17 _ _ rfl (enters_of Try.func17 rfl rfl) _ (fun V w hb hk => (RB.out w (B5.out.trans (Below.mono hb B5.out.size))).mono fun e w' ⟨v, h1, h2, h3⟩ => ⟨v, h1, h2.sv, h3⟩) (fun V => by rfl) ?_; simp only [Act.put, List.setIfInBounds_toArray, List.set_cons_succ, List.set_cons_zero, keyOf, Option.getD_some])
                    | (refine f_app (.tmp 35) (.tmp 37) 32 rfl 5 i0 (.int .u8 0) 1 Try.underlying32 hi hz0 hz1 hz2 rfl (fun V => by rfl) (by decide) (by decide) w5.heap.size (fun w hb => Below.size hb) (fun _ _ h hb => Below.trans h hb) (bys l) (bys yb) _ _ (fun V w hb hk => hk.slot 35 rfl rfl) (fun V w hb hk => hk.slot 37 rfl rfl) (bys_one _) (by rw [bys_len, bys_len]; unfold maxLen; omega) (by rw [bys_len, bys_len]; omega) (fun V => by rfl) (fun V => by rfl) ?_; simp only [Act.put, List.setIfInBounds_toArray, List.set_cons_succ, List.set_cons_zero, keyOf, Option.getD_some])
                    | (refine f_call (by first | exact cls_free _ | exact cls_row _ _ _ _ | exact cls_fill _ _ _ _ _ | exact cls_butC _ _ | exact cls_butD _ _ _ _ _ _ _) (fun V => by rfl) 11 _ _ rfl (enters_of Try.func11 rfl rfl) _ _ (fun V w hb hk => sameT8 _ _ (l ++ yb) w (SV.own (ownsRow_later O5.out hb)) (by have h := hk.slot 38 rfl rfl; rw [bys_app]; exact h.sv)) (fun V => by rfl) ?_; simp only [Act.put, List.setIfInBounds_toArray, List.set_cons_succ, List.set_cons_zero])
                    | (refine f_call (by first | exact cls_free _ | exact cls_row _ _ _ _ | exact cls_fill _ _ _ _ _ | exact cls_butC _ _ | exact cls_butD _ _ _ _ _ _ _) (fun V => by rfl) 18 _ _ rfl (enters_of Try.func18 rfl rfl) _ _ (fun V w hb hk => RR.out w (B5.out.trans (Below.mono hb B5.out.size))) (fun V => by rfl) ?_; simp only [Act.put, List.setIfInBounds_toArray, List.set_cons_succ, List.set_cons_zero])
                    | (refine f_call (by first | exact cls_free _ | exact cls_row _ _ _ _ | exact cls_fill _ _ _ _ _ | exact cls_butC _ _ | exact cls_butD _ _ _ _ _ _ _) (fun V => by rfl) 19 _ _ rfl (enters_of Try.func19 rfl rfl) _ _ (fun V w hb hk => SM.out w (B5.out.trans (Below.mono hb B5.out.size))) (fun V => by rfl) ?_; simp only [Act.put, List.setIfInBounds_toArray, List.set_cons_succ, List.set_cons_zero])
                    | (refine f_call (by first | exact cls_free _ | exact cls_row _ _ _ _ | exact cls_fill _ _ _ _ _ | exact cls_butC _ _ | exact cls_butD _ _ _ _ _ _ _) (fun V => by rfl) 20 _ _ rfl (enters_of Try.func20 rfl rfl) _ _ (fun V w hb hk => RM.out w (B5.out.trans (Below.mono hb B5.out.size))) (fun V => by rfl) ?_; simp only [Act.put, List.setIfInBounds_toArray, List.set_cons_succ, List.set_cons_zero])
            | (refine f_quiet (by first | exact cls_free _ | exact cls_row _ _ _ _ | exact cls_fill _ _ _ _ _ | exact cls_butC _ _ | exact cls_butD _ _ _ _ _ _ _) (fun V => by rfl) (fun V => ⟨_, rfl, by simp⟩) ?_; apply Exists.intro; refine And.intro (fun V w hw K hK => ?_) ?_; ((try simp only [Act.put, List.setIfInBounds_toArray, List.set_cons_succ, List.set_cons_zero] at hK); go_big_quiet_op; exact hK); simp only [Act.put, List.setIfInBounds_toArray, List.set_cons_succ, List.set_cons_zero]))
          refine f_nil ?_
          intro V w6 hq hkn
          have B6 := Lib.hid (B5.out.trans (Below.mono hq B5.out.size))
          have px6 := Lib.hid (px5.out.on hq)
          have O6 := Lib.hid (ownsRow_later O5.out hq)
          clear hkn hq px5 py5 B5 O5 SM RM RB RR
          obtain ⟨N, hN⟩ : ∃ N, N = l.length + yb.length := ⟨_, rfl⟩
          have O6' := O6.out
          rw [hll, ← hN] at O6'
          obtain ⟨gb, z, rfl⟩ := own_pos O6' (by omega)
          clear O6
          have O6 := Lib.hid O6'
          clear O6'
          have hNi0 : (N : Int) - l.length = yb.length := by omega
          have hN1 : (l.length : Int) ≤ N := by omega
          have hN2 : (N : Int) ≤ 300300 := by omega
          have hNn : N ≤ 300300 := by omega
          have hNy : N - l.length = yb.length := by omega
          have HNI := Lib.hid hNi0
          have HNY := Lib.hid hNy
          have HNN := Lib.hid hN
          clear hNi0 hNy hN
          have ml := Lib.hid (Whole.made w6 5 #[.int .u8 9])
          have Bl := Lib.hid ((Below.refl w6.heap.size w6).alloc (Nat.le_refl _) (.cells #[.int .u8 9] 5))
          have BL := Lib.hid (B6.out.trans (Bl.out.mono B6.out.size))
          have OL := Lib.hid (ownsRow_later O6.out Bl.out)
          have pl := Lib.hid (px6.out.on Bl.out)
          go_wp2_with (at_builtin; refine wpList_app_both rfl (.tmp 69) (.tmp 70) 32 rfl w.heap.size 5 i0 (.int .u8 0) 1 Try.underlying32 hi hz0 hz1 hz2 rfl gb z N (bys (l ++ yb)) rfl OL.out ⟨w6.heap.size, 0, none⟩ 1 1 rfl [.int .u8 9] rfl (fun j u hu => by rw [Addr.add_lit]; exact ml.out.mid 0 1 rfl j u hu) (by simp [Value.oneCell']) (by unfold maxLen; omega) (by omega) BL.out.size ?_; intro x7 w7 HO7 HP7 HB7)
          have B7 := Lib.hid (But.below BL.out HB7.out (OL.out.lt gb rfl).1 BL.out.size)
          have px7 := Lib.hid (pl.out.but HB7.out (fun e => own_not OL.out pl.out (by decide) (by show some gb = some w.heap.size; rw [e])))
          have hsv : SV w7 x7 (bys (l ++ yb ++ [9])) := by rw [bys_app]; exact SV.own HO7.out
          have CG := get8_any x7 (l ++ yb ++ [9]) w7 (by simp; omega) hsv
          unfold pv at CG
          clear HB7 HO7 hsv OL pl BL Bl ml O6 px6 B6
          by_cases h0 : l.length = 0
          · have hl0 : l = [] := List.eq_nil_of_length_eq_zero h0
            rw [show l ++ yb ++ [9] = yb ++ [9] by rw [hl0]; rfl, GB.out [9]] at CG
            clear hl0
            refine CG.mono ?_
            rintro e w8 ⟨vz, rfl, hz, b8⟩
            simp only at hz
            clear CG
            have B8 := Lib.hid (B7.out.trans (b8.mono B7.out.size))
            have px8 := Lib.hid (px7.out.on b8)
            have O8 := Lib.hid (ownsRow_later HP7.out b8)
            replace hz := hz.rs
            obtain ⟨Az, cz, rfl, _⟩ := id hz
            replace hz := Lib.hid hz
            clear b8 B7 px7 HP7
            have aa := (Below.refl w8.heap.size w8).alloc (Nat.le_refl _) (.cells #[.int .i64 pg, .bool fr, .slice Az rs.length cz] 37)
            have B9 := Lib.hid (B8.out.trans (aa.mono B8.out.size))
            have px9 := Lib.hid (px8.out.on aa)
            have p9 := Lib.hid (Whole.made w8 37 #[.int .i64 pg, .bool fr, .slice Az rs.length cz])
            have HZ9 := Lib.hid (hz.out.on aa)
            clear aa
            go_wp2_with fail
            refine (code8_any _ _).mono ?_
            rintro e w10 ⟨rfl, b10⟩
            have B10 := Lib.hid (B9.out.trans (b10.mono B9.out.size))
            have p10 := Lib.hid (p9.out.on b10)
            have px10 := Lib.hid (px9.out.on b10)
            have HZ10 := Lib.hid (HZ9.out.on b10)
            clear b10 B9 p9 px9 HZ9
            have hNi : (N : Int) = yb.length := by have := HNI.out; omega
            go_wp2_with (first
              | (refine wpList_load_rowg rfl _ _ rfl (w8.heap.size) rfl _ _ _ _ (p10.out) Try.underlying37 rfl (by kernel_rfl) ?_)
              | (refine wpList_load_rowg rfl _ _ rfl (w.heap.size) rfl _ _ _ _ (px10.out) Try.underlying37 rfl (by kernel_rfl) ?_))
            refine (RX.out _ _ B10.out HZ10.out).mono ?_
            rintro e w11 ⟨rfl, b11⟩
            have B11 := Lib.hid (B10.out.trans (b11.mono B10.out.size))
            clear b11
            go_wp2_with fail
            refine (LV.out _).mono ?_
            rintro e w12 ⟨rfl, b12⟩
            have B12 := Lib.hid (B11.out.trans (b12.mono B11.out.size))
            clear b12
            go_wp2
            go_ret
            exact ⟨rfl, B12.out⟩
          · have G2 := GB.out []
            rw [List.append_nil] at G2
            have CG2 := fun w' v (h : SV w' v (bys yb)) => get8_any v yb w' (by omega) h
            rw [G2] at CG2
            unfold pv at CG2
            simp only at CG2
            replace CG2 := Lib.hid CG2
            clear G2
            generalize getP (l ++ yb ++ [9]) = Z at CG
            obtain ⟨⟨zp, zf, zr⟩, zn, ze⟩ := Z
            simp only at CG
            refine CG.mono ?_
            rintro e w8 ⟨vz, rfl, hz, b8⟩
            clear CG
            have B8 := Lib.hid (B7.out.trans (b8.mono B7.out.size))
            have px8 := Lib.hid (px7.out.on b8)
            have O8 := Lib.hid (ownsRow_later HP7.out b8)
            replace hz := hz.rs
            obtain ⟨Az, cz, rfl, _⟩ := id hz
            replace hz := Lib.hid hz
            clear b8 B7 px7 HP7
            have aa := (Below.refl w8.heap.size w8).alloc (Nat.le_refl _) (.cells #[.int .i64 zp, .bool zf, .slice Az zr.length cz] 37)
            have B9 := Lib.hid (B8.out.trans (aa.mono B8.out.size))
            have px9 := Lib.hid (px8.out.on aa)
            have p9 := Lib.hid (Whole.made w8 37 #[.int .i64 zp, .bool zf, .slice Az zr.length cz])
            have S9 := (SV.own O8.out).keep (Keeps.below aa)
            have hgz := Lib.hid (show w.heap.size ≤ w8.heap.size from B8.out.size)
            have hpz := Lib.hid (Nat.ne_of_lt px8.out.lt)
            clear aa hz O8
            have hcut := fun w' => run_cut (P := Try.prog) (kd := .i64) (A := some ⟨gb, 0, none⟩) (n := N) (c := z) (k := l.length) Try.underlying32 (e := 5) (by kernel_rfl) (by omega) w'
            have scut := S9.cut l.length (by simp)
            rw [List.drop_left, HNY.out] at scut
            simp only [HNY.out] at hcut
            have SC := Lib.hid scut
            clear S9 scut
            generalize (if z = l.length then (some ⟨gb, 0, none⟩ : Option Addr) else (some ⟨gb, 0, none⟩ : Option Addr).map (·.add l.length)) = G at hcut SC
            go_wp2_with fail
            generalize w8.alloc (.cells #[.int .i64 zp, .bool zf, .slice Az zr.length cz] 37) = w9 at *
            generalize w8.heap.size = gz at *
            refine (CG2.out _ _ SC.out).mono ?_
            rintro e w13 ⟨vw, rfl, hw, b13⟩
            have B13 := B9.out.trans (b13.mono B9.out.size)
            have p13 := p9.out.on b13
            have px13 := px9.out.on b13
            have rw13 := hw.set p13
            obtain ⟨Aw, cw, rfl, _⟩ := id hw.rs
            have BS := Lib.hid (below_setRow B13 hgz.out #[.int .i64 pg, .bool fr, .slice Aw rs.length cw])
            have hbut : But gz w13 (w13.setRow gz #[.int .i64 pg, .bool fr, .slice Aw rs.length cw]) := ⟨rfl, rfl, rfl, by simp [World.setRow], fun j _ hne => setRow_other _ _ j _ (fun h => hne (by rw [h]))⟩
            have pxS := Lib.hid (px13.but hbut hpz.out)
            have pS := Lib.hid (show Whole (w13.setRow gz #[.int .i64 pg, .bool fr, .slice Aw rs.length cw]) gz 37 #[.int .i64 pg, .bool fr, .slice Aw rs.length cw] from setRow_heap _ _ _ _ _ _ p13)
            have rS := Lib.hid (rw13 #[.int .i64 pg, .bool fr, .slice Aw rs.length cw]).rs
            have P13 := Lib.hid p13
            clear B13 p13 px13 rw13 hw hbut b13 B9 p9 px9 SC hcut B8 px8
            go_wp2_with (refine wpList_store_row rfl _ _ _ rfl (gz) _ rfl rfl _ _ P13.out (by kernel_rfl) rfl (by simp [Value.oneCell']) ?_)
            have B9 := BS
            have p9 := pS
            have px9 := pxS
            have HZ9 := rS
            clear BS pS pxS rS P13
            generalize w13.setRow gz #[.int .i64 pg, .bool fr, .slice Aw rs.length cw] = w9 at *
            refine (code8_any _ _).mono ?_
            rintro e w10 ⟨rfl, b10⟩
            have B10 := Lib.hid (B9.out.trans (b10.mono B9.out.size))
            have p10 := Lib.hid (p9.out.on b10)
            have px10 := Lib.hid (px9.out.on b10)
            have HZ10 := Lib.hid (HZ9.out.on b10)
            clear b10 B9 p9 px9 HZ9
            have hNi := HNI.out
            go_wp2_with (first
              | (refine wpList_load_rowg rfl _ _ rfl (gz) rfl _ _ _ _ (p10.out) Try.underlying37 rfl (by kernel_rfl) ?_)
              | (refine wpList_load_rowg rfl _ _ rfl (w.heap.size) rfl _ _ _ _ (px10.out) Try.underlying37 rfl (by kernel_rfl) ?_))
            refine (RX.out _ _ B10.out HZ10.out).mono ?_
            rintro e w11 ⟨rfl, b11⟩
            have B11 := Lib.hid (B10.out.trans (b11.mono B10.out.size))
            clear b11
            go_wp2_with fail
            refine (LV.out _).mono ?_
            rintro e w12 ⟨rfl, b12⟩
            have B12 := Lib.hid (B11.out.trans (b12.mono B11.out.size))
            clear b12
            go_wp2
            go_ret
            exact ⟨rfl, B12.out⟩
end Go.Proofs.Ytafmggipmaofnaa
