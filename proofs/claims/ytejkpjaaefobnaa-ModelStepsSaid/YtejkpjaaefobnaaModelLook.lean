/- Same, SameAnswer, Right: the program's. -/
import Derived.Test.YtejkpjaaefobnaaModelFind
namespace Go.Proofs.Ytejkpjaaefobnaa
set_option maxRecDepth 20000
open Go.RowKit Go.Sort

def eqP (p q : Pr) : Bool := p.k == q.k && sameC p.c q.c
def eqS : List Pr → List Pr → Bool
  | [], [] => true
  | p :: s, q :: t => eqP p q && eqS s t
  | _, _ => false
theorem eqS_len : ∀ (s t : List Pr), s.length ≠ t.length → eqS s t = false
  | [], [], h => by simp at h
  | [], _ :: _, _ => rfl
  | _ :: _, [], _ => rfl
  | p :: s, q :: t, h => by
    rw [eqS, eqS_len s t (by simpa using h), Bool.and_false]
theorem eqS_self : ∀ s : List Pr, eqS s s = true
  | [] => rfl
  | p :: s => by rw [eqS, eqS_self s]; simp [eqP, sameC_self]
theorem eqS_step : ∀ (s t : List Pr) (j : Nat) (p q : Pr), s[j]? = some p → t[j]? = some q → eqS (s.drop j) (t.drop j) = (eqP p q && eqS (s.drop (j + 1)) (t.drop (j + 1)))
  | s, t, j, p, q, hs, ht => by
    obtain ⟨h1, rfl⟩ := List.getElem?_eq_some_iff.1 hs
    obtain ⟨h2, rfl⟩ := List.getElem?_eq_some_iff.1 ht
    rw [List.drop_eq_getElem_cons h1, List.drop_eq_getElem_cons h2, eqS]
/-- A pair as a value, its data's slice written out. -/
def pv9 (p : Pr) (A : Option Addr) (c : Nat) : Value := .agg #[.string ⟨p.k.toArray⟩, .int .i64 p.c.k, .slice A p.c.d.length c, .int .i64 p.c.lo, .int .i64 p.c.hi, .int .i64 p.c.v]
theorem samePair_any (p q : Pr) (A B : Option Addr) (c d : Nat) (w : World) (hA : SV w (.slice A p.c.d.length c) (bys p.c.d)) (hB : SV w (.slice B q.c.d.length d) (bys q.c.d)) :
    Calls Try.prog 40 #[pv9 p A c, pv9 q B d] w fun e w' => e = .returned (.bool (eqP p q)) ∧ Below w.heap.size w w' := by
  have CS := Lib.hid (fun w' (h : Below w.heap.size w w') => csame_any _ _ p.c q.c w' (hA.keep (Keeps.below h)) (hB.keep (Keeps.below h)))
  clear hA hB
  unfold pv9
  unfold cv at CS
  by_cases hk : p.k = q.k
  · have e : eqP p q = sameC p.c q.c := by simp [eqP, hk]
    rw [e]
    rw [hk]
    clear hk e
    go_enter Try.func40, Try.ntmps40
    go_wp2_with (go_at_call 41; refine (CS.out _ (two_more (Below.refl _ _) _ _)).mono ?_; rintro e w1 ⟨rfl, b1⟩; replace b1 := Lib.hid b1)
    go_ret
    exact ⟨rfl, bthen (two_more (Below.refl _ _) _ _) b1.out⟩
  · have e : eqP p q = false := by simp [eqP, hk]
    rw [e]
    have hk2 : (p.k == q.k) = false := by simpa using hk
    clear CS e
    go_enter Try.func40, Try.ntmps40
    go_wp2
    go_ret
    exact ⟨rfl, two_more (Below.refl _ _) _ _⟩
/-- An answer as a value. -/
def av (D : Value) (a : An) : Value := .agg #[.int .i64 a.e, .int .i64 a.c.k, D, .int .i64 a.c.lo, .int .i64 a.c.hi, .int .i64 a.c.v]
def eqA (a b : An) : Bool := a.e == b.e && sameC a.c b.c
theorem sameAnswer9_any (a b : An) (A B : Option Addr) (c d : Nat) (w : World) (hA : SV w (.slice A a.c.d.length c) (bys a.c.d)) (hB : SV w (.slice B b.c.d.length d) (bys b.c.d)) :
    Calls Try.prog 27 #[av (.slice A a.c.d.length c) a, av (.slice B b.c.d.length d) b] w fun e w' => e = .returned (.bool (eqA a b)) ∧ Below w.heap.size w w' := by
  have CS := Lib.hid (fun w' (h : Below w.heap.size w w') => csame_any _ _ a.c b.c w' (hA.keep (Keeps.below h)) (hB.keep (Keeps.below h)))
  clear hA hB
  unfold av
  unfold cv at CS
  by_cases hk : a.e = b.e
  · have e : eqA a b = sameC a.c b.c := by simp [eqA, hk]
    rw [e]
    rw [hk]
    clear hk e
    go_enter Try.func27, Try.ntmps27
    go_wp2_with (go_at_call 41; refine (CS.out _ (two_more (Below.refl _ _) _ _)).mono ?_; rintro e w1 ⟨rfl, b1⟩; replace b1 := Lib.hid b1)
    go_ret
    exact ⟨rfl, bthen (two_more (Below.refl _ _) _ _) b1.out⟩
  · have e : eqA a b = false := by simp [eqA, hk]
    rw [e]
    have hk2 : (a.e == b.e) = false := by simpa using hk
    clear CS e
    go_enter Try.func27, Try.ntmps27
    go_wp2
    go_ret
    exact ⟨rfl, two_more (Below.refl _ _) _ _⟩
set_option maxHeartbeats 1000000 in
theorem equalFunc_any (v u : Value) (s t : List Pr) (w : World) (hv : PS w v s) (hu : PS w u t) :
    Calls Try.prog 39 #[v, u, .func (.func 40) #[] #[]] w fun e w' => e = .returned (.bool (eqS s t)) ∧ Below w.heap.size w w' := by
  obtain ⟨A, c, rfl, _⟩ := id hv
  obtain ⟨B, d, rfl, _⟩ := id hu
  have l3 := hv.bd
  have m3 := hu.bd
  have HV := Lib.hid hv
  have HU := Lib.hid hu
  clear hv hu
  by_cases hlen : s.length = t.length
  · have hne : ((s.length : Int) != (t.length : Int)) = false := by simp [hlen]
    go_enter Try.func39, Try.ntmps39
    go_wp2
    go_loopw [17] (fun i wr => ∃ j : Nat, j ≤ s.length ∧ i = .int .i64 j ∧ Hid (eqS s t = eqS (s.drop j) (t.drop j)) ∧ Hid (Below w.heap.size w wr)) (fun i _ => s.length - (intOf i).toNat)
    case atStart => exact ⟨0, by omega, rfl, Lib.hid (by simp), Lib.hid (Below.refl _ _)⟩
    case round =>
      obtain ⟨j, hj, rfl, hE, hB⟩ := hrel
      by_cases hlt : j < s.length
      · obtain ⟨b, off, p, Ad, cd, rfl, hp, c0, c1, c2, c3, c4, c5, hd⟩ := PS.at6 (HV.out.keep (Keeps.below hB.out)) hlt
        obtain ⟨b', off', q, Bd, ce, rfl, hq, e0, e1, e2, e3, e4, e5, he⟩ := PS.at6 (HU.out.keep (Keeps.below hB.out)) (k := j) (by omega)
        have SP := Lib.hid (fun w' (h : Below wr.heap.size wr w') => samePair_any p q Ad Bd cd ce w' (hd.keep (Keeps.below h)) (he.keep (Keeps.below h)))
        have hst := Lib.hid (eqS_step s t j p q hp hq)
        have hbl' := World.block_lt_of_cell? wr _ e0
        have hlt2 : j < t.length := by omega
        simp only at hbl'
        clear hd he hp hq
        unfold pv9 at SP
        cases hx : eqP p q with
        | true =>
          replace SP := SP.out
          rw [hx] at SP hst
          replace SP := Lib.hid SP
          clear hx
          go_wp2_with (go_at_call 40; refine (SP.out _ (two_more (Below.refl _ _) _ _)).mono ?_; rintro e w1 ⟨rfl, b1⟩; have B1 := Lib.hid (hB.out.trans ((bthen (two_more (Below.refl _ wr) _ _) b1).mono hB.out.size)); clear b1)
          go_roundw
          case rel => exact ⟨j + 1, by omega, by go_num, Lib.hid (by rw [hE.out, hst.out, Bool.true_and]), B1⟩
          case measure => simp [intOf]; omega
        | false =>
          replace SP := SP.out
          rw [hx] at SP hst
          replace SP := Lib.hid SP
          clear hx
          go_wp2_with (go_at_call 40; refine (SP.out _ (two_more (Below.refl _ _) _ _)).mono ?_; rintro e w1 ⟨rfl, b1⟩; have B1 := Lib.hid (hB.out.trans ((bthen (two_more (Below.refl _ wr) _ _) b1).mono hB.out.size)); clear b1)
          go_ret
          exact ⟨by rw [hE.out, hst.out, Bool.false_and]; rfl, B1.out⟩
      · obtain rfl : j = s.length := by omega
        have hy : eqS s t = true := by rw [hE.out, List.drop_length, hlen, List.drop_length]; rfl
        replace hy := Lib.hid hy
        go_wp2
        go_ret
        exact ⟨by rw [hy.out]; rfl, hB.out⟩
  · have hne : ((s.length : Int) != (t.length : Int)) = true := by simp; omega
    rw [eqS_len s t hlen]
    go_enter Try.func39, Try.ntmps39
    go_wp2
    go_ret
    exact ⟨rfl, Below.refl _ _⟩
theorem same9_any (v u : Value) (s t : List Pr) (w : World) (hv : PS w v s) (hu : PS w u t) :
    Calls Try.prog 26 #[v, u] w fun e w' => e = .returned (.bool (eqS s t)) ∧ Below w.heap.size w w' := by
  have CE := Lib.hid (equalFunc_any v u s t w hv hu)
  clear hv hu
  go_enter Try.func26, Try.ntmps26
  go_wp2_with fail
  refine CE.out.mono ?_
  rintro e w1 ⟨rfl, b1⟩
  go_wp2
  go_ret
  exact ⟨rfl, b1⟩
theorem run_leq_str {P : Program} (t : TypeId) (a b : List UInt8) (w : World) : (binOp .leq t (.string ⟨a.toArray⟩) (.string ⟨b.toArray⟩)).run P w = .ok (.bool (decide (¬ b < a))) w := by
  have h : binOp .leq t (.string ⟨a.toArray⟩) (.string ⟨b.toArray⟩) = pure (.bool (Op.bytesLess a b || a == b)) := by simp [binOp, Op.stringOp]
  rw [h, bless_eq]
  have e : (decide (a < b) || a == b) = decide (¬ b < a) := by
    by_cases h1 : a < b
    · simp [h1, not_lt_of_lt h1]
    · by_cases h2 : b < a
      · have : a ≠ b := fun e => List.lt_irrefl b (e ▸ h2)
        simp [h1, h2, this]
      · have : a = b := List.le_antisymm (List.not_lt.1 h2) (List.not_lt.1 h1)
        simp [this, List.lt_irrefl]
  rw [e]
  rfl
set_option maxHeartbeats 1000000 in
theorem right9_any (v : Value) (l : List Pr) (w : World) (hv : PS w v l) (hl : Small l) :
    Calls Try.prog 15 #[v] w fun e w' => e = .returned (.bool (rightM l)) ∧ Below w.heap.size w w' := by
  obtain ⟨A, c, rfl, _⟩ := id hv
  have l3 := hv.bd
  have HV := Lib.hid hv
  have HS := Lib.hid hl
  clear hv hl
  go_enter Try.func15, Try.ntmps15
  go_wp2
  go_loopw [3, 8] (fun last i wr => ∃ j x, j ≤ l.length ∧ i = .int .i64 (j : Nat) ∧ last = .string ⟨(x : List UInt8).toArray⟩ ∧ Hid (rightM l = rightFrom x (l.drop j)) ∧ Hid (Below w.heap.size w wr)) (fun _ i _ => l.length - (intOf i).toNat)
  case atStart => exact ⟨0, [], by omega, rfl, rfl, Lib.hid (by rw [List.drop_zero]; rfl), Lib.hid (Below.refl _ _)⟩
  case round =>
    obtain ⟨j, x, hj, rfl, rfl, hE, hB⟩ := hrel
    by_cases hlt : j < l.length
    · obtain ⟨b, off, p, Ad, cd, rfl, hp, c0, c1, c2, c3, c4, c5, hd⟩ := PS.at6 (HV.out.keep (Keeps.below hB.out)) hlt
      have hsm := HS.out p (List.mem_of_getElem? hp)
      have hdr : l.drop j = p :: l.drop (j + 1) := by
        obtain ⟨h1, rfl⟩ := List.getElem?_eq_some_iff.1 hp
        exact List.drop_eq_getElem_cons h1
      have hst : rightFrom x (l.drop j) = (decide (x < p.k) && (okP p && rightFrom p.k (l.drop (j + 1)))) := by rw [hdr, rightFrom]
      have CK := fun w => check_any ⟨p.k.toArray⟩ w (by show p.k.toArray.size ≤ _; simp; omega)
      have CC := fun w => check5_any Ad p.c.d.length cd p.c w rfl (by omega)
      rw [show (⟨p.k.toArray⟩ : ByteArray).data.toList = p.k from rfl] at CK
      clear hd hp hdr hsm
      unfold cv at CC
      by_cases hx : x < p.k
      · have hLE := fun w => run_leq_str (P := Try.prog) 9 p.k x w
        rw [decide_eq_false (fun h => h hx)] at hLE
        rw [decide_eq_true hx, Bool.true_and] at hst
        cases hk : isKey p.k with
        | false =>
          have e : rightM l = false := by rw [hE.out, hst]; simp [okP, hk]
          rw [ckI_no hk] at CK
          replace CK := Lib.hid CK
          replace e := Lib.hid e
          clear CC hk hx hst
          go_wp2_with (go_at_call 34; refine (CK.out _).mono ?_; rintro e w1 ⟨rfl, b1⟩; have B1 := Lib.hid ((hB.out.alloc hB.out.size _).trans (b1.mono (by have := hB.out.size; simp; omega))); clear b1)
          go_ret
          exact ⟨by rw [e.out]; rfl, B1.out⟩
        | true =>
          rw [ckI_yes hk] at CK
          replace CK := Lib.hid CK
          cases hg : good p.c with
          | false =>
            have e : rightM l = false := by rw [hE.out, hst]; simp [okP, hg]
            rw [ckC_no hg] at CC
            replace CC := Lib.hid CC
            replace e := Lib.hid e
            clear hk hx hst hg
            go_wp2_with (first
              | (go_at_call 34; refine (CK.out _).mono ?_; rintro e w1 ⟨rfl, b1⟩; have B1 := Lib.hid ((hB.out.alloc hB.out.size _).trans (b1.mono (by have := hB.out.size; simp; omega))); have y0 : (w1).cell? ⟨wr.heap.size, 0, none⟩ = some (.string ⟨p.k.toArray⟩) := (((Whole.made wr 54 #[.string ⟨p.k.toArray⟩, .int .i64 p.c.k, .slice Ad p.c.d.length cd, .int .i64 p.c.lo, .int .i64 p.c.hi, .int .i64 p.c.v]).on b1)).cell 0; have y1 : (w1).cell? ⟨wr.heap.size, 1, none⟩ = some (.int .i64 p.c.k) := (((Whole.made wr 54 #[.string ⟨p.k.toArray⟩, .int .i64 p.c.k, .slice Ad p.c.d.length cd, .int .i64 p.c.lo, .int .i64 p.c.hi, .int .i64 p.c.v]).on b1)).cell 1; have y2 : (w1).cell? ⟨wr.heap.size, 2, none⟩ = some (.slice Ad p.c.d.length cd) := (((Whole.made wr 54 #[.string ⟨p.k.toArray⟩, .int .i64 p.c.k, .slice Ad p.c.d.length cd, .int .i64 p.c.lo, .int .i64 p.c.hi, .int .i64 p.c.v]).on b1)).cell 2; have y3 : (w1).cell? ⟨wr.heap.size, 3, none⟩ = some (.int .i64 p.c.lo) := (((Whole.made wr 54 #[.string ⟨p.k.toArray⟩, .int .i64 p.c.k, .slice Ad p.c.d.length cd, .int .i64 p.c.lo, .int .i64 p.c.hi, .int .i64 p.c.v]).on b1)).cell 3; have y4 : (w1).cell? ⟨wr.heap.size, 4, none⟩ = some (.int .i64 p.c.hi) := (((Whole.made wr 54 #[.string ⟨p.k.toArray⟩, .int .i64 p.c.k, .slice Ad p.c.d.length cd, .int .i64 p.c.lo, .int .i64 p.c.hi, .int .i64 p.c.v]).on b1)).cell 4; have y5 : (w1).cell? ⟨wr.heap.size, 5, none⟩ = some (.int .i64 p.c.v) := (((Whole.made wr 54 #[.string ⟨p.k.toArray⟩, .int .i64 p.c.k, .slice Ad p.c.d.length cd, .int .i64 p.c.lo, .int .i64 p.c.hi, .int .i64 p.c.v]).on b1)).cell 5; clear b1)
              | (go_at_call 35; refine (CC.out _).mono ?_; rintro e w2 ⟨rfl, b2⟩; replace B1 := Lib.hid (B1.out.trans (b2.mono B1.out.size)); clear b2))
            go_ret
            exact ⟨by rw [e.out]; rfl, B1.out⟩
          | true =>
            have e : rightM l = rightFrom p.k (l.drop (j + 1)) := by rw [hE.out, hst]; simp [okP, hk, hg]
            rw [ckC_yes hg] at CC
            replace CC := Lib.hid CC
            replace e := Lib.hid e
            clear hk hx hst hg
            go_wp2_with (first
              | (go_at_call 34; refine (CK.out _).mono ?_; rintro e w1 ⟨rfl, b1⟩; have B1 := Lib.hid ((hB.out.alloc hB.out.size _).trans (b1.mono (by have := hB.out.size; simp; omega))); have W1 := Lib.hid ((Whole.made wr 54 #[.string ⟨p.k.toArray⟩, .int .i64 p.c.k, .slice Ad p.c.d.length cd, .int .i64 p.c.lo, .int .i64 p.c.hi, .int .i64 p.c.v]).on b1); have y0 : (w1).cell? ⟨wr.heap.size, 0, none⟩ = some (.string ⟨p.k.toArray⟩) := (W1.out).cell 0; have y1 : (w1).cell? ⟨wr.heap.size, 1, none⟩ = some (.int .i64 p.c.k) := (W1.out).cell 1; have y2 : (w1).cell? ⟨wr.heap.size, 2, none⟩ = some (.slice Ad p.c.d.length cd) := (W1.out).cell 2; have y3 : (w1).cell? ⟨wr.heap.size, 3, none⟩ = some (.int .i64 p.c.lo) := (W1.out).cell 3; have y4 : (w1).cell? ⟨wr.heap.size, 4, none⟩ = some (.int .i64 p.c.hi) := (W1.out).cell 4; have y5 : (w1).cell? ⟨wr.heap.size, 5, none⟩ = some (.int .i64 p.c.v) := (W1.out).cell 5; clear b1)
              | (go_at_call 35; refine (CC.out _).mono ?_; rintro e w2 ⟨rfl, b2⟩; replace B1 := Lib.hid (B1.out.trans (b2.mono B1.out.size)); have z0 : w2.cell? ⟨wr.heap.size, 0, none⟩ = some (.string ⟨p.k.toArray⟩) := (W1.out.on b2).cell 0; clear b2))
            go_roundw
            case rel => exact ⟨j + 1, p.k, by omega, by go_num, rfl, e, B1⟩
            case measure => simp [intOf]; omega
      · have hLE := fun w => run_leq_str (P := Try.prog) 9 p.k x w
        rw [decide_eq_true hx] at hLE
        have e : rightM l = false := by rw [hE.out, hst]; simp [hx]
        replace e := Lib.hid e
        clear CC CK hx hst
        go_wp2
        go_ret
        exact ⟨by rw [e.out]; rfl, hB.out.alloc hB.out.size _⟩
    · obtain rfl : j = l.length := by omega
      have hy : rightM l = true := by rw [hE.out, List.drop_length]; rfl
      replace hy := Lib.hid hy
      go_wp2
      go_ret
      exact ⟨by rw [hy.out]; rfl, hB.out⟩
end Go.Proofs.Ytejkpjaaefobnaa
