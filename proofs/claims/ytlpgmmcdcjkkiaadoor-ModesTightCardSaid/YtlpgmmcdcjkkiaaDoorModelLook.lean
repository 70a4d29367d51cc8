/- Same, SameAnswer, Right: the program's. -/
import Derived.Test.YtlpgmmcdcjkkiaaDoorModelFind
namespace Go.Proofs.YtlpgmmcdcjkkiaaDoor
set_option maxRecDepth 20000
open Go.RowKit Go.Sort

def eqP (p q : Pr) : Bool := p.k == q.k && sameC p.c q.c
def eqS : List Pr → List Pr → Bool
  | [], [] => true
  | p :: s, q :: t => eqP p q && eqS s t
  | _, _ => false
theorem eqS_len : ∀ (s t : List Pr), s.length ≠ t.length → eqS s t = false
  | [], [], h => by simp at h
  | [], _ :: _, _ => rfl
  | _ :: _, [], _ => rfl
  | p :: s, q :: t, h => by
    rw [eqS, eqS_len s t (by simpa using h), Bool.and_false]
theorem eqS_self : ∀ s : List Pr, eqS s s = true
  | [] => rfl
  | p :: s => by rw [eqS, eqS_self s]; simp [eqP, sameC_self]
theorem eqS_step : ∀ (s t : List Pr) (j : Nat) (p q : Pr), s[j]? = some p → t[j]? = some q → eqS (s.drop j) (t.drop j) = (eqP p q && eqS (s.drop (j + 1)) (t.drop (j + 1)))
  | s, t, j, p, q, hs, ht => by
    obtain ⟨h1, rfl⟩ := List.getElem?_eq_some_iff.1 hs
    obtain ⟨h2, rfl⟩ := List.getElem?_eq_some_iff.1 ht
    rw [List.drop_eq_getElem_cons h1, List.drop_eq_getElem_cons h2, eqS]
/-- A pair as a value, its data's slice written out. -/
def pv9 (p : Pr) (A : Option Addr) (c : Nat) : Value := .agg #[.string ⟨p.k.toArray⟩, .int .i64 p.c.k, .slice A p.c.d.length c, .int .i64 p.c.lo, .int .i64 p.c.hi, .int .i64 p.c.v]
theorem samePair_any (p q : Pr) (A B : Option Addr) (c d : Nat) (w : World) (hA : SV w (.slice A p.c.d.length c) (bys p.c.d)) (hB : SV w (.slice B q.c.d.length d) (bys q.c.d)) :
    Calls Tryd.prog 36 #[pv9 p A c, pv9 q B d] w fun e w' => e = .returned (.bool (eqP p q)) ∧ Below w.heap.size w w' := by
  have CS := Lib.hid (fun w' (h : Below w.heap.size w w') => csame_any _ _ p.c q.c w' (hA.keep (Keeps.below h)) (hB.keep (Keeps.below h)))
  clear hA hB
  unfold pv9
  unfold cv at CS
  by_cases hk : p.k = q.k
  · have e : eqP p q = sameC p.c q.c := by simp [eqP, hk]
    rw [e]
    rw [hk]
    clear hk e
    go_enter Tryd.func36, Tryd.ntmps36
    go_wp2_with (go_at_call 37; refine (CS.out _ (two_more (Below.refl _ _) _ _)).mono ?_; rintro e w1 ⟨rfl, b1⟩; replace b1 := Lib.hid b1)
    go_ret
    exact ⟨rfl, bthen (two_more (Below.refl _ _) _ _) b1.out⟩
  · have e : eqP p q = false := by simp [eqP, hk]
    rw [e]
    have hk2 : (p.k == q.k) = false := by simpa using hk
    clear CS e
    go_enter Tryd.func36, Tryd.ntmps36
    go_wp2
    go_ret
    exact ⟨rfl, two_more (Below.refl _ _) _ _⟩
/-- An answer as a value. -/
def av (D : Value) (a : An) : Value := .agg #[.int .i64 a.e, .int .i64 a.c.k, D, .int .i64 a.c.lo, .int .i64 a.c.hi, .int .i64 a.c.v]
def eqA (a b : An) : Bool := a.e == b.e && sameC a.c b.c
theorem sameAnswer9_any (a b : An) (A B : Option Addr) (c d : Nat) (w : World) (hA : SV w (.slice A a.c.d.length c) (bys a.c.d)) (hB : SV w (.slice B b.c.d.length d) (bys b.c.d)) :
    Calls Tryd.prog 29 #[av (.slice A a.c.d.length c) a, av (.slice B b.c.d.length d) b] w fun e w' => e = .returned (.bool (eqA a b)) ∧ Below w.heap.size w w' := by
  have CS := Lib.hid (fun w' (h : Below w.heap.size w w') => csame_any _ _ a.c b.c w' (hA.keep (Keeps.below h)) (hB.keep (Keeps.below h)))
  clear hA hB
  unfold av
  unfold cv at CS
  by_cases hk : a.e = b.e
  · have e : eqA a b = sameC a.c b.c := by simp [eqA, hk]
    rw [e]
    rw [hk]
    clear hk e
    go_enter Tryd.func29, Tryd.ntmps29
    go_wp2_with (go_at_call 37; refine (CS.out _ (two_more (Below.refl _ _) _ _)).mono ?_; rintro e w1 ⟨rfl, b1⟩; replace b1 := Lib.hid b1)
    go_ret
    exact ⟨rfl, bthen (two_more (Below.refl _ _) _ _) b1.out⟩
  · have e : eqA a b = false := by simp [eqA, hk]
    rw [e]
    have hk2 : (a.e == b.e) = false := by simpa using hk
    clear CS e
    go_enter Tryd.func29, Tryd.ntmps29
    go_wp2
    go_ret
    exact ⟨rfl, two_more (Below.refl _ _) _ _⟩
set_option maxHeartbeats 1000000 in
theorem equalFunc_any (v u : Value) (s t : List Pr) (w : World) (hv : PS w v s) (hu : PS w u t) :
    Calls Tryd.prog 35 #[v, u, .func (.func 36) #[] #[]] w fun e w' => e = .returned (.bool (eqS s t)) ∧ Below w.heap.size w w' := by
  obtain ⟨A, c, rfl, _⟩ := id hv
  obtain ⟨B, d, rfl, _⟩ := id hu
  have l3 := hv.bd
  have m3 := hu.bd
  have HV := Lib.hid hv
  have HU := Lib.hid hu
  clear hv hu
  by_cases hlen : s.length = t.length
  · have hne : ((s.length : Int) != (t.length : Int)) = false := by simp [hlen]
    go_enter Tryd.func35, Tryd.ntmps35
    go_wp2
    go_loopw [17] (fun i wr => ∃ j : Nat, j ≤ s.length ∧ i = .int .i64 j ∧ Hid (eqS s t = eqS (s.drop j) (t.drop j)) ∧ Hid (Below w.heap.size w wr)) (fun i _ => s.length - (intOf i).toNat)
    case atStart => exact ⟨0, by omega, rfl, Lib.hid (by simp), Lib.hid (Below.refl _ _)⟩
    case round =>
      obtain ⟨j, hj, rfl, hE, hB⟩ := hrel
      by_cases hlt : j < s.length
      · obtain ⟨b, off, p, Ad, cd, rfl, hp, c0, c1, c2, c3, c4, c5, hd⟩ := PS.at6 (HV.out.keep (Keeps.below hB.out)) hlt
        obtain ⟨b', off', q, Bd, ce, rfl, hq, e0, e1, e2, e3, e4, e5, he⟩ := PS.at6 (HU.out.keep (Keeps.below hB.out)) (k := j) (by omega)
        have SP := Lib.hid (fun w' (h : Below wr.heap.size wr w') => samePair_any p q Ad Bd cd ce w' (hd.keep (Keeps.below h)) (he.keep (Keeps.below h)))
        have hst := Lib.hid (eqS_step s t j p q hp hq)
        have hbl' := World.block_lt_of_cell? wr _ e0
        have hlt2 : j < t.length := by omega
        simp only at hbl'
        clear hd he hp hq
        unfold pv9 at SP
        cases hx : eqP p q with
        | true =>
          replace SP := SP.out
          rw [hx] at SP hst
          replace SP := Lib.hid SP
          clear hx
          go_wp2_with (go_at_call 36; refine (SP.out _ (two_more (Below.refl _ _) _ _)).mono ?_; rintro e w1 ⟨rfl, b1⟩; have B1 := Lib.hid (hB.out.trans ((bthen (two_more (Below.refl _ wr) _ _) b1).mono hB.out.size)); clear b1)
          go_roundw
          case rel => exact ⟨j + 1, by omega, by go_num, Lib.hid (by rw [hE.out, hst.out, Bool.true_and]), B1⟩
          case measure => simp [intOf]; omega
        | false =>
          replace SP := SP.out
          rw [hx] at SP hst
          replace SP := Lib.hid SP
          clear hx
          go_wp2_with (go_at_call 36; refine (SP.out _ (two_more (Below.refl _ _) _ _)).mono ?_; rintro e w1 ⟨rfl, b1⟩; have B1 := Lib.hid (hB.out.trans ((bthen (two_more (Below.refl _ wr) _ _) b1).mono hB.out.size)); clear b1)
          go_ret
          exact ⟨by rw [hE.out, hst.out, Bool.false_and]; rfl, B1.out⟩
      · obtain rfl : j = s.length := by omega
        have hy : eqS s t = true := by rw [hE.out, List.drop_length, hlen, List.drop_length]; rfl
        replace hy := Lib.hid hy
        go_wp2
        go_ret
        exact ⟨by rw [hy.out]; rfl, hB.out⟩
  · have hne : ((s.length : Int) != (t.length : Int)) = true := by simp; omega
    rw [eqS_len s t hlen]
    go_enter Tryd.func35, Tryd.ntmps35
    go_wp2
    go_ret
    exact ⟨rfl, Below.refl _ _⟩
theorem same9_any (v u : Value) (s t : List Pr) (w : World) (hv : PS w v s) (hu : PS w u t) :
    Calls Tryd.prog 28 #[v, u] w fun e w' => e = .returned (.bool (eqS s t)) ∧ Below w.heap.size w w' := by
  have CE := Lib.hid (equalFunc_any v u s t w hv hu)
  clear hv hu
  go_enter Tryd.func28, Tryd.ntmps28
  go_wp2_with fail
  refine CE.out.mono ?_
  rintro e w1 ⟨rfl, b1⟩
  go_wp2
  go_ret
  exact ⟨rfl, b1⟩
theorem run_leq_str {P : Program} (t : TypeId) (a b : List UInt8) (w : World) : (binOp .leq t (.string ⟨a.toArray⟩) (.string ⟨b.toArray⟩)).run P w = .ok (.bool (decide (¬ b < a))) w := by
  have h : binOp .leq t (.string ⟨a.toArray⟩) (.string ⟨b.toArray⟩) = pure (.bool (Op.bytesLess a b || a == b)) := by simp [binOp, Op.stringOp]
  rw [h, bless_eq]
  have e : (decide (a < b) || a == b) = decide (¬ b < a) := by
    by_cases h1 : a < b
    · simp [h1, not_lt_of_lt h1]
    · by_cases h2 : b < a
      · have : a ≠ b := fun e => List.lt_irrefl b (e ▸ h2)
        simp [h1, h2, this]
      · have : a = b := List.le_antisymm (List.not_lt.1 h2) (List.not_lt.1 h1)
        simp [this, List.lt_irrefl]
  rw [e]
  rfl
end Go.Proofs.YtlpgmmcdcjkkiaaDoor
