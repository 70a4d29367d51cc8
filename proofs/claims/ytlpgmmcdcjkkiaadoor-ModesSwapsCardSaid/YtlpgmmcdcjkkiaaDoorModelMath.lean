/- Plain facts on states (pairs of keys and cells): which are right, what a key has in one, one in which a key has a cell, what an operation does. Nothing here speaks of the program. -/
import Derived.Test.YtlpgmmcdcjkkiaaDoorCellMath
import Derived.Test.YtlpgmmcdcjkkiaaDoorKeyMath
namespace Go.Proofs.YtlpgmmcdcjkkiaaDoor
set_option maxRecDepth 20000
open Go.RowKit

/-- A key, and what it has. -/
structure Pr where
  k : List UInt8
  c : Cl
/-- An operation. -/
structure Ox where
  d : Int
  k : List UInt8
  b : List UInt8
  lo : Int
  hi : Int
  n : Int
/-- What an operation tells. -/
structure An where
  e : Int
  c : Cl

/-! ### States -/
def okP (p : Pr) : Bool := isKey p.k && good p.c
def UpP (s : List Pr) : Prop := s.Pairwise fun p q => p.k < q.k
def okS8 (s : List Pr) : Bool := s.all okP
/-- Is it a state? One walk, the last key in hand. -/
def rightFrom : List UInt8 → List Pr → Bool
  | _, [] => true
  | l, p :: s => decide (l < p.k) && (okP p && rightFrom p.k s)
def rightM (s : List Pr) : Bool := rightFrom [] s
theorem key_ne {k : List UInt8} (h : isKey k = true) : [] < k := by
  cases k with
  | nil => simp [isKey] at h
  | cons x k => exact List.nil_lt_cons x k
theorem key_len {k : List UInt8} (h : isKey k = true) : k.length ≤ 16 := by
  simp [isKey] at h
  exact h.2
theorem lt_tr {a b c : List UInt8} (h : a < b) (k : b < c) : a < c := List.lt_trans h k
theorem rightFrom_iff : ∀ (s : List Pr) (l : List UInt8), rightFrom l s = true ↔ ((∀ p ∈ s, l < p.k) ∧ UpP s ∧ ∀ p ∈ s, okP p = true)
  | [], l => by simp [rightFrom, UpP]
  | p :: s, l => by
    have ih := rightFrom_iff s p.k
    simp only [rightFrom, Bool.and_eq_true, decide_eq_true_eq, UpP, List.pairwise_cons, List.mem_cons, forall_eq_or_imp] at ih ⊢
    rw [ih]
    constructor
    · rintro ⟨h1, h2, h3, h4, h5⟩
      exact ⟨⟨h1, fun q hq => lt_tr h1 (h3 q hq)⟩, ⟨h3, h4⟩, h2, h5⟩
    · rintro ⟨⟨h1, _⟩, ⟨h3, h4⟩, h2, h5⟩
      exact ⟨h1, h2, h3, h4, h5⟩
/-- A state: its keys rise, and each pair may be. -/
structure St (s : List Pr) : Prop where
  up : UpP s
  ok : ∀ p ∈ s, okP p = true
theorem right_iff (s : List Pr) : rightM s = true ↔ St s := by
  rw [rightM, rightFrom_iff]
  constructor
  · rintro ⟨_, h2, h3⟩; exact ⟨h2, h3⟩
  · rintro ⟨h2, h3⟩
    exact ⟨fun p hp => key_ne (by have := h3 p hp; simp [okP] at this; exact this.1), h2, h3⟩
theorem St.nil : St [] := ⟨List.Pairwise.nil, fun _ h => by cases h⟩
theorem St.key {s : List Pr} (h : St s) {p : Pr} (hp : p ∈ s) : isKey p.k = true := by
  have := h.ok p hp; simp [okP] at this; exact this.1
theorem St.good {s : List Pr} (h : St s) {p : Pr} (hp : p ∈ s) : good p.c = true := by
  have := h.ok p hp; simp [okP] at this; exact this.2
theorem good_len {c : Cl} (h : good c = true) : c.d.length ≤ 32 := by
  simp [Proofs.YtlpgmmcdcjkkiaaDoor.good] at h
  rcases h with h | h
  · omega
  · have := h.1.2; simp [this]
theorem good_kind {c : Cl} (h : good c = true) : c.k = 1 ∨ c.k = 2 := by
  simp [Proofs.YtlpgmmcdcjkkiaaDoor.good] at h
  rcases h with h | h
  · exact .inl h.1.1.1.1
  · exact .inr h.1.1

/-! ### What a key has -/
def fnd : List Pr → List UInt8 → Option Cl
  | [], _ => none
  | p :: s, k => if p.k = k then some p.c else fnd s k
def fndC (s : List Pr) (k : List UInt8) : Cl := (fnd s k).getD zeroC
theorem fnd_mem {s : List Pr} {k : List UInt8} {c : Cl} (h : fnd s k = some c) : ⟨k, c⟩ ∈ s := by
  induction s with
  | nil => cases h
  | cons p s ih =>
    unfold fnd at h
    split at h
    · rename_i e; injection h with h; subst h e; exact List.mem_cons_self
    · exact List.mem_cons_of_mem _ (ih h)
theorem fnd_none {s : List Pr} {k : List UInt8} (h : ∀ p ∈ s, p.k ≠ k) : fnd s k = none := by
  induction s with
  | nil => rfl
  | cons p s ih =>
    unfold fnd
    rw [if_neg (h p List.mem_cons_self)]
    exact ih fun q hq => h q (List.mem_cons_of_mem _ hq)
theorem fnd_skip {a b : List Pr} {k : List UInt8} (h : ∀ p ∈ a, p.k ≠ k) : fnd (a ++ b) k = fnd b k := by
  induction a with
  | nil => rfl
  | cons p s ih =>
    rw [List.cons_append, fnd, if_neg (h p List.mem_cons_self)]
    exact ih fun q hq => h q (List.mem_cons_of_mem _ hq)
theorem fnd_at {s : List Pr} {k : List UInt8} {j : Nat} {p : Pr} (hj : s[j]? = some p) (hp : p.k = k) (h : ∀ i q, i < j → s[i]? = some q → q.k ≠ k) : fnd s k = some p.c := by
  induction s generalizing j with
  | nil => cases hj
  | cons q s ih =>
    cases j with
    | zero => simp at hj; subst hj; simp [fnd, hp]
    | succ j =>
      rw [fnd, if_neg (h 0 q (by omega) rfl)]
      exact ih (by simpa using hj) fun i r hi hr => h (i + 1) r (by omega) (by simpa using hr)

/-! ### Where a key belongs -/
/-- How many pairs lie ahead of a key. -/
def lowP : List Pr → List UInt8 → Nat
  | [], _ => 0
  | p :: s, k => if p.k < k then lowP s k + 1 else 0
/-- Does the key lie there? -/
def hasP (s : List Pr) (k : List UInt8) : Bool := match s[lowP s k]? with
  | some p => p.k == k
  | none => false
def endP (s : List Pr) (k : List UInt8) : Nat := if hasP s k then lowP s k + 1 else lowP s k
theorem lowP_le : ∀ (s : List Pr) (k : List UInt8), lowP s k ≤ s.length
  | [], _ => Nat.le_refl _
  | p :: s, k => by
    have := lowP_le s k
    unfold lowP
    split
    · simp; omega
    · simp
theorem lowP_lt : ∀ (s : List Pr) (k : List UInt8) (j : Nat) (p : Pr), j < lowP s k → s[j]? = some p → p.k < k
  | [], _, j, p, _, h => by simp at h
  | q :: s, k, j, p, hj, h => by
    unfold lowP at hj
    split at hj
    · cases j with
      | zero => simp at h; subst h; assumption
      | succ j => exact lowP_lt s k j p (by omega) (by simpa using h)
    · omega
theorem lowP_at : ∀ (s : List Pr) (k : List UInt8) (p : Pr), s[lowP s k]? = some p → ¬ p.k < k
  | [], _, p, h => by simp at h
  | q :: s, k, p, h => by
    by_cases hq : q.k < k
    · rw [lowP, if_pos hq] at h
      exact lowP_at s k p (by simpa using h)
    · rw [lowP, if_neg hq] at h
      simp at h; subst h; exact hq
theorem up_get {s : List Pr} (h : UpP s) {i j : Nat} {p q : Pr} (hij : i < j) (hi : s[i]? = some p) (hj : s[j]? = some q) : p.k < q.k := by
  obtain ⟨h1, rfl⟩ := List.getElem?_eq_some_iff.1 hi
  obtain ⟨h2, rfl⟩ := List.getElem?_eq_some_iff.1 hj
  exact List.pairwise_iff_getElem.1 h i j h1 h2 hij
/-- Any place parts a list that rises as lowP does, if what lies ahead is less and what lies there is not. -/
theorem lowP_one {s : List Pr} {k : List UInt8} {a : Nat} (ha : a ≤ s.length) (h1 : ∀ j p, j < a → s[j]? = some p → p.k < k) (h2 : ∀ p, s[a]? = some p → ¬ p.k < k) : a = lowP s k := by
  rcases Nat.lt_trichotomy a (lowP s k) with hlt | he | hgt
  · have hl := lowP_le s k
    have hs : s[a]? = some s[a] := List.getElem?_eq_getElem (by omega)
    exact absurd (lowP_lt s k a _ hlt hs) (h2 _ hs)
  · exact he
  · have hs : s[lowP s k]? = some s[lowP s k] := List.getElem?_eq_getElem (by omega)
    exact absurd (h1 _ _ hgt hs) (lowP_at s k _ hs)
theorem not_lt_of_lt {a b : List UInt8} (h : a < b) : ¬ b < a := fun g => List.lt_irrefl _ (List.lt_trans h g)
theorem ne_of_lt' {a b : List UInt8} (h : a < b) : a ≠ b := fun e => List.lt_irrefl b (e ▸ h)
theorem fnd_low {s : List Pr} {k : List UInt8} (h : UpP s) : fnd s k = if hasP s k then (s[lowP s k]?).map (·.c) else none := by
  have hne : ∀ i q, i < lowP s k → s[i]? = some q → q.k ≠ k := fun i q hi hq => ne_of_lt' (lowP_lt s k i q hi hq)
  unfold hasP
  cases hs : s[lowP s k]? with
  | none =>
    simp only [Bool.false_eq_true, if_false]
    refine fnd_none fun p hp => ?_
    obtain ⟨j, hj⟩ := List.getElem?_of_mem hp
    refine hne j p ?_ hj
    have h1 := (List.getElem?_eq_some_iff.1 hj).1
    have h2 := List.getElem?_eq_none_iff.1 hs
    omega
  | some p =>
    simp only [Option.map_some]
    cases hk : p.k == k with
    | true => exact fnd_at hs (by simpa using hk) hne
    | false =>
      simp only [Bool.false_eq_true, if_false]
      refine fnd_none fun q hq => ?_
      obtain ⟨j, hj⟩ := List.getElem?_of_mem hq
      rcases Nat.lt_trichotomy j (lowP s k) with hlt | he | hgt
      · exact hne j q hlt hj
      · subst he; rw [hs] at hj; injection hj with hj; subst hj; simpa using hk
      · intro e
        have h3 := up_get h hgt hs hj
        have h4 := lowP_at s k p hs
        rw [e] at h3
        exact h4 h3

/-! ### A state in which a key has a cell -/
def one (k : List UInt8) (c : Cl) : List Pr := if c.k = 0 then [] else [⟨k, c⟩]
def putS (s : List Pr) (k : List UInt8) (c : Cl) : List Pr := s.take (lowP s k) ++ (one k c ++ s.drop (endP s k))
theorem one_len (k : List UInt8) (c : Cl) : (one k c).length ≤ 1 := by unfold one; split <;> simp
theorem endP_ge (s : List Pr) (k : List UInt8) : lowP s k ≤ endP s k := by unfold endP; split <;> omega
theorem hasP_lt {s : List Pr} {k : List UInt8} (h : hasP s k = true) : lowP s k < s.length := by
  unfold hasP at h
  cases hs : s[lowP s k]? with
  | none => rw [hs] at h; cases h
  | some p => exact (List.getElem?_eq_some_iff.1 hs).1
theorem endP_le (s : List Pr) (k : List UInt8) : endP s k ≤ s.length := by
  unfold endP
  split
  · rename_i h; have := hasP_lt h; omega
  · exact lowP_le s k
theorem put_len (s : List Pr) (k : List UInt8) (c : Cl) : (putS s k c).length ≤ s.length + 1 := by
  have h1 := one_len k c
  have h2 := endP_ge s k
  have h3 := lowP_le s k
  simp [putS]
  omega
theorem put_st {s : List Pr} (h : St s) {k : List UInt8} {c : Cl} (hk : isKey k = true) (hc : c.k = 0 ∨ good c = true) : St (putS s k c) := by
  have hsub : ∀ p ∈ s.take (lowP s k), p.k < k := fun p hp => by
    obtain ⟨j, hj⟩ := List.getElem?_of_mem hp
    have hlt : j < lowP s k := by have := (List.getElem?_eq_some_iff.1 hj).1; simp at this; omega
    rw [List.getElem?_take, if_pos hlt] at hj
    exact lowP_lt s k j p hlt hj
  have hsup : ∀ p ∈ s.drop (endP s k), k < p.k := fun p hp => by
    obtain ⟨j, hj⟩ := List.getElem?_of_mem hp
    rw [List.getElem?_drop] at hj
    have hlt := (List.getElem?_eq_some_iff.1 hj).1
    have hle := endP_ge s k
    have hs : s[lowP s k]? = some s[lowP s k] := List.getElem?_eq_getElem (by omega)
    have hn := lowP_at s k _ hs
    unfold endP at hj hlt
    split at hj
    · rename_i hh
      rw [if_pos hh] at hlt
      have := up_get h.up (by omega : lowP s k < lowP s k + 1 + j) hs hj
      unfold hasP at hh
      rw [hs] at hh
      simp at hh
      rwa [hh] at this
    · rename_i hh
      rw [if_neg hh] at hlt
      have hne : s[lowP s k].k ≠ k := by
        unfold hasP at hh
        rw [hs] at hh
        simpa using hh
      have h0 : k < s[lowP s k].k := lt_of_le_ne (List.not_lt.1 hn) (fun e => hne e.symm)
      cases j with
      | zero => simp at hj; rw [List.getElem?_eq_getElem (by omega)] at hj; injection hj with hj; rwa [hj] at h0
      | succ j => exact lt_tr h0 (up_get h.up (by omega : lowP s k < lowP s k + (j + 1)) hs hj)
  have hone : ∀ p ∈ one k c, p = ⟨k, c⟩ ∧ good c = true := fun p hp => by
    unfold one at hp
    split at hp
    · cases hp
    · rename_i h0
      simp at hp
      exact ⟨hp, hc.resolve_left h0⟩
  refine ⟨?_, fun p hp => ?_⟩
  · unfold putS UpP
    rw [List.pairwise_append, List.pairwise_append]
    refine ⟨List.Pairwise.sublist (List.take_sublist _ _) h.up, ⟨?_, List.Pairwise.sublist (List.drop_sublist _ _) h.up, ?_⟩, ?_⟩
    · unfold one; split <;> simp
    · intro p hp q hq
      rw [(hone p hp).1]
      exact hsup q hq
    · intro p hp q hq
      rcases List.mem_append.1 hq with hq | hq
      · rw [(hone q hq).1]; exact hsub p hp
      · exact lt_tr (hsub p hp) (hsup q hq)
  · unfold putS at hp
    rcases List.mem_append.1 hp with hp | hp
    · exact h.ok p (List.mem_of_mem_take hp)
    · rcases List.mem_append.1 hp with hp | hp
      · obtain ⟨rfl, hg⟩ := hone p hp
        simp [okP, hk, hg]
      · exact h.ok p (List.mem_of_mem_drop hp)

/-! ### Operations -/
def recC (x : Ox) : Cl := ⟨1, x.b, 0, 0, 0⟩
def cntC (x : Ox) : Cl := ⟨2, [], x.lo, x.hi, x.n⟩
/-- May its fields be? -/
def fitX (x : Ox) : Bool := if x.d = 1 then decide (x.b.length ≤ 32) else if x.d = 2 then inB x.lo x.hi x.n else decide (x.d < 4) || decide (0 ≤ x.n)
def goodX (x : Ox) : Bool := decide (0 ≤ x.d) && decide (x.d ≤ 5) && isKey x.k && fitX x
def plainX (x : Ox) : Ox := ⟨x.d, x.k, if x.d = 1 then x.b else [], if x.d = 2 then x.lo else 0, if x.d = 2 then x.hi else 0, if x.d = 2 ∨ x.d = 4 ∨ x.d = 5 then x.n else 0⟩
/-- What the key has behind it, that had c (the zero cell: nothing), and the error. -/
def movX (c : Cl) (v : Int) : Cl × Int := if c.k = 0 then (zeroC, 5) else if c.k ≠ 2 then (zeroC, 6) else if inB c.lo c.hi v then (⟨2, [], c.lo, c.hi, v⟩, 0) else (zeroC, 8)
def mkX (c : Cl) (x : Ox) : Cl × Int :=
  if x.d = 0 then (if c.k = 0 then (zeroC, 5) else (c, 0))
  else if x.d = 1 then (if c.k = 2 then (zeroC, 6) else (recC x, 0))
  else if x.d = 2 then (if c.k = 0 then (cntC x, 0) else (zeroC, 7))
  else if x.d = 3 then (if c.k = 0 then (zeroC, 5) else (zeroC, 0))
  else movX c (if x.d = 5 then c.v - x.n else c.v + x.n)
def stepX (s : List Pr) (x : Ox) : List Pr × An :=
  if goodX x then
    if (mkX (fndC s x.k) x).2 ≠ 0 then (s, ⟨(mkX (fndC s x.k) x).2, zeroC⟩)
    else if x.d = 0 then (s, ⟨0, (mkX (fndC s x.k) x).1⟩)
    else (putS s x.k (mkX (fndC s x.k) x).1, ⟨0, zeroC⟩)
  else (s, ⟨1, zeroC⟩)
theorem fndC_ok {s : List Pr} (h : St s) (k : List UInt8) : fndC s k = zeroC ∨ good (fndC s k) = true := by
  unfold fndC
  cases hf : fnd s k with
  | none => exact .inl rfl
  | some c => exact .inr (h.good (fnd_mem hf))
theorem mk_ok {c : Cl} {x : Ox} (hx : goodX x = true) (hc : c = zeroC ∨ good c = true) : (mkX c x).1.k = 0 ∨ good (mkX c x).1 = true := by
  have hf : fitX x = true := by simp [goodX] at hx; exact hx.2
  unfold mkX
  unfold fitX at hf
  by_cases d0 : x.d = 0
  · simp only [d0, if_true]
    split
    · exact .inl rfl
    · rename_i hk
      exact .inr (hc.resolve_left fun e => hk (by rw [e]; rfl))
  · simp only [d0, if_false]
    by_cases d1 : x.d = 1
    · simp only [d1, if_true] at hf ⊢
      split
      · exact .inl rfl
      · refine .inr ?_
        simp at hf
        simp [Proofs.YtlpgmmcdcjkkiaaDoor.good, recC, hf]
    · simp only [d1, if_false] at hf ⊢
      by_cases d2 : x.d = 2
      · simp only [d2, if_true] at hf ⊢
        split
        · refine .inr ?_
          simp [Proofs.YtlpgmmcdcjkkiaaDoor.good, cntC, hf]
        · exact .inl rfl
      · simp only [d2, if_false] at hf ⊢
        by_cases d3 : x.d = 3
        · simp only [d3, if_true]
          split <;> exact .inl rfl
        · simp only [d3, if_false]
          generalize (if x.d = 5 then c.v - x.n else c.v + x.n) = v
          unfold movX
          split
          · exact .inl rfl
          · split
            · exact .inl rfl
            · split
              · rename_i hb
                refine .inr ?_
                simp [Proofs.YtlpgmmcdcjkkiaaDoor.good, hb]
              · exact .inl rfl
theorem step_st {s : List Pr} (h : St s) (x : Ox) : St (stepX s x).1 := by
  unfold stepX
  split
  · rename_i hx
    split
    · exact h
    · rename_i h0
      split
      · exact h
      · refine put_st h (by simp [goodX] at hx; exact hx.1.2) (mk_ok hx (fndC_ok h _))
  · exact h
theorem step_len (s : List Pr) (x : Ox) : (stepX s x).1.length ≤ s.length + 1 := by
  unfold stepX
  split
  · split
    · simp
    · split
      · simp
      · exact put_len _ _ _
  · simp
theorem mk_plain (c : Cl) (x : Ox) (hx : goodX x = true) : mkX c (plainX x) = mkX c x := by
  have h05 : 0 ≤ x.d ∧ x.d ≤ 5 := by simp [goodX] at hx; exact hx.1.1
  unfold mkX
  have hd : (plainX x).d = x.d := rfl
  rw [hd]
  by_cases d0 : x.d = 0
  · simp only [d0, if_true]
  · by_cases d1 : x.d = 1
    · simp [d1, recC, plainX]
    · by_cases d2 : x.d = 2
      · simp [d2, cntC, plainX]
      · by_cases d3 : x.d = 3
        · simp [d3]
        · simp only [d0, d1, d2, d3, if_false]
          by_cases d4 : x.d = 4
          · simp [plainX, d4]
          · by_cases d5 : x.d = 5
            · simp [plainX, d5]
            · omega
theorem good_plain (x : Ox) : goodX (plainX x) = goodX x := by
  unfold goodX fitX
  simp only [plainX]
  by_cases d1 : x.d = 1
  · simp [d1]
  · by_cases d2 : x.d = 2
    · simp [d2]
    · by_cases d4 : x.d = 4
      · simp [d4]
      · by_cases d5 : x.d = 5
        · simp [d5]
        · simp only [d1, d2, d4, d5, if_false, or_self]
          by_cases h4 : x.d < 4
          · simp [h4]; rfl
          · have : ¬ x.d ≤ 5 := by omega
            simp [this]
theorem step_plain (s : List Pr) (x : Ox) : stepX s (plainX x) = stepX s x := by
  unfold stepX
  rw [good_plain, show (plainX x).k = x.k from rfl, show (plainX x).d = x.d from rfl]
  by_cases hx : goodX x = true
  · rw [mk_plain _ _ hx]
  · simp only [hx]; rfl
/-- The states and the answers of operations, one behind the other. -/
def runX : List Pr → List Ox → List Pr
  | s, [] => s
  | s, x :: l => runX (stepX s x).1 l
theorem run_st : ∀ (l : List Ox) {s : List Pr}, St s → St (runX s l)
  | [], _, h => h
  | x :: l, _, h => run_st l (step_st h x)
theorem run_len : ∀ (l : List Ox) (s : List Pr), (runX s l).length ≤ s.length + l.length
  | [], s => by simp [runX]
  | x :: l, s => by
    have h1 := run_len l (stepX s x).1
    have h2 := step_len s x
    simp [runX]
    omega
theorem run_next (l : List Ox) (s : List Pr) (j : Nat) (x : Ox) (h : l[j]? = some x) : runX s (l.take (j + 1)) = (stepX (runX s (l.take j)) x).1 := by
  induction l generalizing s j with
  | nil => cases h
  | cons y l ih =>
    cases j with
    | zero => simp at h; subst h; simp [runX]
    | succ j =>
      have := ih (stepX s y).1 j (by simpa using h)
      simpa [runX] using this
end Go.Proofs.YtlpgmmcdcjkkiaaDoor
