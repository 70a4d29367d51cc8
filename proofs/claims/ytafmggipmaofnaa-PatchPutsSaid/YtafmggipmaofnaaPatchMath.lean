/- Layer 8: runs, what they make of a page, what two pages are unlike in. -/
import Derived.Test.YtafmggipmaofnaaPageMath
namespace Go.Proofs.Ytafmggipmaofnaa
set_option maxRecDepth 20000
open Go.RowKit

/-- A run: its place and its bytes. -/
structure Rn where
  p : Int
  d : List UInt8
deriving DecidableEq
/-- A run as a value. -/
def rv (D : Value) (r : Rn) : Value := .agg #[.int .i64 r.p, D]
def i64 (x : Int) : Prop := -9223372036854775808 ≤ x ∧ x ≤ 9223372036854775807
/-- Has the run a place? -/
def wthn (r : Rn) : Bool := decide (0 < r.d.length ∧ 12 ≤ r.p ∧ r.p + r.d.length ≤ 512)
/-- Is each within, and behind the end of the one ahead? -/
def okRuns : Int → List Rn → Bool
  | _, [] => true
  | b, r :: l => wthn r && decide (b < r.p) && okRuns (r.p + r.d.length) l
/-- What runs make of bytes, and the code. -/
def applyR : List UInt8 → List Rn → List UInt8 × Int
  | p, [] => (p, 0)
  | p, r :: l => if wthn r then applyR (putAt p r.p.toNat r.d) l else (z512, 2)

theorem wthn_iff (r : Rn) : wthn r = true ↔ 0 < r.d.length ∧ 12 ≤ r.p ∧ r.p + r.d.length ≤ 512 := by unfold wthn; exact decide_eq_true_iff
theorem wthn_no (r : Rn) : wthn r = false ↔ ¬ (0 < r.d.length ∧ 12 ≤ r.p ∧ r.p + r.d.length ≤ 512) := by unfold wthn; exact decide_eq_false_iff_not

/-- Behind the run ahead of place k. -/
def bh (l : List Rn) : Nat → Int
  | 0 => 0
  | k + 1 => match l[k]? with | some r => r.p + r.d.length | none => 0
theorem drop_at {l : List Rn} {k : Nat} {r : Rn} (h : l[k]? = some r) : l.drop k = r :: l.drop (k + 1) := by
  obtain ⟨hk, rfl⟩ := List.getElem?_eq_some_iff.1 h
  exact List.drop_eq_getElem_cons hk
theorem ok_step {l : List Rn} {k : Nat} {r : Rn} (h : l[k]? = some r) : okRuns (bh l k) (l.drop k) = (wthn r && decide (bh l k < r.p) && okRuns (bh l (k + 1)) (l.drop (k + 1))) := by
  have e : bh l (k + 1) = r.p + r.d.length := by simp only [bh, h]
  rw [drop_at h, e]
  rfl
theorem apply_step {l : List Rn} {k : Nat} {r : Rn} (p : List UInt8) (h : l[k]? = some r) : applyR p (l.drop k) = if wthn r then applyR (putAt p r.p.toNat r.d) (l.drop (k + 1)) else (z512, 2) := by
  rw [drop_at h]
  rfl
theorem bh_bd {l : List Rn} {k : Nat} (h : ∀ j r, j < k → l[j]? = some r → wthn r = true) : 0 ≤ bh l k ∧ bh l k ≤ 512 := by
  cases k with
  | zero => simp [bh]
  | succ k =>
    cases hr : l[k]? with
    | none => simp only [bh, hr]; omega
    | some r =>
      have := (wthn_iff r).1 (h k r (by omega) hr)
      simp only [bh, hr]
      omega
/-! The places at which two pages are unlike -/
def unlike (a b : List UInt8) (i : Nat) : Bool := decide (12 ≤ i ∧ a[i]? ≠ b[i]?)
def unlTo (a b : List UInt8) (n : Nat) : List Nat := (List.range n).filter (unlike a b)
theorem unlTo_succ (a b : List UInt8) (n : Nat) : unlTo a b (n + 1) = unlTo a b n ++ (if unlike a b n then [n] else []) := by
  unfold unlTo
  rw [List.range_succ, List.filter_append]
  congr 1
  simp only [List.filter_cons, List.filter_nil]
theorem unlTo_12 (a b : List UInt8) : unlTo a b 12 = [] := by
  unfold unlTo
  rw [List.filter_eq_nil_iff]
  intro i hi
  simp only [List.mem_range] at hi
  simp [unlike]
  intro h
  omega
theorem unlTo_len (a b : List UInt8) (n : Nat) : (unlTo a b n).length ≤ n := by
  have := List.length_filter_le (unlike a b) (List.range n)
  simpa [unlTo] using this
/-- Runs as places: from the first byte to behind the last one, the last run ahead. -/
def dstep : List (Nat × Nat) → Nat → List (Nat × Nat)
  | [], i => [(i, i + 1)]
  | (q, e) :: s, i => if e + 4 < i then (i, i + 1) :: (q, e) :: s else (q, i + 1) :: s
def dif (ps : List Nat) : List (Nat × Nat) := ps.foldl dstep []
theorem dif_snoc (ps : List Nat) (i : Nat) : dif (ps ++ [i]) = dstep (dif ps) i := by simp [dif]
def rnOf (b : List UInt8) (x : Nat × Nat) : Rn := ⟨x.1, midL b x.1 (x.2 - x.1)⟩
def runsOf (b : List UInt8) (s : List (Nat × Nat)) : List Rn := s.reverse.map (rnOf b)

/-- What is told of the runs up to a place. -/
structure Sok (s : List (Nat × Nat)) (n : Nat) : Prop where
  apart : s.Pairwise fun x y => y.2 + 4 < x.1
  within : ∀ x ∈ s, 12 ≤ x.1 ∧ x.1 < x.2 ∧ x.2 ≤ n
theorem Sok.nil (n : Nat) : Sok [] n := ⟨List.Pairwise.nil, fun x h => by cases h⟩
theorem Sok.more {s : List (Nat × Nat)} {n m : Nat} (h : Sok s n) (hm : n ≤ m) : Sok s m := ⟨h.apart, fun x hx => by have := h.within x hx; omega⟩
theorem Sok.step {s : List (Nat × Nat)} {n : Nat} (h : Sok s n) (h12 : 12 ≤ n) : Sok (dstep s n) (n + 1) := by
  cases s with
  | nil => exact ⟨List.pairwise_singleton _ _, fun x hx => by simp [dstep] at hx; subst hx; simp; omega⟩
  | cons y s =>
    obtain ⟨q, e⟩ := y
    have hy := h.within (q, e) (by simp)
    have hp := List.pairwise_cons.1 h.apart
    simp only at hy
    simp only [dstep]
    split
    · rename_i hlt
      refine ⟨List.pairwise_cons.2 ⟨fun x hx => ?_, h.apart⟩, fun x hx => ?_⟩
      · rcases List.mem_cons.1 hx with rfl | hx
        · exact hlt
        · have h1 := hp.1 x hx
          simp only at h1 ⊢
          omega
      · rcases List.mem_cons.1 hx with rfl | hx
        · simp; omega
        · have := h.within x hx; omega
    · refine ⟨List.pairwise_cons.2 ⟨fun x hx => hp.1 x hx, hp.2⟩, fun x hx => ?_⟩
      rcases List.mem_cons.1 hx with rfl | hx
      · simp; omega
      · have := h.within x (List.mem_cons_of_mem _ hx); omega
/-- Is a place in one of them? -/
def inAny (s : List (Nat × Nat)) (i : Nat) : Bool := s.any fun x => decide (x.1 ≤ i ∧ i < x.2)
theorem dstep_in {s : List (Nat × Nat)} {n : Nat} (h : Sok s n) (i : Nat) (hi : inAny s i = true ∨ i = n) : inAny (dstep s n) i = true := by
  unfold inAny at *
  cases s with
  | nil => rcases hi with hi | rfl <;> simp [dstep] at *
  | cons y s =>
    obtain ⟨q, e⟩ := y
    have hy := h.within (q, e) (by simp)
    simp only at hy
    simp only [dstep]
    split
    · rcases hi with hi | rfl
      · rw [List.any_cons, hi, Bool.or_true]
      · simp
    · rcases hi with hi | rfl
      · simp only [List.any_cons, Bool.or_eq_true, decide_eq_true_eq] at hi ⊢
        rcases hi with hi | hi
        · exact .inl (by omega)
        · exact .inr hi
      · simp only [List.any_cons, Bool.or_eq_true, decide_eq_true_eq]
        exact .inl (by omega)
theorem dif_ok (a b : List UInt8) : ∀ n, Sok (dif (unlTo a b n)) n ∧ ∀ i, i < n → unlike a b i = true → inAny (dif (unlTo a b n)) i = true
  | 0 => ⟨by simp [unlTo, dif]; exact Sok.nil 0, fun i hi => by omega⟩
  | n + 1 => by
    obtain ⟨h1, h2⟩ := dif_ok a b n
    rw [unlTo_succ]
    cases hu : unlike a b n with
    | false =>
      simp only [Bool.false_eq_true, if_false, List.append_nil]
      refine ⟨h1.more (Nat.le_succ n), fun i hi hun => ?_⟩
      refine h2 i ?_ hun
      rcases Nat.lt_or_ge i n with h | h
      · exact h
      · have : i = n := by omega
        subst this
        rw [hu] at hun
        cases hun
    | true =>
      simp only [if_true]
      rw [dif_snoc]
      have h12 : 12 ≤ n := by
        have := of_decide_eq_true hu
        exact this.1
      refine ⟨h1.step h12, fun i hi hun => dstep_in h1 i ?_⟩
      rcases Nat.lt_or_ge i n with h | h
      · exact .inl (h2 i h hun)
      · exact .inr (by omega)
theorem dstep_len (s : List (Nat × Nat)) (i : Nat) : (dstep s i).length ≤ s.length + 1 := by
  cases s with
  | nil => simp [dstep]
  | cons y s => simp only [dstep]; split <;> simp
theorem dif_len : ∀ (ps : List Nat), (dif ps).length ≤ ps.length := by
  intro ps
  have : ∀ (ps : List Nat) (s : List (Nat × Nat)), (ps.foldl dstep s).length ≤ s.length + ps.length := by
    intro ps
    induction ps with
    | nil => intro s; simp
    | cons i ps ih => intro s; have h1 := ih (dstep s i); have h2 := dstep_len s i; simp only [List.foldl_cons, List.length_cons]; omega
  simpa [dif] using this ps []

/-! Such runs may be, and lead from a to b -/
theorem mid_len' {b : List UInt8} {x : Nat × Nat} (hb : b.length = 512) (h : 12 ≤ x.1 ∧ x.1 < x.2 ∧ x.2 ≤ 512) : (rnOf b x).d.length = x.2 - x.1 := by
  unfold rnOf
  exact mid_len (by omega)
theorem ok_runs {b : List UInt8} (hb : b.length = 512) : ∀ (t : List (Nat × Nat)) (B : Int), (∀ x ∈ t, 12 ≤ x.1 ∧ x.1 < x.2 ∧ x.2 ≤ 512) → t.Pairwise (fun x y => x.2 + 4 < y.1) → (∀ x ∈ t, B < x.1) → okRuns B (t.map (rnOf b)) = true
  | [], _, _, _, _ => rfl
  | x :: t, B, h1, h2, h3 => by
    have hx := h1 x (by simp)
    have hp := List.pairwise_cons.1 h2
    have hl := mid_len' hb hx
    have hw : wthn (rnOf b x) = true := (wthn_iff _).2 ⟨by omega, by show (12 : Int) ≤ x.1; omega, by rw [hl]; show (x.1 : Int) + ((x.2 - x.1 : Nat) : Int) ≤ 512; omega⟩
    have hB : B < (rnOf b x).p := h3 x (by simp)
    simp only [List.map_cons, okRuns, hw, decide_eq_true hB, Bool.true_and]
    refine ok_runs hb t _ (fun y hy => h1 y (List.mem_cons_of_mem _ hy)) hp.2 fun y hy => ?_
    have := hp.1 y hy
    rw [hl]
    show (x.1 : Int) + ((x.2 - x.1 : Nat) : Int) < y.1
    omega
theorem apply_runs {b : List UInt8} (hb : b.length = 512) : ∀ (t : List (Nat × Nat)), (∀ x ∈ t, 12 ≤ x.1 ∧ x.1 < x.2 ∧ x.2 ≤ 512) → ∀ p : List UInt8, p.length = 512 →
    ∃ y, applyR p (t.map (rnOf b)) = (y, 0) ∧ y.length = 512 ∧ ∀ i, y[i]? = if inAny t i then b[i]? else p[i]?
  | [], _, p, hp => ⟨p, rfl, hp, fun i => by simp [inAny]⟩
  | x :: t, h1, p, hp => by
    have hx := h1 x (by simp)
    have hl := mid_len' hb hx
    have hw : wthn (rnOf b x) = true := (wthn_iff _).2 ⟨by omega, by show (12 : Int) ≤ x.1; omega, by rw [hl]; show (x.1 : Int) + ((x.2 - x.1 : Nat) : Int) ≤ 512; omega⟩
    have hpl : x.1 + (rnOf b x).d.length ≤ p.length := by rw [hl]; omega
    obtain ⟨y, e, hy, hi⟩ := apply_runs hb t (fun z hz => h1 z (List.mem_cons_of_mem _ hz)) (putAt p x.1 (rnOf b x).d) (by rw [putAt_len hpl]; exact hp)
    refine ⟨y, ?_, hy, fun i => ?_⟩
    · simp only [List.map_cons, applyR, hw, if_true]
      exact e
    · rw [hi, putAt_get hpl, hl]
      unfold inAny
      rw [List.any_cons]
      by_cases ht : (t.any fun x => decide (x.1 ≤ i ∧ i < x.2)) = true
      · rw [ht, Bool.or_true, if_pos rfl, if_pos rfl]
      · have ht' : (t.any fun x => decide (x.1 ≤ i ∧ i < x.2)) = false := by simpa using ht
        rw [ht', Bool.or_false]
        simp only [Bool.false_eq_true, if_false, decide_eq_true_eq]
        by_cases h2 : x.1 ≤ i ∧ i < x.2
        · rw [if_pos h2, if_neg (by omega), if_pos (by omega)]
          show (midL b x.1 (x.2 - x.1))[i - x.1]? = b[i]?
          rw [mid_get, if_pos (by omega)]
          congr 1
          omega
        · rw [if_neg h2]
          split
          · rfl
          · rw [if_neg (by omega)]

/-- What Diff tells. -/
def diffR (a b : List UInt8) : List Rn := runsOf b (dif (unlTo a b 512))
theorem diff_len (a b : List UInt8) : (diffR a b).length ≤ 500 := by
  unfold diffR runsOf
  rw [List.length_map, List.length_reverse]
  have h1 := dif_len (unlTo a b 512)
  have h2 : (unlTo a b 512).length ≤ 500 := by
    have e : ∀ k, (unlTo a b (12 + k)).length ≤ k := by
      intro k
      induction k with
      | zero => simp [unlTo_12]
      | succ k ih => rw [show 12 + (k + 1) = 12 + k + 1 by omega, unlTo_succ]; split <;> simp <;> omega
    exact e 500
  omega
theorem diff_ok {a b : List UInt8} (hb : b.length = 512) : okRuns 0 (diffR a b) = true := by
  obtain ⟨h1, _⟩ := dif_ok a b 512
  refine ok_runs hb _ 0 (fun x hx => h1.within x (List.mem_reverse.1 hx)) (List.pairwise_reverse.2 h1.apart) fun x hx => ?_
  have := h1.within x (List.mem_reverse.1 hx)
  omega
theorem diff_apply {a b : List UInt8} (ha : a.length = 512) (hb : b.length = 512) : ∃ y, applyR a (diffR a b) = (y, 0) ∧ y.length = 512 ∧ y.drop 12 = b.drop 12 ∧ y.take 12 = a.take 12 := by
  obtain ⟨h1, h2⟩ := dif_ok a b 512
  obtain ⟨y, e, hy, hi⟩ := apply_runs hb (dif (unlTo a b 512)).reverse (fun x hx => h1.within x (List.mem_reverse.1 hx)) a ha
  have hr : ∀ i, inAny (dif (unlTo a b 512)).reverse i = inAny (dif (unlTo a b 512)) i := fun i => by unfold inAny; rw [List.any_reverse]
  refine ⟨y, e, hy, ?_, ?_⟩
  · apply List.ext_getElem?
    intro j
    rw [List.getElem?_drop, List.getElem?_drop, hi, hr]
    split
    · rfl
    · rename_i hn
      by_cases hj : 12 + j < 512
      · by_cases hab : a[12 + j]? = b[12 + j]?
        · exact hab
        · exact absurd (h2 (12 + j) hj (decide_eq_true ⟨by omega, hab⟩)) hn
      · rw [List.getElem?_eq_none (by omega), List.getElem?_eq_none (by omega)]
  · apply List.ext_getElem?
    intro j
    rw [List.getElem?_take, List.getElem?_take]
    split
    · rw [hi, hr, if_neg]
      intro hin
      obtain ⟨x, hx, hd⟩ := List.any_eq_true.1 hin
      have := h1.within x hx
      have := of_decide_eq_true hd
      omega
    · rfl
theorem apply_len : ∀ (l : List Rn) (p : List UInt8), p.length = 512 → (applyR p l).1.length = 512
  | [], p, hp => hp
  | r :: l, p, hp => by
    unfold applyR
    split
    · rename_i h
      have := (wthn_iff r).1 h
      exact apply_len l _ (by rw [putAt_len (by omega)]; exact hp)
    · rfl
end Go.Proofs.Ytafmggipmaofnaa
