/- Plain facts on texts: their hash, which of them is a key, lists of them that rise (each once), and that what a sort with a compaction makes is the one such list. Nothing here speaks of the program. -/
import Derived.Sort.EncStr
import Derived.Lib.SlicesCompact
import Derived.Laws.Strings
import Derived.Lib.Hide
namespace Go.Proofs.YtlpgmmcdcjkkiaaDoor
set_option maxRecDepth 20000

/-- A hash with one byte more. -/
def hstep (h : Nat) (x : UInt8) : Nat := (h ^^^ x.toNat) * 16777619 % 4294967296
/-- The hash of a text. -/
def hashN (l : List UInt8) : Nat := l.foldl hstep 2166136261
theorem hstep_lt (h : Nat) (x : UInt8) : hstep h x < 4294967296 := Nat.mod_lt _ (by decide)
theorem fold_lt (l : List UInt8) : ∀ h : Nat, h < 4294967296 → l.foldl hstep h < 4294967296 := by
  induction l with
  | nil => intro h hh; exact hh
  | cons x l ih => intro h _; exact ih _ (hstep_lt h x)
theorem hashN_lt (l : List UInt8) : hashN l < 4294967296 := fold_lt l 2166136261 (by omega)
theorem fold_snoc (h : Nat) (l : List UInt8) (x : UInt8) : (l ++ [x]).foldl hstep h = hstep (l.foldl hstep h) x := by rw [List.foldl_append, List.foldl_cons, List.foldl_nil]
theorem hashN_snoc (l : List UInt8) (x : UInt8) : hashN (l ++ [x]) = hstep (hashN l) x := fold_snoc _ l x
theorem hashN_app (a b : List UInt8) : hashN (a ++ b) = b.foldl hstep (hashN a) := List.foldl_append
theorem hashN_a : hashN [97] = 3826002220 := by decide

/-- A byte that a key may have. -/
def fitB (x : UInt8) : Bool := decide (33 ≤ x.toNat) && decide (x.toNat ≤ 126)
/-- Bytes that a key may have, all of them. -/
def allFit (l : List UInt8) : Bool := l.all fitB
/-- A key. -/
def isKey (l : List UInt8) : Bool := allFit l && decide (0 < l.length) && decide (l.length ≤ 16)
theorem allFit_yes {l : List UInt8} (h : ∀ (j : Nat) (x : UInt8), l[j]? = some x → fitB x = true) : allFit l = true := by
  unfold allFit
  rw [List.all_eq_true]
  intro x hx
  obtain ⟨j, hj⟩ := List.getElem?_of_mem hx
  exact h j x hj
theorem allFit_no {l : List UInt8} {j : Nat} {x : UInt8} (h : l[j]? = some x) (hx : fitB x = false) : allFit l = false := by
  unfold allFit
  rw [List.all_eq_false]
  exact ⟨x, List.mem_of_getElem? h, by simp [hx]⟩

/-! ### Lists that rise -/
abbrev Rises (l : List (List UInt8)) : Prop := l.Pairwise (· < ·)
theorem lt_of_le_ne {x y : List UInt8} (h : x ≤ y) (k : x ≠ y) : x < y := by
  rcases Decidable.em (x < y) with h' | h'
  · exact h'
  · exact absurd (List.le_antisymm h (List.not_lt.1 h')) k
theorem bless_eq : ∀ (x y : List UInt8), Op.bytesLess x y = decide (x < y)
  | [], [] => by simp [Op.bytesLess]
  | _ :: _, [] => by simp [Op.bytesLess]
  | [], _ :: _ => by simp [Op.bytesLess]
  | a :: x, b :: y => by
    rw [Op.bytesLess, bless_eq x y]
    simp only [List.cons_lt_cons_iff]
    by_cases h1 : a < b <;> by_cases h2 : a = b <;> by_cases h3 : x < y <;> simp [h1, h2, h3]

theorem rises_one : ∀ (a b : List (List UInt8)), Rises a → Rises b → (∀ y, y ∈ a ↔ y ∈ b) → a = b
  | [], b, _, _, h => by
    cases b with
    | nil => rfl
    | cons y b => exact absurd ((h y).2 (by simp)) (by simp)
  | x :: a, [], _, _, h => absurd ((h x).1 (by simp)) (by simp)
  | x :: a, y :: b, ha, hb, h => by
    have ha' := List.pairwise_cons.1 ha
    have hb' := List.pairwise_cons.1 hb
    have hxy : x = y := by
      rcases List.mem_cons.1 ((h x).1 (by simp)) with e | e
      · exact e
      · rcases List.mem_cons.1 ((h y).2 (by simp)) with e' | e'
        · exact e'.symm
        · exact absurd (List.lt_trans (hb'.1 x e) (ha'.1 y e')) (List.lt_irrefl y)
    subst hxy
    rw [rises_one a b ha'.2 hb'.2]
    intro z
    constructor
    · intro hz
      rcases List.mem_cons.1 ((h z).1 (List.mem_cons_of_mem _ hz)) with e | e
      · subst e; exact absurd (ha'.1 z hz) (List.lt_irrefl z)
      · exact e
    · intro hz
      rcases List.mem_cons.1 ((h z).2 (List.mem_cons_of_mem _ hz)) with e | e
      · subst e; exact absurd (hb'.1 z hz) (List.lt_irrefl z)
      · exact e

/-- A text laid where it belongs. -/
theorem rises_put {out : List (List UInt8)} {x : List UInt8} {a : Nat} (h : Rises out) (ha : a ≤ out.length) (hlo : ∀ j y, j < a → out[j]? = some y → y < x) (hhi : ∀ y, out[a]? = some y → ¬ y < x) (hne : ∀ y, out[a]? = some y → y ≠ x) :
    Rises (out.take a ++ x :: out.drop a) := by
  have e : out = out.take a ++ out.drop a := (List.take_append_drop a out).symm
  have h1 : Rises (out.take a ++ out.drop a) := e ▸ h
  have h2 := List.pairwise_append.1 h1
  refine List.pairwise_append.2 ⟨h2.1, List.pairwise_cons.2 ⟨?_, h2.2.1⟩, ?_⟩
  · intro z hz
    have hlt : a < out.length := by
      rcases Nat.lt_or_ge a out.length with h' | h'
      · exact h'
      · rw [List.drop_of_length_le h'] at hz; cases hz
    have ed := List.drop_eq_getElem_cons hlt
    have hg : out[a]? = some out[a] := List.getElem?_eq_getElem hlt
    have hxy : x < out[a] := lt_of_le_ne (List.not_lt.1 (hhi _ hg)) (fun e => hne _ hg e.symm)
    rw [ed] at hz h2
    rcases List.mem_cons.1 hz with e' | e'
    · exact e' ▸ hxy
    · exact List.lt_trans hxy ((List.pairwise_cons.1 h2.2.1).1 z e')
  · intro y hy z hz
    obtain ⟨j, hj⟩ := List.getElem?_of_mem hy
    have hja : j < a := by
      have := (List.getElem?_eq_some_iff.1 hj).1
      simp at this; omega
    have hyx : y < x := hlo j y hja (by rwa [List.getElem?_take, if_pos hja] at hj)
    rcases List.mem_cons.1 hz with e' | e'
    · exact e' ▸ hyx
    · exact h2.2.2 y hy z e'
theorem mem_put {out : List (List UInt8)} {x : List UInt8} {a : Nat} (y : List UInt8) : y ∈ out.take a ++ x :: out.drop a ↔ y ∈ out ∨ y = x := by
  conv => rhs; rw [← List.take_append_drop a out]
  simp only [List.mem_append, List.mem_cons]
  constructor
  · rintro (h | h | h)
    · exact .inl (.inl h)
    · exact .inr h
    · exact .inl (.inr h)
  · rintro ((h | h) | h)
    · exact .inl h
    · exact .inr (.inr h)
    · exact .inr (.inl h)

/-- The texts of a list, each once, rising. -/
def once (l : List (List UInt8)) : List (List UInt8) := Lib.compact (l.mergeSort fun x y => decide (x ≤ y))

theorem compactUpTo_rises (d : Array (List UInt8)) (h : ∀ i j, i < j → j < d.size → d[i]! ≤ d[j]!) : ∀ m, m ≤ d.size → Rises (Lib.compactUpTo d m) ∧ ∀ y, y ∈ Lib.compactUpTo d m ↔ ∃ j, j < m ∧ d[j]! = y
  | 0, _ => by simp [Lib.compactUpTo]
  | m + 1, hm => by
    obtain ⟨ih1, ih2⟩ := compactUpTo_rises d h m (by omega)
    rw [Lib.compactUpTo_succ]
    by_cases hk : Lib.keeps d m = true
    · rw [if_pos hk]
      constructor
      · refine List.pairwise_append.2 ⟨ih1, by simp, ?_⟩
        intro y hy z hz
        have hz' : z = d[m]! := by simpa using hz
        subst hz'
        obtain ⟨j, hj, rfl⟩ := (ih2 y).1 hy
        have hne : d[m]! ≠ d[m - 1]! := by
          have : m = 0 ∨ d[m]! ≠ d[m - 1]! := by simpa [Lib.keeps] using hk
          rcases this with h0 | h0
          · omega
          · exact h0
        have h1 : d[m - 1]! < d[m]! := lt_of_le_ne (h (m - 1) m (by omega) (by omega)) (fun e => hne e.symm)
        rcases Nat.lt_or_ge j (m - 1) with hj' | hj'
        · exact List.lt_of_le_of_lt (h j (m - 1) hj' (by omega)) h1
        · have : j = m - 1 := by omega
          subst this
          exact h1
      · intro y
        rw [List.mem_append, ih2 y]
        constructor
        · rintro (⟨j, hj, e⟩ | e)
          · exact ⟨j, by omega, e⟩
          · exact ⟨m, by omega, (List.mem_singleton.1 e).symm⟩
        · rintro ⟨j, hj, e⟩
          rcases Nat.lt_or_ge j m with h' | h'
          · exact .inl ⟨j, h', e⟩
          · have : j = m := by omega
            subst this
            exact .inr (by simp [e])
    · have hk' : Lib.keeps d m = false := by simpa using hk
      rw [if_neg hk, List.append_nil]
      refine ⟨ih1, fun y => ?_⟩
      rw [ih2 y]
      have hm0 : ¬ (m = 0 ∨ d[m]! ≠ d[m - 1]!) := by
        unfold Lib.keeps at hk'
        exact of_decide_eq_false hk'
      have hm1 : 0 < m := by
        rcases Nat.eq_zero_or_pos m with h0 | h0
        · exact absurd (.inl h0) hm0
        · exact h0
      have he : d[m]! = d[m - 1]! := by
        rcases Decidable.em (d[m]! = d[m - 1]!) with h0 | h0
        · exact h0
        · exact absurd (.inr h0) hm0
      constructor
      · rintro ⟨j, hj, e⟩; exact ⟨j, by omega, e⟩
      · rintro ⟨j, hj, e⟩
        rcases Nat.lt_or_ge j m with h' | h'
        · exact ⟨j, h', e⟩
        · have : j = m := by omega
          subst this
          exact ⟨j - 1, by omega, he ▸ e⟩

theorem once_rises (l : List (List UInt8)) : Rises (once l) ∧ ∀ y, y ∈ once l ↔ y ∈ l := by
  have hp := List.pairwise_mergeSort (le := fun x y : List UInt8 => decide (x ≤ y)) (fun a b c h1 h2 => by simpa using List.le_trans (of_decide_eq_true h1) (of_decide_eq_true h2)) (fun a b => by simpa using List.le_total a b) l
  have hm : ∀ y, y ∈ l.mergeSort (fun x y => decide (x ≤ y)) ↔ y ∈ l := fun y => List.mem_mergeSort
  generalize hs : l.mergeSort (fun x y => decide (x ≤ y)) = s at hp hm
  have h : ∀ i j, i < j → j < s.toArray.size → s.toArray[i]! ≤ s.toArray[j]! := by
    intro i j hij hj
    have hj' : j < s.length := by simpa using hj
    have := List.pairwise_iff_getElem.1 hp i j (by omega) hj' hij
    have e1 : s.toArray[i]! = s[i] := by rw [getElem!_pos s.toArray i (by simp; omega)]; simp
    have e2 : s.toArray[j]! = s[j] := by rw [getElem!_pos s.toArray j (by simpa using hj')]; simp
    rw [e1, e2]
    exact of_decide_eq_true this
  obtain ⟨h1, h2⟩ := compactUpTo_rises s.toArray h s.length (by simp)
  unfold once
  rw [hs]
  refine ⟨h1, fun y => ?_⟩
  show y ∈ Lib.compactUpTo s.toArray s.length ↔ _
  rw [h2 y, ← hm y]
  constructor
  · rintro ⟨j, hj, e⟩
    rw [getElem!_pos s.toArray j (by simpa using hj)] at e
    rw [← e]
    simp
  · intro hy
    obtain ⟨j, hj, e⟩ := List.getElem_of_mem hy
    exact ⟨j, hj, by rw [getElem!_pos s.toArray j (by simpa using hj)]; simpa using e⟩
theorem once_is {l o : List (List UInt8)} (h : Rises o) (hm : ∀ y, y ∈ o ↔ y ∈ l) : o = once l :=
  rises_one _ _ h (once_rises l).1 fun y => by rw [hm y, (once_rises l).2 y]
theorem once_once (l : List (List UInt8)) : once (once l) = once l := (once_is (once_rises l).1 fun _ => Iff.rfl).symm
theorem rises_len : ∀ {o l : List (List UInt8)}, Rises o → (∀ y, y ∈ o → y ∈ l) → o.length ≤ l.length
  | [], _, _, _ => by simp
  | x :: o, l, h, hm => by
    have h' := List.pairwise_cons.1 h
    have hx : x ∈ l := hm x (by simp)
    have := rises_len (o := o) (l := l.erase x) h'.2 fun y hy => by
      have hne : y ≠ x := by rintro rfl; exact List.lt_irrefl y (h'.1 y hy)
      exact (List.mem_erase_of_ne hne).2 (hm y (by simp [hy]))
    have hl := List.length_erase_of_mem hx
    have hp := List.length_pos_of_mem hx
    simp only [List.length_cons]
    omega
end Go.Proofs.YtlpgmmcdcjkkiaaDoor
