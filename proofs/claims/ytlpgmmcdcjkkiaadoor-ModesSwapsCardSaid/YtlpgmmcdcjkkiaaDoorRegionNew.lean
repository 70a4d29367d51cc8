/- A region that draws its order and makes several variables of its own: they are different ones; and a tail whose operations wait for all of the head, if only by way of others. Nothing here speaks of the program. -/
import Derived.Test.YtlpgmmcdcjkkiaaDoorFacts
import Derived.Test.YtlpgmmcdcjkkiaaDoorArr
namespace Go.Proofs.YtlpgmmcdcjkkiaaDoor
set_option maxRecDepth 20000
open Go.RowKit Go.Sort

/-- The checks on the text. -/
def tailW (l : List Oper) (n : Nat) : Bool :=
  decide (n ≤ l.length) &&
  ((List.range n).all fun i => ((l[i]?).map fun o => o.after.all fun e => !Region.binds .any e || decide (e.on < i)).getD true) &&
  ((List.range l.length).all fun k => decide (k < n) || (List.range n).all fun i => (ups l k (List.range n).reverse []).contains i) &&
  Region.seqB .any l.toArray (l.length - n) n (Array.replicate n true ++ Array.replicate (l.length - n) false)
/-- What writes a slot of A makes a variable of a type of T; each slot of A is written. -/
def newsB (l : List Oper) (n : Nat) (A : List Tmp) (T : List TypeId) : Bool :=
  ((List.range n).all fun i => match l[i]? with
    | some o => (match o.dst with
      | some s => !A.contains s || (o.guard.isNone && match o.op with | .alloc t => T.contains t | _ => false)
      | none => true)
    | none => true) &&
  A.all fun s => (List.range n).any fun i => match l[i]? with | some o => o.dst == some s | none => false
/-- The slots of A hold different values. -/
def Differ (A : List Tmp) (a : Act) : Prop := ∀ s ∈ A, ∀ r ∈ A, s ≠ r → a.tmps.getD s undef ≠ a.tmps.getD r undef

section
variable {P : Program} {l : List Oper} {n : Nat} {A : List Tmp} {T : List TypeId} {listed : Array Bool} {a : Act} {w : World} {o : Oper} {i : Nat}
theorem news_at (h : newsB l n A T = true) (hi : i < n) (ho : l[i]? = some o) {s : Tmp} (hd : o.dst = some s) (hs : s ∈ A) : o.guard = none ∧ ∃ t ∈ T, o.op = .alloc t := by
  unfold newsB at h
  simp only [Bool.and_eq_true, List.all_eq_true, List.mem_range] at h
  have h1 := h.1 i hi
  rw [ho] at h1
  simp only [hd] at h1
  have h2 : A.contains s = true := by simpa using hs
  rw [h2] at h1
  simp only [Bool.not_true, Bool.false_or, Bool.and_eq_true, Option.isNone_iff_eq_none] at h1
  refine ⟨h1.1, ?_⟩
  have h3 := h1.2
  split at h3
  · rename_i t ht
    exact ⟨t, by simpa using h3, ht⟩
  · cases h3
theorem news_all (h : newsB l n A T = true) {s : Tmp} (hs : s ∈ A) : ∃ i o, i < n ∧ l[i]? = some o ∧ o.dst = some s := by
  unfold newsB at h
  simp only [Bool.and_eq_true, List.all_eq_true] at h
  obtain ⟨i, h1, h2⟩ := List.any_eq_true.1 (h.2 s hs)
  cases ho : l[i]? with
  | none => rw [ho] at h2; cases h2
  | some o => rw [ho] at h2; exact ⟨i, o, List.mem_range.1 h1, ho, by simpa using h2⟩

def Out (l : List Oper) (n : Nat) (listed : Array Bool) (s : Tmp) : Prop := ∃ i o, i < n ∧ l[i]? = some o ∧ o.dst = some s ∧ listed.getD i false = true
/-- What is known of the slots of A that were written. -/
structure Known (l : List Oper) (n : Nat) (A : List Tmp) (listed : Array Bool) (a : Act) (w : World) : Prop where
  small : ∀ s ∈ A, s < a.tmps.size
  old : ∀ s ∈ A, Out l n listed s → ∃ g, a.tmps.getD s undef = .pointer (some ⟨g, 0, none⟩) ∧ g < w.heap.size
  two : ∀ s ∈ A, ∀ r ∈ A, s ≠ r → Out l n listed s → Out l n listed r → a.tmps.getD s undef ≠ a.tmps.getD r undef
theorem Known.start (hs : ∀ s ∈ A, s < a.tmps.size) (hl : ∀ i, listed.getD i false = false) : Known l n A listed a w :=
  ⟨hs, fun s _ ⟨i, o, _, _, _, h⟩ => (by rw [hl] at h; cases h), fun s _ r _ _ ⟨i, o, _, _, _, h⟩ => (by rw [hl] at h; cases h)⟩
theorem Known.differ (h : Known l n A listed a w) (hA : newsB l n A T = true) (hl : ∀ i, i < n → i < l.length → listed.getD i false = true) : Differ A a := fun s hs r hr hne => by
  have out : ∀ s ∈ A, Out l n listed s := fun s hs => by
    obtain ⟨i, o, h1, h2, h3⟩ := news_all hA hs
    exact ⟨i, o, h1, h2, h3, hl i h1 (List.getElem?_eq_some_iff.1 h2).1⟩
  exact h.two s hs r hr hne (out s hs) (out r hr)
theorem put_else {d : Option Tmp} {v : Value} {s : Tmp} (h : d ≠ some s) : (a.put d v).tmps.getD s undef = a.tmps.getD s undef := by
  cases d with
  | none => rfl
  | some d =>
    have : d ≠ s := fun e => h (by rw [e])
    simp only [Act.put, Array.getD_eq_getD_getElem?, Array.getElem?_setIfInBounds_ne this]
theorem put_size {d : Option Tmp} {v : Value} : (a.put d v).tmps.size = a.tmps.size := by cases d <;> simp [Act.put]
theorem put_own {v : Value} {s : Tmp} (h : s < a.tmps.size) : (a.put (some s) v).tmps.getD s undef = v := by simp [Act.put, h]
theorem out_back {r : Tmp} (ho : l[i]? = some o) (hd : o.dst ≠ some r) (h : Out l n (listed.setIfInBounds i true) r) : Out l n listed r := by
  obtain ⟨j, x, h1, h2, h3, h4⟩ := h
  have hji : j ≠ i := by rintro rfl; rw [ho] at h2; cases h2; exact hd h3
  rw [getD_set_ne false (Ne.symm hji)] at h4
  exact ⟨j, x, h1, h2, h3, h4⟩
theorem Known.more (h : Known l n A listed a w) {w' : World} {v : Value} (ho : l[i]? = some o) (hd : ∀ s ∈ A, o.dst ≠ some s) (hw : w.heap.size ≤ w'.heap.size) : Known l n A (listed.setIfInBounds i true) (a.put o.dst v) w' :=
  ⟨fun s hs => by rw [put_size]; exact h.small s hs, fun s hs hO => by
    obtain ⟨g, h1, h2⟩ := h.old s hs (out_back ho (hd s hs) hO)
    exact ⟨g, by rw [put_else (hd s hs)]; exact h1, by omega⟩, fun s hs r hr hne h1 h2 => by
    rw [put_else (hd s hs), put_else (hd r hr)]
    exact h.two s hs r hr hne (out_back ho (hd s hs) h1) (out_back ho (hd r hr) h2)⟩
theorem Known.skip (h : Known l n A listed a w) (hA : newsB l n A T = true) (hi : i < n) (ho : l[i]? = some o) (hg : o.guard = none → False) : Known l n A (listed.setIfInBounds i true) (a.put o.dst undef) w :=
  h.more ho (fun _ hs hd => hg (news_at hA hi ho hd hs).1) (Nat.le_refl _)
theorem wanted_free {ys : Nat → Option Bool} (h : o.guard = none) : Region.wanted o ys = true := by unfold Region.wanted; rw [h]
theorem opTo_and {R : Value → World → Prop} {S : Value → World → Prop} (h : opTo P o a w R) (hs : ∀ v w', R v w' → S v w') : opTo P o a w fun v w' => R v w' ∧ S v w' := by
  unfold opTo at h ⊢
  generalize (execOp a.eval o).run P w = r at *
  cases r with
  | ok m w' =>
    cases m <;> simp only [uponV] at h ⊢
    case value u => exact ⟨h, hs _ _ h⟩
    case skip => exact ⟨h, hs _ _ h⟩
    case enter f args => exact h.mono fun e w'' ⟨v, he, hv⟩ => ⟨v, he, hv, hs _ _ hv⟩
  | halt x w' => simp only [uponV] at h
theorem Known.step (h : Known l n A listed a w) (hA : newsB l n A T = true) (hz : ∀ t ∈ T, ∃ z, ∀ w, (zeroValue t).run P w = .ok z w) (hi : i < n) (ho : l[i]? = some o) {R : Value → World → Prop} (hR : opTo P o a w R) (hk : ∀ v w', R v w' → w.heap.size ≤ w'.heap.size) :
    opTo P o a w fun v w' => R v w' ∧ Known l n A (listed.setIfInBounds i true) (a.put o.dst v) w' := by
  by_cases hd : ∃ s ∈ A, o.dst = some s
  · obtain ⟨s, hs, hd⟩ := hd
    obtain ⟨_, t, ht, hop⟩ := news_at hA hi ho hd hs
    obtain ⟨z, hzt⟩ := hz t ht
    have hrun : (execOp a.eval o).run P w = .ok (.value (.pointer (some ⟨w.heap.size, 0, none⟩))) (w.alloc (.cells z.cells t)) := by
      unfold execOp
      simp only [hop, Sem.run_bind, Result.andThen_ok, Sem.run_pure, run_alloc_new hzt]
    unfold opTo at hR ⊢
    rw [hrun] at hR ⊢
    refine ⟨hR, fun s hs => by rw [put_size]; exact h.small s hs, fun r hr hO => ?_, fun r hr q hq hne h1 h2 => ?_⟩
    · by_cases hrs : r = s
      · subst hrs
        exact ⟨w.heap.size, by rw [hd, put_own (h.small r hr)], by simp⟩
      · have hne : o.dst ≠ some r := by rw [hd]; intro e; injection e with e; exact hrs e.symm
        obtain ⟨g, h1, h2⟩ := h.old r hr (out_back ho hne hO)
        exact ⟨g, by rw [put_else hne]; exact h1, by simp; omega⟩
    · by_cases hrs : r = s
      · subst hrs
        have hne' : o.dst ≠ some q := by rw [hd]; intro e; injection e with e; exact hne e
        obtain ⟨g, g1, g2⟩ := h.old q hq (out_back ho hne' h2)
        rw [put_else hne', hd, put_own (h.small r hr), g1]
        intro e
        simp at e
        try omega
      · by_cases hqs : q = s
        · subst hqs
          have hne' : o.dst ≠ some r := by rw [hd]; intro e; injection e with e; exact hrs e.symm
          obtain ⟨g, g1, g2⟩ := h.old r hr (out_back ho hne' h1)
          rw [put_else hne', hd, put_own (h.small q hq), g1]
          intro e
          simp at e
          try omega
        · have n1 : o.dst ≠ some r := by rw [hd]; intro e; injection e with e; exact hrs e.symm
          have n2 : o.dst ≠ some q := by rw [hd]; intro e; injection e with e; exact hqs e.symm
          rw [put_else n1, put_else n2]
          exact h.two r hr q hq hne (out_back ho n1 h1) (out_back ho n2 h2)
  · have hd' : ∀ s ∈ A, o.dst ≠ some s := fun s hs e => hd ⟨s, hs, e⟩
    exact opTo_and hR fun v w' hv => h.more ho hd' (hk v w' hv)
end

section
variable {P : Program} {l : List Oper} {n : Nat} {C : World → Prop} {D : List Tmp} {Q : Exit → Act → World → Prop}

theorem facts_new (hn : n ≤ l.length) (he : ∀ i o, i < n → l[i]? = some o → ∀ e ∈ o.after, Region.binds .any e = true → e.on < i)
    (ht : ∀ k, n ≤ k → k < l.length → ∀ i, i < n → i ∈ ups l k (List.range n).reverse [])
    (hq : Region.seqB .any l.toArray (l.length - n) n (Array.replicate n true ++ Array.replicate (l.length - n) false) = true)
    (hF : factsB l n [] D = true) {A : List Tmp} {T : List TypeId} (hA : newsB l n A T = true) (hz : ∀ t ∈ T, ∃ z, ∀ w, (zeroValue t).run P w = .ok z w) :
    ∀ (f : Nat) (r : List (Oper × Nat)) (listed : Array Bool) (a : Act) (w : World) (kn : Kn), r.length = f → Up l n r listed → C w → Known l n A listed a w → (∀ p ∈ kn, ∀ V, p.2 V w) →
      (∀ p ∈ kn, ∀ V w w', p.2 V w → Below w.heap.size w w' → p.2 V w') → (∀ p ∈ kn, ∀ V V', p.2 V = p.2 V') → (∀ p ∈ kn, p.1 ∈ D) →
      wpF P l.toArray C [] D (fun a w => Differ A a → wpList P l.toArray Q (l.drop n) a w) r (fun _ => a) kn → wpAny P .any l.toArray Q (f + (l.length - n)) listed a w := by
  unfold factsB at hF
  simp only [Bool.and_eq_true, List.all_eq_true, List.mem_range] at hF
  obtain ⟨⟨⟨hsel, hap⟩, hbars⟩, hlook⟩ := hF
  have hsel' := Region.noSelect_spec hsel
  intro f
  induction f with
  | zero =>
    intro r listed a w kn hr hU hC hJ hk _ _ _ h
    obtain rfl := List.eq_nil_of_length_eq_zero hr
    have e : listed = Array.replicate n true ++ Array.replicate (l.length - n) false := by
      apply Array.ext (by simp [hU.size]; omega)
      intro i h1 h2
      have hi : i < l.length := by rw [← hU.size]; exact h1
      by_cases hin : i < n
      · have := up_listed hU hi hin (by simp)
        simp only [Array.getD, h1, dite_true] at this
        simp [hin]
        exact this
      · have := hU.tail i (by omega) hi
        simp only [Array.getD, h1, dite_true] at this
        simp [Array.getElem_append, hin]
        exact this
    rw [e]
    have := wpAny_of_seq (md := .any) (ops := l.toArray) (Q' := Q) (P := P) (l.drop n) n (Array.replicate n true ++ Array.replicate (l.length - n) false) a w (fun j => by simp [List.getElem?_drop]) (by simpa using hq)
      (h (fun _ => undef) w hC (fun p hp => hk p hp _) (hJ.differ hA fun i hi hil => up_listed hU hil hi (by simp)))
    simpa using this
  | succ f ih =>
    intro r listed a w kn hr hU hC hJ hk hst hco hkd h
    rw [show f + 1 + (l.length - n) = (f + (l.length - n)) + 1 by omega]
    -- the first of those that are left may come up
    obtain ⟨⟨x0, j0⟩, r', rfl⟩ : ∃ q r', r = q :: r' := by cases r with | nil => cases hr | cons q r' => exact ⟨q, r', rfl⟩
    obtain ⟨hj0, hx0, hl0⟩ := (hU.mem x0 j0).1 List.mem_cons_self
    have hready0 : j0 ∈ Region.ready .any l.toArray listed := by
      refine mem_ready.2 ⟨hl0, x0, by simpa using hx0, fun e hem hb => ?_⟩
      have h1 := he j0 x0 hj0 hx0 e hem hb
      refine up_listed hU (by omega) (by omega) fun y hy => ?_
      rcases List.mem_cons.1 hy with hy | hy
      · injection hy with _ hy; omega
      · have := (List.pairwise_cons.1 hU.order).1 _ hy
        simp only at this
        omega
    refine ⟨fun h0 => (by rw [h0] at hready0; cases hready0), fun i hi => ?_⟩
    obtain ⟨hun, o, ho, hall⟩ := mem_ready.1 hi
    have ho' : l[i]? = some o := by simpa using ho
    have hil : i < l.length := (List.getElem?_eq_some_iff.1 ho').1
    have hin : i < n := by
      rcases Nat.lt_or_ge i n with h' | h'
      · exact h'
      · exfalso
        have h1 := ups_listed hU.closed ho' hall _ [] (fun u hu => by cases hu) j0 (ht i h' hil j0 hj0)
        rw [getD_same (by rw [hU.size]; omega) true false] at hl0
        rw [hl0] at h1; cases h1
    have hmem : (o, i) ∈ (x0, j0) :: r' := (hU.mem o i).2 ⟨hin, ho', hun⟩
    obtain ⟨pre, post, hsplit⟩ := List.append_of_mem hmem
    rw [hsplit] at h hU hr
    have hord := List.pairwise_append.1 hU.order
    have hpre : ∀ q ∈ pre, q.2 < i := fun q hqm => hord.2.2 q hqm (o, i) List.mem_cons_self
    have hpost : ∀ q ∈ post, i < q.2 := fun q hqm => (List.pairwise_cons.1 hord.2.1).1 q hqm
    have hin_pre : ∀ q ∈ pre, q.2 < n ∧ l[q.2]? = some q.1 ∧ listed.getD q.2 true = false := fun q hqm => (hU.mem q.1 q.2).1 (List.mem_append_left _ hqm)
    have hlo : ∀ t ∈ o.looksAt l.toArray, t < 1000000 := fun t htm => by
      have h1 := hlook o (List.mem_of_getElem? (i := i) (by rw [List.getElem?_take, if_pos hin]; exact ho'))
      simpa using h1 t htm
    have hunl : ∀ q ∈ pre, ∀ e ∈ o.after, Region.binds .any e = true → e.on ≠ q.2 := fun q hqm e hem hb hon => by
      have h1 := hall e hem hb
      obtain ⟨g1, g2, g3⟩ := hin_pre q hqm
      rw [hon, getD_same (by rw [hU.size]; omega) false true, g3] at h1
      cases h1
    have take := wpF_take (P := P) (C := C) (bars := []) (D := D) (fun cs b => hsel' i o cs b ho) hlo h
      (fun q hqm => by rcases List.mem_append.1 hqm with h' | h'
                       · exact Nat.ne_of_lt (hpre q h')
                       · exact Nat.ne_of_gt (hpost q h'))
      ⟨fun _ _ => rfl, fun p hp V v => hco p hp _ _⟩
      (fun q hqm => by
        obtain ⟨g1, g2, g3⟩ := hin_pre q hqm
        refine ⟨?_, fun cs b => hsel' q.2 q.1 cs b (by simpa using g2), ?_⟩
        · have h1 := hap i hin q.2 (hpre q hqm)
          rw [ho', g2] at h1
          simp only [Bool.or_eq_true] at h1
          rcases h1 with h1 | h1
          · obtain ⟨e, hem, hb, hon⟩ := edge_of h1
            exact absurd hon (hunl q hqm e hem hb)
          · exact h1
        · intro hb
          have h1 := hbars q.2 hb
          unfold barB at h1
          simp only [Bool.and_eq_true, List.all_eq_true, List.mem_range, Bool.or_eq_true, decide_eq_true_eq] at h1
          have hB : ∀ k, k < n → q.2 < k → ∀ o, l[k]? = some o → ∃ e ∈ o.after, Region.binds .any e = true ∧ q.2 ≤ e.on := fun k hkn hlt o hk' => by
            have h2 := h1.1.2 k hkn
            rw [hk'] at h2
            rcases h2 with h2 | h2
            · omega
            · obtain ⟨e, g1, g2⟩ := Array.any_eq_true'.1 (by simpa only [Option.map_some, Option.getD_some] using h2)
              simp only [Bool.and_eq_true, decide_eq_true_eq] at g2
              exact ⟨e, g1, g2.1, g2.2⟩
          obtain ⟨e, hem, hbd, hle⟩ := hB i hin (hpre q hqm) o ho'
          have h3 := hall e hem hbd
          have h4 : listed.getD q.2 false = true := by
            rcases Nat.lt_or_ge q.2 e.on with h' | h'
            · exact bar_first hU.closed he hB hn e.on (by have := he i o hin ho' e hem hbd; omega) h' h3
            · have : e.on = q.2 := by omega
              exact this ▸ h3
          rw [getD_same (by rw [hU.size]; omega) false true, g3] at h4
          cases h4)
      hkd
      (fun hb q hqm d hd => by
        obtain ⟨g1, g2, g3⟩ := hin_pre q hqm
        have h1 := hbars i hb
        unfold barB at h1
        simp only [Bool.and_eq_true, List.all_eq_true, List.mem_range, Bool.or_eq_true, decide_eq_true_eq] at h1
        rcases h1.2 q.2 (hpre q hqm) with h2 | h2
        · have h3 := ups_listed hU.closed ho' hall _ [] (fun u hu => by cases hu) q.2 (by simpa using h2)
          rw [getD_same (by rw [hU.size]; omega) false true, g3] at h3
          cases h3
        · rw [g2] at h2
          have h4 := List.all_eq_true.1 (by simpa using h2 : D.all (fun d => !(q.1.looksAt l.toArray).contains d) = true) d hd
          simpa using h4)
    -- what is left behind it
    have hU' : Up l n (pre ++ post) (listed.setIfInBounds i true) := by
      refine ⟨by simp [hU.size], fun j h1 h2 => by rw [getD_set_ne true (by omega)]; exact hU.tail j h1 h2, fun x j => ?_, ?_, fun j x hx hl e hem hb => ?_⟩
      · have hne : ∀ q, q ∈ pre ++ post → q.2 ≠ i := fun q hqm => by
          rcases List.mem_append.1 hqm with h' | h'
          · exact Nat.ne_of_lt (hpre q h')
          · exact Nat.ne_of_gt (hpost q h')
        constructor
        · intro hm
          have hji := hne _ hm
          have hm' : (x, j) ∈ pre ++ (o, i) :: post := by
            rcases List.mem_append.1 hm with h' | h'
            · exact List.mem_append_left _ h'
            · exact List.mem_append_right _ (List.mem_cons_of_mem _ h')
          obtain ⟨g1, g2, g3⟩ := (hU.mem x j).1 hm'
          exact ⟨g1, g2, by rw [getD_set_ne true (Ne.symm hji)]; exact g3⟩
        · rintro ⟨g1, g2, g3⟩
          have hji : j ≠ i := by
            rintro rfl
            have : j < listed.size := by rw [hU.size]; omega
            simp [this] at g3
          rw [getD_set_ne true (Ne.symm hji)] at g3
          have hm := (hU.mem x j).2 ⟨g1, g2, g3⟩
          rcases List.mem_append.1 hm with h' | h'
          · exact List.mem_append_left _ h'
          · rcases List.mem_cons.1 h' with h' | h'
            · injection h' with _ h'; exact absurd h' hji
            · exact List.mem_append_right _ h'
      · refine List.pairwise_append.2 ⟨hord.1, (List.pairwise_cons.1 hord.2.1).2, fun p hp q hqm => hord.2.2 p hp q (List.mem_cons_of_mem _ hqm)⟩
      · by_cases hji : j = i
        · subst hji
          rw [ho'] at hx
          cases hx
          exact getD_set_true (hall e hem hb)
        · rw [getD_set_ne false (Ne.symm hji)] at hl
          exact getD_set_true (hU.closed j x hx hl e hem hb)
    have hlen : (pre ++ post).length = f := by simp at hr ⊢; omega
    unfold wpOp
    simp only [ho]
    rcases take with ⟨g1, g2⟩ | ⟨g1, F, m, keep, g2, g3, gd, g4, g5⟩
    · have := g1 fun _ => undef
      rw [if_neg (by rw [this]; exact Bool.false_ne_true)]
      exact ih _ _ _ _ kn hlen hU' hC (hJ.skip hA hin ho' fun hg => by rw [wanted_free hg] at this; cases this) hk hst hco hkd g2
    · have := g1 fun _ => undef
      rw [if_pos this]
      refine .inl (wp_of_to (hJ.step hA hz hin ho' (g4 (fun _ => undef) w hC fun p hp _ => hk p hp _) fun v w' h => (h.2.2 (by cases keep; exact absurd (g3 rfl) (by simp); rfl)).size) fun v w' ⟨⟨hFv, hC', hkp⟩, hJ'⟩ => ?_)
      have hsub : ∀ p ∈ addK m (keyOf (o, i)) (fun _ => F v) (if keep then kn else []), ((m = none ∧ p.1 = keyOf (o, i)) ∧ p.2 = fun _ => F v) ∨ (keep = true ∧ p ∈ kn) := fun p hp => by
        rcases mem_addK hp with ⟨h1, h2, h'⟩ | h'
        · exact .inl ⟨⟨h1, h2⟩, h'⟩
        · cases keep
          · cases h'
          · exact .inr ⟨rfl, h'⟩
      refine ih _ _ _ _ _ hlen hU' hC' hJ' (fun p hp V => ?_) (fun p hp V w1 w2 h1 h2 => ?_) (fun p hp V V' => ?_) (fun p hp => ?_) (g5 v w' hFv)
      · rcases hsub p hp with ⟨_, h'⟩ | ⟨hkt, h'⟩
        · rw [h']; exact hFv
        · exact hst p h' V w w' (hk p h' V) (hkp hkt)
      · rcases hsub p hp with ⟨_, h'⟩ | ⟨hkt, h'⟩
        · rw [h'] at h1 ⊢; exact g2 _ _ _ h1 h2
        · exact hst p h' V w1 w2 h1 h2
      · rcases hsub p hp with ⟨_, h'⟩ | ⟨hkt, h'⟩
        · rw [h']
        · exact hco p h' V V'
      · rcases hsub p hp with ⟨⟨h1, h'⟩, _⟩ | ⟨hkt, h'⟩
        · rw [h']; exact gd h1
        · exact hkd p h'

/-- **One walk in the order of the text serves every order**, facts and bars let in. -/
theorem wp_region_new {id : Nat} {a : Act} {w : World} (n : Nat) (A : List Tmp) (T : List TypeId) (D : List Tmp) (hm : P.follows .mixedOrders = true) (hT : tailW l n = true) (hF : factsB l n [] D = true) (hA : newsB l n A T = true) (hz : ∀ t ∈ T, ∃ z, ∀ w, (zeroValue t).run P w = .ok z w) (hs : (A.all fun s => decide (s < a.tmps.size)) = true) (hC : C { w with drawn := w.drawn + 1 })
    (h : wpF P l.toArray C [] D (fun a w => Differ A a → wpList P l.toArray Q (l.drop n) a w) (l.take n).zipIdx (fun _ => a) []) : (Code.region id l.toArray true).wp P Q a w := by
  unfold tailW at hT
  simp only [Bool.and_eq_true, decide_eq_true_eq] at hT
  obtain ⟨⟨⟨hn, he⟩, ht⟩, hq⟩ := hT
  refine wp_region_any hm ?_
  have hlen : (l.take n).zipIdx.length = n := by simp; omega
  have K := facts_new (P := P) (C := C) (D := D) (Q := Q) hn
    (fun i o hi ho e hem hb => by
      have := List.all_eq_true.1 he i (List.mem_range.2 hi)
      rw [ho] at this
      simp only [Option.map_some, Option.getD_some, Array.all_eq_true_iff_forall_mem] at this
      have h2 := this e hem
      simpa [hb] using h2)
    (fun k hk hkl i hi => by
      have h1 := List.all_eq_true.1 ht k (List.mem_range.2 hkl)
      simp only [Bool.or_eq_true, decide_eq_true_eq, List.all_eq_true, List.mem_range] at h1
      rcases h1 with h1 | h1
      · omega
      · simpa using h1 i hi)
    hq hF hA hz n (l.take n).zipIdx (Array.replicate l.length false) a { w with drawn := w.drawn + 1 } [] hlen
    ⟨by simp, fun j _ hj => by simp [hj], fun x j => by
        rw [List.mem_zipIdx_iff_getElem?]
        simp only [List.getElem?_take]
        constructor
        · intro h'
          split at h'
          · rename_i hj
            exact ⟨hj, h', by have := (List.getElem?_eq_some_iff.1 h').1; simp [this]⟩
          · cases h'
        · rintro ⟨g1, g2, _⟩
          rw [if_pos g1]; exact g2,
      by
        rw [List.pairwise_iff_getElem]
        intro i j hi hj hij
        simp only [List.getElem_zipIdx]
        omega,
      fun j x hx hl => by
        have := (List.getElem?_eq_some_iff.1 hx).1
        simp [this] at hl⟩
    hC (Known.start (fun s hs' => by simpa using List.all_eq_true.1 hs s hs') (fun i => by simp only [Array.getD_eq_getD_getElem?, Array.getElem?_replicate]; split <;> rfl)) (fun p hp => by cases hp) (fun p hp => by cases hp) (fun p hp => by cases hp) (fun p hp => by cases hp) h
  rw [show n + (l.length - n) = l.toArray.size by simp; omega] at K
  exact K
end
/-! An operation of two values in a walk, by its two equations: so the frame holds the very value, and what it guards is decided by looking. -/
section
variable {P : Program} {ops : Array Oper} {rest : List Oper} {o : Oper} {a : Act} {w : World} {Q : Exit → Act → World → Prop}
theorem wpList_bin (hw : Region.wanted o (yielded ops a.tmps) = true) (op : BinOp) (t r : TypeId) (s u : Operand) (ho : o.op = .binOp op t s u r) (x y v : Value) (hx : a.eval s = x) (hy : a.eval u = y)
    (hv : (binOp op t x y).run P w = .ok v w) (hg : (eqGuard op t s u x y).run P w = .ok () w) (h : wpList P ops Q rest (a.put o.dst v) w) : wpList P ops Q (o :: rest) a w :=
  wpList_step fun K hK => by
    rw [if_pos hw]
    unfold Oper.wp
    simp only [execOp, ho, hx, hy, hv, hg, Sem.run_bind, Result.andThen_ok, Sem.run_pure, Oper.upon]
    exact hK _ _ h
theorem run_neq_i (t : TypeId) (k : IntKind) (i j : Int) (b : Bool) (h : (i != j) = b) (w : World) : (binOp .neq t (.int k i) (.int k j)).run P w = .ok (.bool b) w := by
  subst h
  simp [binOp_neq]
theorem run_eql_i (t : TypeId) (k : IntKind) (i j : Int) (b : Bool) (h : (i == j) = b) (w : World) : (binOp .eql t (.int k i) (.int k j)).run P w = .ok (.bool b) w := by
  subst h
  simp [binOp_eql]
theorem guard_neq_i (t : TypeId) (s u : Operand) (k : IntKind) (i j : Int) (w : World) : (eqGuard .neq t s u (.int k i) (.int k j)).run P w = .ok () w := by
  simp [eqGuard]
theorem guard_eql_i (t : TypeId) (s u : Operand) (k : IntKind) (i j : Int) (w : World) : (eqGuard .eql t s u (.int k i) (.int k j)).run P w = .ok () w := by
  simp [eqGuard]
end
end Go.Proofs.YtlpgmmcdcjkkiaaDoor
