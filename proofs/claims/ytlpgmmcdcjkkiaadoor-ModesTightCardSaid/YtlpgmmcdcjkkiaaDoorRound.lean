/- A region that draws its order, walked by facts in a fence that lets all functions in: so in the round of a range over a function too, and with an operation of the tail that yields; a tail that waits for all of the head, if only by way of others, bars let in. Nothing here speaks of the program. -/
import Derived.Test.YtlpgmmcdcjkkiaaDoorRegionNew
import Derived.RangeFuncCalls
import Derived.OrdersIn
namespace Go.Proofs.YtlpgmmcdcjkkiaaDoor
set_option maxRecDepth 20000
open Go.RowKit Go.Sort

/-- A fence that lets all functions in, however deep. -/
structure WideF (F : Fence) : Prop where
  fn : ∀ f, F.fn f
  depth : F.depth = none
  calls : ∀ {m : Nat} {P : Program} {f : FuncId} {args : Array Value} {w : World} {R : Ending → World → Prop}, Calls P f args w R → CallsIn F m P f args w R
theorem wideF_wide : WideF Fence.wide := ⟨fun _ => trivial, rfl, fun h => callsIn_wide.2 h⟩
theorem wideF_round (l : Nat) : WideF (Fence.wide.inRound l) := ⟨fun _ => trivial, rfl, fun h => (callsIn_wide.2 h).inRound l⟩

/-- As tailW, but that an operation of the tail may wait by way of others of the tail. -/
def tailV (l : List Oper) (n : Nat) : Bool :=
  decide (n ≤ l.length) &&
  ((List.range n).all fun i => ((l[i]?).map fun o => o.after.all fun e => !Region.binds .any e || decide (e.on < i)).getD true) &&
  ((List.range l.length).all fun k => decide (k < n) || (List.range n).all fun i => (ups l k (List.range k).reverse []).contains i) &&
  Region.seqB .any l.toArray (l.length - n) n (Array.replicate n true ++ Array.replicate (l.length - n) false)
def noDefer (l : List Oper) : Bool := l.all fun o => match o.op with | .defer _ => false | _ => true
theorem noDefer_at {l : List Oper} (h : noDefer l = true) {i : Nat} {o : Oper} (ho : l[i]? = some o) : ∀ c, o.op ≠ .defer c := by
  intro c hc
  have := List.all_eq_true.1 h o (List.mem_of_getElem? ho)
  rw [hc] at this
  cases this

section
variable {P : Program} {F : Fence} {m : Nat}
theorem wpIn_of_to (hF : WideF F) {o : Oper} (hno : ∀ c, o.op ≠ .defer c) {a : Act} {w : World} {R : Value → World → Prop} {K : Act → World → Prop} {Q : Exit → Act → World → Prop} (h : opTo P o a w R) (hk : ∀ v w', R v w' → K (a.put o.dst v) w') : o.wpIn F m P a w K Q := by
  unfold Oper.wpIn
  refine ⟨fun f _ => hF.fn f, ?_⟩
  rw [Oper.semAt_eq _ _ _ hno]
  unfold opTo at h
  generalize (execOp a.eval o).run P w = r at *
  cases r with
  | ok n w' =>
    cases n <;> simp only [uponV] at h <;> simp only [Oper.uponIn]
    case value u => exact hk _ _ h
    case skip => exact hk _ _ h
    case enter f args =>
      refine ⟨fun hd => (by rw [hF.depth] at hd; cases hd), (hF.calls h).mono fun e w'' ⟨v, he, hr⟩ => ?_⟩
      subst he
      exact hk _ _ hr
  | halt x w' => simp only [uponV] at h
theorem wpAnyIn_of_seq (hF : WideF F) {md : Region.Mode} {ops : Array Oper} {Q' : Exit → Act → World → Prop} : ∀ (l : List Oper) (k : Nat) (listed : Array Bool) (a : Act) (w : World), (∀ j, l[j]? = ops[k + j]?) →
    Region.seqB md ops l.length k listed = true → wpListIn F m P ops Q' l a w → wpAnyIn F m P md ops Q' l.length listed a w
  | [], _, _, _, _, _, hB, h => ⟨by simpa [Region.seqB] using hB, h⟩
  | o :: l, k, listed, a, w, hl, hB, h => by
    have h0 : ops[k]? = some o := by simpa using (hl 0).symm
    simp only [List.length_cons, Region.seqB, Bool.and_eq_true, decide_eq_true_eq] at hB
    refine ⟨fun h1 => (by rw [hB.1] at h1; cases h1), fun i hi => ?_⟩
    rw [hB.1] at hi
    have hik : i = k := by simpa using hi
    subst hik
    have hw : wpOpIn F m P ops Q' i (wpListIn F m P ops Q' l) a w := by unfold wpOpIn; simp only [h0]; exact h
    exact wpOpIn_mono (fun a' w' h' => wpAnyIn_of_seq hF l (i + 1) _ a' w' (fun j => by have := hl (j + 1); simpa [Nat.add_assoc, Nat.add_comm 1 j] using this) hB.2 h') hw
end

section
variable {P : Program} {F : Fence} {m : Nat} {l : List Oper} {n : Nat} {C : World → Prop} {bars : List Nat} {D : List Tmp} {Q : Exit → Act → World → Prop}

theorem facts_in (hF0 : WideF F) (hnd : noDefer l = true) (hn : n ≤ l.length) (he : ∀ i o, i < n → l[i]? = some o → ∀ e ∈ o.after, Region.binds .any e = true → e.on < i)
    (ht : ∀ k, n ≤ k → k < l.length → ∀ i, i < n → i ∈ ups l k (List.range k).reverse [])
    (hq : Region.seqB .any l.toArray (l.length - n) n (Array.replicate n true ++ Array.replicate (l.length - n) false) = true)
    (hF : factsB l n bars D = true) :
    ∀ (f : Nat) (r : List (Oper × Nat)) (listed : Array Bool) (a : Act) (w : World) (kn : Kn), r.length = f → Up l n r listed → C w → (∀ p ∈ kn, ∀ V, p.2 V w) →
      (∀ p ∈ kn, ∀ V w w', p.2 V w → Below w.heap.size w w' → p.2 V w') → (∀ p ∈ kn, ∀ V V', p.2 V = p.2 V') → (∀ p ∈ kn, p.1 ∈ D) →
      wpF P l.toArray C bars D (fun a w => wpListIn F m P l.toArray Q (l.drop n) a w) r (fun _ => a) kn → wpAnyIn F m P .any l.toArray Q (f + (l.length - n)) listed a w := by
  unfold factsB at hF
  simp only [Bool.and_eq_true, List.all_eq_true, List.mem_range] at hF
  obtain ⟨⟨⟨hsel, hap⟩, hbars⟩, hlook⟩ := hF
  have hsel' := Region.noSelect_spec hsel
  intro f
  induction f with
  | zero =>
    intro r listed a w kn hr hU hC hk _ _ _ h
    obtain rfl := List.eq_nil_of_length_eq_zero hr
    have e : listed = Array.replicate n true ++ Array.replicate (l.length - n) false := by
      apply Array.ext (by simp [hU.size]; omega)
      intro i h1 h2
      have hi : i < l.length := by rw [← hU.size]; exact h1
      by_cases hin : i < n
      · have := up_listed hU hi hin (by simp)
        simp only [Array.getD, h1, dite_true] at this
        simp [hin]
        exact this
      · have := hU.tail i (by omega) hi
        simp only [Array.getD, h1, dite_true] at this
        simp [Array.getElem_append, hin]
        exact this
    rw [e]
    have := wpAnyIn_of_seq (F := F) (m := m) hF0 (md := .any) (ops := l.toArray) (Q' := Q) (P := P) (l.drop n) n (Array.replicate n true ++ Array.replicate (l.length - n) false) a w (fun j => by simp [List.getElem?_drop]) (by simpa using hq)
      (h (fun _ => undef) w hC fun p hp => hk p hp _)
    simpa using this
  | succ f ih =>
    intro r listed a w kn hr hU hC hk hst hco hkd h
    rw [show f + 1 + (l.length - n) = (f + (l.length - n)) + 1 by omega]
    -- the first of those that are left may come up
    obtain ⟨⟨x0, j0⟩, r', rfl⟩ : ∃ q r', r = q :: r' := by cases r with | nil => cases hr | cons q r' => exact ⟨q, r', rfl⟩
    obtain ⟨hj0, hx0, hl0⟩ := (hU.mem x0 j0).1 List.mem_cons_self
    have hready0 : j0 ∈ Region.ready .any l.toArray listed := by
      refine mem_ready.2 ⟨hl0, x0, by simpa using hx0, fun e hem hb => ?_⟩
      have h1 := he j0 x0 hj0 hx0 e hem hb
      refine up_listed hU (by omega) (by omega) fun y hy => ?_
      rcases List.mem_cons.1 hy with hy | hy
      · injection hy with _ hy; omega
      · have := (List.pairwise_cons.1 hU.order).1 _ hy
        simp only at this
        omega
    refine ⟨fun h0 => (by rw [h0] at hready0; cases hready0), fun i hi => ?_⟩
    obtain ⟨hun, o, ho, hall⟩ := mem_ready.1 hi
    have ho' : l[i]? = some o := by simpa using ho
    have hil : i < l.length := (List.getElem?_eq_some_iff.1 ho').1
    have hin : i < n := by
      rcases Nat.lt_or_ge i n with h' | h'
      · exact h'
      · exfalso
        have h1 := ups_listed hU.closed ho' hall _ [] (fun u hu => by cases hu) j0 (ht i h' hil j0 hj0)
        rw [getD_same (by rw [hU.size]; omega) true false] at hl0
        rw [hl0] at h1; cases h1
    have hmem : (o, i) ∈ (x0, j0) :: r' := (hU.mem o i).2 ⟨hin, ho', hun⟩
    obtain ⟨pre, post, hsplit⟩ := List.append_of_mem hmem
    rw [hsplit] at h hU hr
    have hord := List.pairwise_append.1 hU.order
    have hpre : ∀ q ∈ pre, q.2 < i := fun q hqm => hord.2.2 q hqm (o, i) List.mem_cons_self
    have hpost : ∀ q ∈ post, i < q.2 := fun q hqm => (List.pairwise_cons.1 hord.2.1).1 q hqm
    have hin_pre : ∀ q ∈ pre, q.2 < n ∧ l[q.2]? = some q.1 ∧ listed.getD q.2 true = false := fun q hqm => (hU.mem q.1 q.2).1 (List.mem_append_left _ hqm)
    have hlo : ∀ t ∈ o.looksAt l.toArray, t < 1000000 := fun t htm => by
      have h1 := hlook o (List.mem_of_getElem? (i := i) (by rw [List.getElem?_take, if_pos hin]; exact ho'))
      simpa using h1 t htm
    have hunl : ∀ q ∈ pre, ∀ e ∈ o.after, Region.binds .any e = true → e.on ≠ q.2 := fun q hqm e hem hb hon => by
      have h1 := hall e hem hb
      obtain ⟨g1, g2, g3⟩ := hin_pre q hqm
      rw [hon, getD_same (by rw [hU.size]; omega) false true, g3] at h1
      cases h1
    have take := wpF_take (P := P) (C := C) (bars := bars) (D := D) (fun cs b => hsel' i o cs b ho) hlo h
      (fun q hqm => by rcases List.mem_append.1 hqm with h' | h'
                       · exact Nat.ne_of_lt (hpre q h')
                       · exact Nat.ne_of_gt (hpost q h'))
      ⟨fun _ _ => rfl, fun p hp V v => hco p hp _ _⟩
      (fun q hqm => by
        obtain ⟨g1, g2, g3⟩ := hin_pre q hqm
        refine ⟨?_, fun cs b => hsel' q.2 q.1 cs b (by simpa using g2), ?_⟩
        · have h1 := hap i hin q.2 (hpre q hqm)
          rw [ho', g2] at h1
          simp only [Bool.or_eq_true] at h1
          rcases h1 with h1 | h1
          · obtain ⟨e, hem, hb, hon⟩ := edge_of h1
            exact absurd hon (hunl q hqm e hem hb)
          · exact h1
        · intro hb
          have h1 := hbars q.2 hb
          unfold barB at h1
          simp only [Bool.and_eq_true, List.all_eq_true, List.mem_range, Bool.or_eq_true, decide_eq_true_eq] at h1
          have hB : ∀ k, k < n → q.2 < k → ∀ o, l[k]? = some o → ∃ e ∈ o.after, Region.binds .any e = true ∧ q.2 ≤ e.on := fun k hkn hlt o hk' => by
            have h2 := h1.1.2 k hkn
            rw [hk'] at h2
            rcases h2 with h2 | h2
            · omega
            · obtain ⟨e, g1, g2⟩ := Array.any_eq_true'.1 (by simpa only [Option.map_some, Option.getD_some] using h2)
              simp only [Bool.and_eq_true, decide_eq_true_eq] at g2
              exact ⟨e, g1, g2.1, g2.2⟩
          obtain ⟨e, hem, hbd, hle⟩ := hB i hin (hpre q hqm) o ho'
          have h3 := hall e hem hbd
          have h4 : listed.getD q.2 false = true := by
            rcases Nat.lt_or_ge q.2 e.on with h' | h'
            · exact bar_first hU.closed he hB hn e.on (by have := he i o hin ho' e hem hbd; omega) h' h3
            · have : e.on = q.2 := by omega
              exact this ▸ h3
          rw [getD_same (by rw [hU.size]; omega) false true, g3] at h4
          cases h4)
      hkd
      (fun hb q hqm d hd => by
        obtain ⟨g1, g2, g3⟩ := hin_pre q hqm
        have h1 := hbars i hb
        unfold barB at h1
        simp only [Bool.and_eq_true, List.all_eq_true, List.mem_range, Bool.or_eq_true, decide_eq_true_eq] at h1
        rcases h1.2 q.2 (hpre q hqm) with h2 | h2
        · have h3 := ups_listed hU.closed ho' hall _ [] (fun u hu => by cases hu) q.2 (by simpa using h2)
          rw [getD_same (by rw [hU.size]; omega) false true, g3] at h3
          cases h3
        · rw [g2] at h2
          have h4 := List.all_eq_true.1 (by simpa using h2 : D.all (fun d => !(q.1.looksAt l.toArray).contains d) = true) d hd
          simpa using h4)
    -- what is left behind it
    have hU' : Up l n (pre ++ post) (listed.setIfInBounds i true) := by
      refine ⟨by simp [hU.size], fun j h1 h2 => by rw [getD_set_ne true (by omega)]; exact hU.tail j h1 h2, fun x j => ?_, ?_, fun j x hx hl e hem hb => ?_⟩
      · have hne : ∀ q, q ∈ pre ++ post → q.2 ≠ i := fun q hqm => by
          rcases List.mem_append.1 hqm with h' | h'
          · exact Nat.ne_of_lt (hpre q h')
          · exact Nat.ne_of_gt (hpost q h')
        constructor
        · intro hm
          have hji := hne _ hm
          have hm' : (x, j) ∈ pre ++ (o, i) :: post := by
            rcases List.mem_append.1 hm with h' | h'
            · exact List.mem_append_left _ h'
            · exact List.mem_append_right _ (List.mem_cons_of_mem _ h')
          obtain ⟨g1, g2, g3⟩ := (hU.mem x j).1 hm'
          exact ⟨g1, g2, by rw [getD_set_ne true (Ne.symm hji)]; exact g3⟩
        · rintro ⟨g1, g2, g3⟩
          have hji : j ≠ i := by
            rintro rfl
            have : j < listed.size := by rw [hU.size]; omega
            simp [this] at g3
          rw [getD_set_ne true (Ne.symm hji)] at g3
          have hm := (hU.mem x j).2 ⟨g1, g2, g3⟩
          rcases List.mem_append.1 hm with h' | h'
          · exact List.mem_append_left _ h'
          · rcases List.mem_cons.1 h' with h' | h'
            · injection h' with _ h'; exact absurd h' hji
            · exact List.mem_append_right _ h'
      · refine List.pairwise_append.2 ⟨hord.1, (List.pairwise_cons.1 hord.2.1).2, fun p hp q hqm => hord.2.2 p hp q (List.mem_cons_of_mem _ hqm)⟩
      · by_cases hji : j = i
        · subst hji
          rw [ho'] at hx
          cases hx
          exact getD_set_true (hall e hem hb)
        · rw [getD_set_ne false (Ne.symm hji)] at hl
          exact getD_set_true (hU.closed j x hx hl e hem hb)
    have hlen : (pre ++ post).length = f := by simp at hr ⊢; omega
    unfold wpOpIn
    simp only [ho]
    rcases take with ⟨g1, g2⟩ | ⟨g1, F, m, keep, g2, g3, gd, g4, g5⟩
    · have := g1 fun _ => undef
      rw [if_neg (by rw [this]; exact Bool.false_ne_true)]
      exact ⟨fun f _ => hF0.fn f, ih _ _ _ _ kn hlen hU' hC hk hst hco hkd g2⟩
    · have := g1 fun _ => undef
      rw [if_pos this]
      refine wpIn_of_to hF0 (noDefer_at hnd ho') (g4 (fun _ => undef) w hC fun p hp _ => hk p hp _) fun v w' ⟨hFv, hC', hkp⟩ => ?_
      have hsub : ∀ p ∈ addK m (keyOf (o, i)) (fun _ => F v) (if keep then kn else []), ((m = none ∧ p.1 = keyOf (o, i)) ∧ p.2 = fun _ => F v) ∨ (keep = true ∧ p ∈ kn) := fun p hp => by
        rcases mem_addK hp with ⟨h1, h2, h'⟩ | h'
        · exact .inl ⟨⟨h1, h2⟩, h'⟩
        · cases keep
          · cases h'
          · exact .inr ⟨rfl, h'⟩
      refine ih _ _ _ _ _ hlen hU' hC' (fun p hp V => ?_) (fun p hp V w1 w2 h1 h2 => ?_) (fun p hp V V' => ?_) (fun p hp => ?_) (g5 v w' hFv)
      · rcases hsub p hp with ⟨_, h'⟩ | ⟨hkt, h'⟩
        · rw [h']; exact hFv
        · exact hst p h' V w w' (hk p h' V) (hkp hkt)
      · rcases hsub p hp with ⟨_, h'⟩ | ⟨hkt, h'⟩
        · rw [h'] at h1 ⊢; exact g2 _ _ _ h1 h2
        · exact hst p h' V w1 w2 h1 h2
      · rcases hsub p hp with ⟨_, h'⟩ | ⟨hkt, h'⟩
        · rw [h']
        · exact hco p h' V V'
      · rcases hsub p hp with ⟨⟨h1, h'⟩, _⟩ | ⟨hkt, h'⟩
        · rw [h']; exact gd h1
        · exact hkd p h'

/-- **One walk in the order of the text serves every order**, in a fence that lets all in. -/
theorem wpIn_region_facts (hF0 : WideF F) {id : Nat} {a : Act} {w : World} (n : Nat) (bars : List Nat) (D : List Tmp) (hm : P.follows .mixedOrders = true) (hT : tailV l n = true) (hF : factsB l n bars D = true) (hnd : noDefer l = true) (hC : C { w with drawn := w.drawn + 1 })
    (h : wpF P l.toArray C bars D (fun a w => wpListIn F m P l.toArray Q (l.drop n) a w) (l.take n).zipIdx (fun _ => a) []) : (Code.region id l.toArray true).wpIn F m P Q a w := by
  unfold tailV at hT
  simp only [Bool.and_eq_true, decide_eq_true_eq] at hT
  obtain ⟨⟨⟨hn, he⟩, ht⟩, hq⟩ := hT
  refine wpIn_region_any hm ?_
  have hlen : (l.take n).zipIdx.length = n := by simp; omega
  have K := facts_in (P := P) (F := F) (m := m) (C := C) (bars := bars) (D := D) (Q := Q) hF0 hnd hn
    (fun i o hi ho e hem hb => by
      have := List.all_eq_true.1 he i (List.mem_range.2 hi)
      rw [ho] at this
      simp only [Option.map_some, Option.getD_some, Array.all_eq_true_iff_forall_mem] at this
      have h2 := this e hem
      simpa [hb] using h2)
    (fun k hk hkl i hi => by
      have h1 := List.all_eq_true.1 ht k (List.mem_range.2 hkl)
      simp only [Bool.or_eq_true, decide_eq_true_eq, List.all_eq_true, List.mem_range] at h1
      rcases h1 with h1 | h1
      · omega
      · simpa using h1 i hi)
    hq hF n (l.take n).zipIdx (Array.replicate l.length false) a { w with drawn := w.drawn + 1 } [] hlen
    ⟨by simp, fun j _ hj => by simp [hj], fun x j => by
        rw [List.mem_zipIdx_iff_getElem?]
        simp only [List.getElem?_take]
        constructor
        · intro h'
          split at h'
          · rename_i hj
            exact ⟨hj, h', by have := (List.getElem?_eq_some_iff.1 h').1; simp [this]⟩
          · cases h'
        · rintro ⟨g1, g2, _⟩
          rw [if_pos g1]; exact g2,
      by
        rw [List.pairwise_iff_getElem]
        intro i j hi hj hij
        simp only [List.getElem_zipIdx]
        omega,
      fun j x hx hl => by
        have := (List.getElem?_eq_some_iff.1 hx).1
        simp [this] at hl⟩
    hC (fun p hp => by cases hp) (fun p hp => by cases hp) (fun p hp => by cases hp) (fun p hp => by cases hp) h
  rw [show n + (l.length - n) = l.toArray.size by simp; omega] at K
  exact K

/-- The same where there is no fence. -/
theorem wp_region_bars {id : Nat} {a : Act} {w : World} (n : Nat) (bars : List Nat) (D : List Tmp) (hm : P.follows .mixedOrders = true) (hT : tailV l n = true) (hF : factsB l n bars D = true) (hnd : noDefer l = true) (hC : C { w with drawn := w.drawn + 1 })
    (h : wpF P l.toArray C bars D (fun a w => wpListIn Fence.wide 0 P l.toArray Q (l.drop n) a w) (l.take n).zipIdx (fun _ => a) []) : (Code.region id l.toArray true).wp P Q a w :=
  wpIn_wide.1 (wpIn_region_facts wideF_wide n bars D hm hT hF hnd hC h)
end
end Go.Proofs.YtlpgmmcdcjkkiaaDoor
