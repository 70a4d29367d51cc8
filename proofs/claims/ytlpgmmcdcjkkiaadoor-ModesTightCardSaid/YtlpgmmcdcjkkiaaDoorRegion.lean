/- A region that draws its order: every operation ahead of the last stores yields one value in every world of a class (calls may make memory); the stores come behind them all, in their order. Nothing here speaks of the program. -/
import Derived.Deep.QuietTactic
import Derived.BigQuiet
import Derived.StillTail
import Derived.Lib.QuietBelow
import Derived.Shelf.Abstract
import Derived.Below
import Derived.Laws.Rows
import Derived.WalkKit
namespace Go.Proofs.YtlpgmmcdcjkkiaaDoor
set_option maxRecDepth 20000
open Go.RowKit Go.Sort

/-- The checks on the region's text: guards and edges of the head lead back; each of the tail waits for all of the head; the tail has one order. -/
def tailB (l : List Oper) (n : Nat) : Bool :=
  decide (n ≤ l.length) &&
  ((l.take n).all fun o => match o.guard with | some (g, _) => decide (g < n) | none => true) &&
  ((List.range n).all fun i => ((l[i]?).map fun o => o.after.all fun e => !Region.binds .any e || decide (e.on < i)).getD true) &&
  ((l.drop n).all fun o => (List.range n).all fun i => o.after.any fun e => Region.binds .any e && e.on == i) &&
  Region.seqB .any l.toArray (l.length - n) n (Array.replicate n true ++ Array.replicate (l.length - n) false)

section
variable {P : Program} {ops : Array Oper} {Q : Exit → Act → World → Prop} {C : World → Prop}

theorem any_more : ∀ (f : Nat) (listed : Array Bool) (a : Act) (w : World), wpAny P .any ops Q f listed a w → wpAny P .any ops Q (f + 1) listed a w
  | 0, listed, a, w, h => ⟨fun _ => h.2, fun i hi => by rw [h.1] at hi; cases hi⟩
  | f + 1, listed, a, w, h => ⟨h.1, fun i hi => wpOp_mono (fun a w => any_more f _ a w) (h.2 i hi)⟩
theorem any_moren (m : Nat) : ∀ (k : Nat) (listed : Array Bool) (a : Act) (w : World), wpAny P .any ops Q m listed a w → wpAny P .any ops Q (k + m) listed a w
  | 0, listed, a, w, h => by rwa [Nat.zero_add]
  | k + 1, listed, a, w, h => by rw [show k + 1 + m = (k + m) + 1 by omega]; exact any_more _ _ _ _ (any_moren m k _ _ _ h)

theorem wanted_same {o : Oper} {f g : Nat → Option Bool} (h : ∀ i b, o.guard = some (i, b) → f i = g i) : Region.wanted o f = Region.wanted o g := by
  unfold Region.wanted
  split
  · rfl
  · rename_i i b hg
    rw [h i b hg]

variable {l : List Oper} {n : Nat}

theorem head_get {i : Nat} (hi : i < n) : (l.take n).toArray[i]? = l.toArray[i]? := by simp [hi]

theorem all_listed (he : ∀ i o, i < n → l[i]? = some o → ∀ e ∈ o.after, Region.binds .any e = true → e.on < i) (hn : n ≤ l.length) {listed : Array Bool} (hs : listed.size = n)
    (h : Region.ready .any (l.take n).toArray listed = []) : ∀ i, i < n → listed.getD i true = true := by
  intro i
  induction i using Nat.strongRecOn with
  | _ i ih =>
    intro hi
    cases hc : listed.getD i true with
    | true => rfl
    | false =>
      have hl : i < l.length := by omega
      have : i ∈ Region.ready .any (l.take n).toArray listed := by
        refine mem_ready.2 ⟨hc, l[i], by simp [hi, hl], fun e hem hb => ?_⟩
        have h1 := he i _ hi (List.getElem?_eq_getElem hl) e hem hb
        have h2 := ih e.on h1 (by omega)
        have h3 : e.on < listed.size := by omega
        simp [h3] at h2 ⊢
        exact h2
      rw [h] at this
      cases this

theorem ready_head {listed : Array Bool} {m : Nat} (hs : listed.size = n) (hn : n ≤ l.length) (he : ∀ i o, i < n → l[i]? = some o → ∀ e ∈ o.after, Region.binds .any e = true → e.on < i)
    (ht : ∀ o ∈ l.drop n, ∀ i, i < n → ∃ e ∈ o.after, Region.binds .any e = true ∧ e.on = i) {j : Nat} (hj : j ∈ Region.ready .any (l.take n).toArray listed) {i : Nat}
    (hi : i ∈ Region.ready .any l.toArray (listed ++ Array.replicate m false)) : i < n ∧ i ∈ Region.ready .any (l.take n).toArray listed := by
  obtain ⟨h0, o, ho, hall⟩ := mem_ready.1 hi
  obtain ⟨k0, o', ho', _⟩ := mem_ready.1 hj
  have hjn : j < n := by
    have := (Array.getElem?_eq_some_iff.1 ho').1
    simp at this
    omega
  by_cases hin : i < n
  · refine ⟨hin, mem_ready.2 ⟨?_, o, by rw [head_get hin]; exact ho, fun e hem hb => ?_⟩⟩
    · have : i < listed.size := by omega
      simpa [Array.getElem?_append, this] using h0
    · have h1 := hall e hem hb
      have h2 := he i o hin (by simpa using ho) e hem hb
      have h3 : e.on < listed.size := by omega
      simpa [Array.getElem?_append, h3] using h1
  · exfalso
    have hmem : o ∈ l.drop n := by
      have : l[i]? = some o := by simpa using ho
      refine List.mem_of_getElem? (i := i - n) ?_
      rw [List.getElem?_drop, show n + (i - n) = i by omega]
      exact this
    obtain ⟨e, hem, hb, hon⟩ := ht o hmem j hjn
    have h1 := hall e hem hb
    rw [hon] at h1
    have h3 : j < listed.size := by omega
    simp [Array.getElem?_append, h3] at h1 k0
    rw [k0] at h1
    cases h1

theorem any_head {Qh : Act → Prop} (hn : n ≤ l.length) (he : ∀ i o, i < n → l[i]? = some o → ∀ e ∈ o.after, Region.binds .any e = true → e.on < i)
    (hg : ∀ i o, i < n → l[i]? = some o → ∀ g b, o.guard = some (g, b) → g < n)
    (ht : ∀ o ∈ l.drop n, ∀ i, i < n → ∃ e ∈ o.after, Region.binds .any e = true ∧ e.on = i)
    (hq : Region.seqB .any l.toArray (l.length - n) n (Array.replicate n true ++ Array.replicate (l.length - n) false) = true)
    (hQ : ∀ a w, C w → Qh a → wpList P l.toArray Q (l.drop n) a w) :
    ∀ (f : Nat) (listed : Array Bool) (a : Act) (w : World), listed.size = n → C w → wpAnyQ P .any (l.take n).toArray C Qh f listed a →
      wpAny P .any l.toArray Q (f + (l.length - n)) (listed ++ Array.replicate (l.length - n) false) a w := by
  have fin : ∀ (f : Nat) (listed : Array Bool) (a : Act) (w : World), listed.size = n → C w → Region.ready .any (l.take n).toArray listed = [] → Qh a →
      wpAny P .any l.toArray Q (f + (l.length - n)) (listed ++ Array.replicate (l.length - n) false) a w := by
    intro f listed a w hs hc hr hqa
    have e : listed = Array.replicate n true := by
      apply Array.ext (by simp [hs])
      intro i h1 h2
      have := all_listed he hn hs hr i (by omega)
      simpa [h1] using this
    rw [e]
    refine any_moren _ f _ _ _ ?_
    have := wpAny_of_seq (md := .any) (ops := l.toArray) (Q' := Q) (P := P) (l.drop n) n (Array.replicate n true ++ Array.replicate (l.length - n) false) a w (fun j => by simp [List.getElem?_drop]) (by simpa using hq) (hQ a w hc hqa)
    simpa using this
  intro f
  induction f with
  | zero => intro listed a w hs hc h; exact fin 0 listed a w hs hc h.1 h.2
  | succ f ih =>
    intro listed a w hs hc h
    by_cases hr : Region.ready .any (l.take n).toArray listed = []
    · exact fin (f + 1) listed a w hs hc hr (h.1 hr)
    · obtain ⟨j, hj⟩ := List.exists_mem_of_ne_nil _ hr
      rw [show f + 1 + (l.length - n) = (f + (l.length - n)) + 1 by omega]
      refine ⟨fun h0 => ?_, fun i hi => ?_⟩
      · exfalso
        obtain ⟨k0, o', ho', hall⟩ := mem_ready.1 hj
        have hjn : j < n := by
          have := (Array.getElem?_eq_some_iff.1 ho').1
          simp at this
          omega
        have : j ∈ Region.ready .any l.toArray (listed ++ Array.replicate (l.length - n) false) := by
          refine mem_ready.2 ⟨?_, o', by rw [← head_get hjn]; exact ho', fun e hem hb => ?_⟩
          · have h3 : j < listed.size := by omega
            simpa [Array.getElem?_append, h3] using k0
          · have h1 := hall e hem hb
            have h2 := he j o' hjn (by rw [head_get hjn] at ho'; simpa using ho') e hem hb
            have h3 : e.on < listed.size := by omega
            simpa [Array.getElem?_append, h3] using h1
        rw [h0] at this
        cases this
      · obtain ⟨hin, hi'⟩ := ready_head hs hn he ht hj hi
        have hset : (listed ++ Array.replicate (l.length - n) false).setIfInBounds i true = listed.setIfInBounds i true ++ Array.replicate (l.length - n) false := by
          apply Array.ext_getElem?
          intro k
          simp only [Array.getElem?_setIfInBounds, Array.getElem?_append, Array.size_setIfInBounds, Array.size_append]
          by_cases hk : k < listed.size
          · by_cases hik : i = k
            · subst hik; simp [hk]; omega
            · simp [hk, hik]
          · have : i ≠ k := by omega
            simp [hk, this]
        rw [hset]
        have h1 := h.2 i hi'
        unfold qOp at h1
        unfold wpOp
        rw [head_get hin] at h1
        cases ho : l.toArray[i]? with
        | none =>
          simp only [ho] at h1 ⊢
          exact ih _ _ _ (by simp [hs]) hc h1
        | some o =>
          simp only [ho] at h1 ⊢
          have hw : Region.wanted o (yielded (l.take n).toArray a.tmps) = Region.wanted o (yielded l.toArray a.tmps) :=
            wanted_same fun g b hgd => by
              have := hg i o hin (by simpa using ho) g b hgd
              unfold yielded
              rw [head_get this]
          rw [hw] at h1
          split
          · rename_i hwt
            simp only [hwt, if_true] at h1
            exact .inl (Oper.wp_of_quiet hc (fun a' w' hc' hk => ih _ _ _ (by simp [hs]) hc' hk) h1)
          · rename_i hwt
            simp only [hwt] at h1
            exact ih _ _ _ (by simp [hs]) hc h1

/-- **One walk in the order of the text serves every order**: the head of the region quietly in the class C, then its last stores. -/
theorem wp_region_tail {id : Nat} {a : Act} {w : World} (n : Nat) (hm : P.follows .mixedOrders = true) (hB : Region.lexB .any (l.take n).toArray = true) (hT : tailB l n = true) (hC : C { w with drawn := w.drawn + 1 })
    (h : wpQuiet P (l.take n).toArray C (fun a' => ∀ w', C w' → wpList P l.toArray Q (l.drop n) a' w') (l.take n) a) : (Code.region id l.toArray true).wp P Q a w := by
  unfold tailB at hT
  simp only [Bool.and_eq_true, decide_eq_true_eq] at hT
  obtain ⟨⟨⟨⟨hn, hg⟩, he⟩, ht⟩, hq⟩ := hT
  simp only [Region.lexB, Bool.and_eq_true] at hB
  have hlen : (l.take n).length = n := by simp; omega
  have H := wpAnyQ_lex (C := C) (md := .any) hB.1 (l.take n) 0 (Array.replicate n false) a (by simp) (by simpa [hlen] using hB.2) h
  rw [hlen] at H
  refine wp_region_any hm ?_
  have K := any_head (Q := Q) (P := P) hn
    (fun i o hi ho e hem hb => by
      have := List.all_eq_true.1 he i (List.mem_range.2 hi)
      rw [ho] at this
      simp only [Option.map_some, Option.getD_some, Array.all_eq_true_iff_forall_mem] at this
      have h2 := this e hem
      simpa [hb] using h2)
    (fun i o hi ho g b hgd => by
      have hmem : o ∈ l.take n := List.mem_of_getElem? (i := i) (by rw [List.getElem?_take, if_pos hi]; exact ho)
      have := List.all_eq_true.1 hg o hmem
      rw [hgd] at this
      simpa using this)
    (fun o ho i hi => by
      have h1 := List.all_eq_true.1 ht o ho
      have h2 := List.all_eq_true.1 h1 i (List.mem_range.2 hi)
      obtain ⟨e, hem, hb⟩ := Array.any_eq_true'.1 h2
      simp only [Bool.and_eq_true, beq_iff_eq] at hb
      exact ⟨e, hem, hb.1, hb.2⟩)
    hq (fun a w hc hqa => hqa w hc) n (Array.replicate n false) a { w with drawn := w.drawn + 1 } (by simp) hC H
  have e1 : Array.replicate n false ++ Array.replicate (l.length - n) false = Array.replicate l.toArray.size false := by
    rw [Array.replicate_append_replicate]
    congr 1
    simp
    omega
  rw [e1, show n + (l.length - n) = l.toArray.size by simp; omega] at K
  exact K
end

/-! ### A slice cut -/
section
variable {P : Program} {t e : TypeId} {A : Option Addr} {n c k : Nat} {kd : IntKind}
theorem run_cut (ht : P.underlying t = some (.slice e)) (hs : (P.info? e).map (·.size) = some 1) (hk : k ≤ n) (w : World) :
    (Instr.sliceAt t (.slice A n c) (some (.int kd k)) none none).run P w = .ok (.slice (if c = k then A else A.map (·.add k)) (n - k) (c - k)) w := by
  cases hq : P.info? e with
  | none => simp [hq] at hs
  | some inf =>
    have hs' : inf.size = 1 := by simpa [hq] using hs
    have h1 : (0 : Int) ≤ k ∧ (k : Int) ≤ n := by omega
    have h2 : (sizeOf e).run P w = .ok 1 w := by simp [sizeOf, typeInfo, hq, hs']
    simp [Instr.sliceAt, run_underlying ht, Instr.slice, Instr.sliceBounds, Instr.sliceBound, asIntOf, h1, h2]
    intro h; omega
theorem run_take (ht : P.underlying t = some (.slice e)) (hs : (P.info? e).map (·.size) = some 1) (hk : k ≤ c) (w : World) :
    (Instr.sliceAt t (.slice A n c) none (some (.int kd k)) none).run P w = .ok (.slice A k c) w := by
  cases hq : P.info? e with
  | none => simp [hq] at hs
  | some inf =>
    have hs' : inf.size = 1 := by simpa [hq] using hs
    have h1 : (0 : Int) ≤ k ∧ (k : Int) ≤ c := by omega
    have h2 : (sizeOf e).run P w = .ok 1 w := by simp [sizeOf, typeInfo, hq, hs']
    have h3 : A.map (·.add 0) = A := by cases A <;> simp [Addr.add]
    simp [Instr.sliceAt, run_underlying ht, Instr.slice, Instr.sliceBounds, Instr.sliceBound, asIntOf, h1, h2, h3]
    intro h; omega
end

/-! ### One operation in the class 'what was there is as it was' -/
section
variable {P : Program} {W : World} {o : Oper} {a : Act} {K : Act → Prop}

/-- 'Below' as the library's tactics take it. -/
theorem rg_eq (W : World) : (fun w' => ∃ p : Regrown, w' = grow (redrawn W p.d) p.os) = Below W.heap.size W := by
  funext w'
  apply propext
  constructor
  · rintro ⟨p, rfl⟩; exact below_regrown W p.d p.os
  · exact regrown_of_below
theorem rg_below {W w' : World} (h : ∃ p : Regrown, w' = grow (redrawn W p.d) p.os) : Below W.heap.size W w' := by
  obtain ⟨p, rfl⟩ := h
  exact below_regrown W p.d p.os

theorem q_run (v : Value) (h : ∀ w, Below W.heap.size W w → (execOp a.eval o).run P w = .ok (.value v) w) (hk : K (a.put o.dst v)) : o.quiet P a (fun w' => ∃ p : Regrown, w' = grow (redrawn W p.d) p.os) K :=
  ⟨v, fun w hw => by unfold Oper.quietAt; rw [h w (rg_below hw)]; exact ⟨rfl, rfl⟩, hk⟩

/-- A variable of several cells is read as a whole. -/
theorem q_load_row (ty : TypeId) (x : Operand) (ho : o.op = .load ty x) (g : Nat) (hx : a.eval x = .pointer (some ⟨g, 0, none⟩)) (t : TypeId) (cs : Array Value) (fr : Nat × Nat) (d : TypeDesc)
    (hg : W.heap[g]? = some (.cells cs t fr)) (hu : P.underlying ty = some d) (hd : (match d with | .struct _ | .array _ _ => true | _ => false) = true) (hi : (P.info? ty).map (·.size) = some cs.size)
    (hk : K (a.put o.dst (.agg cs))) : o.quiet P a (fun w' => ∃ p : Regrown, w' = grow (redrawn W p.d) p.os) K := by
  have hlt : g < W.heap.size := by
    rcases Nat.lt_or_ge g W.heap.size with h | h
    · exact h
    · rw [Array.getElem?_eq_none h] at hg; cases hg
  refine q_run _ (fun w hw => ?_) hk
  have hg' : w.heap[g]? = some (.cells cs t fr) := (hw.block g hlt).trans hg
  unfold execOp
  simp only [ho, hx, Instr.loadAt, Instr.sureAddr, Sem.run_bind, Sem.run_pure, Result.andThen_ok, run_loadVar_row w g t ty cs fr d hg' hu hd hi]

/-- A call whose contract leaves alone what was there. -/
theorem q_call (f : FuncId) (xs : Array Operand) (ts : Array TypeId) (ho : o.op = .call { callee := .value (.func f), args := xs, argTypes := ts }) (args : Array Value) (v : Value)
    (henter : Enters P f) (hc : ∀ w, Below W.heap.size W w → Calls P f args w fun e w' => e = .returned v ∧ Below w.heap.size w w') (hargs' : xs.toList.map a.eval = args.toList)
    (hk : K (a.put o.dst v)) : o.quiet P a (fun w' => ∃ p : Regrown, w' = grow (redrawn W p.d) p.os) K :=
  ⟨v, fun w hw => by
    have hargs : xs.map a.eval = args := by apply Array.toList_inj.1; simpa using hargs'
    have hrun : (execOp a.eval o).run P w = .ok (.enter f args) w := by
      have := henter args w
      simp [execOp, ho, resolve, Deferred.ofValue, invoke, Act.eval, hargs, this]
    have hw := rg_below hw
    unfold Oper.quietAt
    rw [hrun]
    exact ⟨rfl, (hc w hw).mono fun e w' ⟨he, hb⟩ => ⟨he, regrown_of_below (hw.trans (hb.mono hw.size))⟩⟩, hk⟩

/-- One cell is read. -/
theorem q_load_cell (ty : TypeId) (x : Operand) (ho : o.op = .load ty x) (p : Addr) (hx : a.eval x = .pointer (some p)) (v : Value) (hc : W.cell? p = some v) (d : TypeDesc)
    (hu : P.underlying ty = some d) (hd : (match d with | .struct _ | .array _ _ => true | _ => false) = false) (hk : K (a.put o.dst v)) : o.quiet P a (fun w' => ∃ p : Regrown, w' = grow (redrawn W p.d) p.os) K := by
  refine q_run v (fun w hw => ?_) hk
  have hc' : w.cell? p = some v := (hw.cell (World.block_lt_of_cell? W p hc)).trans hc
  have h1 := run_isAgg_plain (P := P) hu hd w
  unfold execOp
  simp only [ho, hx, Instr.loadAt, Instr.sureAddr, Sem.run_bind, Sem.run_pure, Result.andThen_ok, loadVar, h1, run_load, hc', Bool.false_eq_true, if_false]

/-- The address of a slice's place. -/
theorem q_index (ty : TypeId) (x i : Operand) (ho : o.op = .indexAddr ty x i) (e : TypeId) (s : Nat) (hu : P.underlying ty = some (.slice e)) (hs : (P.info? e).map (·.size) = some s)
    (A : Addr) (n c : Nat) (hx : a.eval x = .slice (some A) n c) (kd : IntKind) (k : Nat) (hi : a.eval i = .int kd k) (hk : k < n) (hK : K (a.put o.dst (.pointer (some (A.add (k * s)))))) : o.quiet P a (fun w' => ∃ p : Regrown, w' = grow (redrawn W p.d) p.os) K := by
  refine q_run _ (fun w _ => ?_) hK
  cases hq : P.info? e with
  | none => simp [hq] at hs
  | some inf =>
    have hs' : inf.size = s := by simpa [hq] using hs
    have h1 : (0 : Int) ≤ k ∧ (k : Int) < n := by omega
    have h2 : (sizeOf e).run P w = .ok s w := by simp [sizeOf, typeInfo, hq, hs']
    unfold execOp
    simp only [ho, hx, hi, Instr.indexAt, asIntOf, Sem.run_bind, Sem.run_pure, Result.andThen_ok, run_underlying hu, h1, and_self, if_true, h2, Int.toNat_natCast]

theorem q_cut (ty : TypeId) (x i : Operand) (ho : o.op = .slice ty x (some i) none none) (e : TypeId) (hu : P.underlying ty = some (.slice e)) (hs : (P.info? e).map (·.size) = some 1)
    (A : Option Addr) (n c : Nat) (hx : a.eval x = .slice A n c) (kd : IntKind) (k : Nat) (hi : a.eval i = .int kd k) (hk : k ≤ n) (hK : K (a.put o.dst (.slice (if c = k then A else A.map (·.add k)) (n - k) (c - k)))) :
    o.quiet P a (fun w' => ∃ p : Regrown, w' = grow (redrawn W p.d) p.os) K :=
  q_run _ (fun w _ => by
    unfold execOp
    simp only [ho, hx, hi, Option.map_some, Option.map_none, Sem.run_bind, run_cut hu hs hk w, Result.andThen_ok, Sem.run_pure]) hK
theorem q_take (ty : TypeId) (x i : Operand) (ho : o.op = .slice ty x none (some i) none) (e : TypeId) (hu : P.underlying ty = some (.slice e)) (hs : (P.info? e).map (·.size) = some 1)
    (A : Option Addr) (n c : Nat) (hx : a.eval x = .slice A n c) (kd : IntKind) (k : Nat) (hi : a.eval i = .int kd k) (hk : k ≤ c) (hK : K (a.put o.dst (.slice A k c))) :
    o.quiet P a (fun w' => ∃ p : Regrown, w' = grow (redrawn W p.d) p.os) K :=
  q_run _ (fun w _ => by
    unfold execOp
    simp only [ho, hx, hi, Option.map_some, Option.map_none, Sem.run_bind, run_take hu hs hk w, Result.andThen_ok, Sem.run_pure]) hK

/-- An operation of two values, by an equation on each of its two parts. -/
theorem q_binop (op : BinOp) (t r : TypeId) (s u : Operand) (ho : o.op = .binOp op t s u r) (x y v : Value) (hv : ∀ w, (binOp op t x y).run P w = .ok v w) (hg : ∀ w, (eqGuard op t s u x y).run P w = .ok () w)
    (hx : a.eval s = x) (hy : a.eval u = y) (hk : K (a.put o.dst v)) : o.quiet P a (fun w' => ∃ p : Regrown, w' = grow (redrawn W p.d) p.os) K :=
  q_run v (fun w _ => by
    have h1 := hv w
    have h2 := hg w
    simp [execOp, ho, hx, hy, h1, h2]) hk
end

theorem rg_draw (W : World) : ∃ p : Regrown, { W with drawn := W.drawn + 1 } = grow (redrawn W p.d) p.os := regrown_of_below ⟨rfl, rfl, rfl, Nat.le_refl _, fun _ _ => rfl⟩
end Go.Proofs.YtlpgmmcdcjkkiaaDoor
