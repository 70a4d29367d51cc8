/- A region that draws its order, whose operations may make memory and yield what is told by facts alone (a slice that reads as ..): ONE walk in the text's order serves every order. An operation that may write what others made (a 'bar': an append onto the region's own row) must have all later ones behind it. Nothing here speaks of the program. -/
import Derived.Test.YtlpgmmcdcjkkiaaDoorRegion
import Derived.Test.YtlpgmmcdcjkkiaaDoorWords
namespace Go.Proofs.YtlpgmmcdcjkkiaaDoor
set_option maxRecDepth 20000
open Go.RowKit Go.Sort

section
variable {P : Program}

/-- What an operation comes to: the value that it yields and the world behind it. -/
def uponV (P : Program) (R : Value → World → Prop) : Result Next → Prop
  | .ok (.value u) w' => R u w'
  | .ok .skip w' => R undef w'
  | .ok (.enter f args) w' => Calls P f args w' (fun e w'' => ∃ v, e = .returned v ∧ R v w'')
  | _ => False
def opTo (P : Program) (o : Oper) (a : Act) (w : World) (R : Value → World → Prop) : Prop := uponV P R ((execOp a.eval o).run P w)

theorem wp_of_to {o : Oper} {a : Act} {w : World} {R : Value → World → Prop} {K : Act → World → Prop} {Q : Exit → Act → World → Prop} (h : opTo P o a w R) (hk : ∀ v w', R v w' → K (a.put o.dst v) w') : o.wp P a w K Q := by
  unfold opTo at h
  unfold Oper.wp
  generalize (execOp a.eval o).run P w = r at *
  cases r with
  | ok n w' =>
    cases n <;> simp only [uponV] at h <;> simp only [Oper.upon]
    case value u => exact hk _ _ h
    case skip => exact hk _ _ h
    case enter f args =>
      exact h.mono fun e w'' ⟨v, he, hr⟩ => by subst he; exact hk _ _ hr
  | halt x w' => simp only [uponV] at h

/-- Facts known of slots: what the values (by their operations' numbers) and the world meet. -/
abbrev Kn := List (Tmp × ((Nat → Value) → World → Prop))
def knows (ops : Array Oper) (o : Oper) (kn : Kn) (V : Nat → Value) (w : World) : Prop := ∀ p ∈ kn, p.1 ∈ o.looksAt ops → p.2 V w
/-- The slot of an operation; one that writes none has a number of its own, which nothing looks at. -/
def keyOf (q : Oper × Nat) : Tmp := q.1.dst.getD (1000000 + q.2)
/-- One fact more, unless the value itself is known. -/
def addK (m : Option Value) (d : Tmp) (G : (Nat → Value) → World → Prop) (kn : Kn) : Kn := match m with | none => (d, G) :: kn | some _ => kn
theorem mem_addK {m : Option Value} {d : Tmp} {G : (Nat → Value) → World → Prop} {kn : Kn} {p : Tmp × ((Nat → Value) → World → Prop)} (h : p ∈ addK m d G kn) : (m = none ∧ p.1 = d ∧ p.2 = G) ∨ p ∈ kn := by
  unfold addK at h
  split at h
  · rcases List.mem_cons.1 h with rfl | h
    · exact .inl ⟨rfl, rfl, rfl⟩
    · exact .inr h
  · exact .inr h
theorem in_addK {m : Option Value} {d : Tmp} {G : (Nat → Value) → World → Prop} {kn : Kn} {p : Tmp × ((Nat → Value) → World → Prop)} (h : p ∈ kn) : p ∈ addK m d G kn := by
  unfold addK
  split
  · exact List.mem_cons_of_mem _ h
  · exact h
theorem addK_new {d : Tmp} {G : (Nat → Value) → World → Prop} {kn : Kn} : (d, G) ∈ addK none d G kn := List.mem_cons_self
theorem addK_sub {m : Option Value} {d : Tmp} {G : (Nat → Value) → World → Prop} {kn kn' : Kn} (h : ∀ p ∈ kn, p ∈ kn') : ∀ p ∈ addK m d G kn, p ∈ addK m d G kn' := by
  unfold addK
  split
  · intro p hp
    rcases List.mem_cons.1 hp with rfl | hp
    · exact List.mem_cons_self
    · exact List.mem_cons_of_mem _ (h p hp)
  · exact h

/-- A fact that stays while what was there is as it was. -/
def Stays (F : Value → World → Prop) : Prop := ∀ v w w', F v w → Below w.heap.size w w' → F v w'

/-- The walk, in the text's order: an operation is passed over, or it comes to a value of which F holds (the value m itself, where there is one); 'keep': it leaves alone what was there; else it is a bar. -/
def wpF (P : Program) (ops : Array Oper) (C : World → Prop) (bars : List Nat) (D : List Tmp) (Q : Act → World → Prop) : List (Oper × Nat) → ((Nat → Value) → Act) → Kn → Prop
  | [], Fr, kn => ∀ V w, C w → (∀ p ∈ kn, p.2 V w) → Q (Fr V) w
  | q :: rest, Fr, kn =>
    ((∀ V, Region.wanted q.1 (yielded ops (Fr V).tmps) = false) ∧ wpF P ops C bars D Q rest (fun V => (Fr V).put q.1.dst undef) kn) ∨
    ((∀ V, Region.wanted q.1 (yielded ops (Fr V).tmps) = true) ∧ ∃ (F : Value → World → Prop) (m : Option Value) (keep : Bool), Stays F ∧ (keep = false → q.2 ∈ bars) ∧ (m = none → keyOf q ∈ D) ∧ (∀ c, m = some c → ∀ v w, F v w → v = c) ∧
      (∀ V w, C w → knows ops q.1 kn V w → opTo P q.1 (Fr V) w (fun v w' => F v w' ∧ C w' ∧ (keep = true → Below w.heap.size w w'))) ∧
      wpF P ops C bars D Q rest (fun V => (Fr V).put q.1.dst (m.getD (V q.2))) (addK m (keyOf q) (fun V => F (V q.2)) (if keep then kn else [])))

variable {ops : Array Oper} {C : World → Prop} {bars : List Nat} {D : List Tmp} {Q : Act → World → Prop}

def upd (V : Nat → Value) (i : Nat) (v : Value) : Nat → Value := fun j => if j = i then v else V j
theorem upd_same (V : Nat → Value) (i : Nat) (v : Value) : upd V i v i = v := by simp [upd]
theorem upd_else (V : Nat → Value) (i : Nat) (v : Value) {j : Nat} (h : j ≠ i) : upd V i v j = V j := by simp [upd, h]

theorem wpF_kn : ∀ {l : List (Oper × Nat)} {Fr : (Nat → Value) → Act} {kn kn' : Kn}, (∀ p ∈ kn, p ∈ kn') → wpF P ops C bars D Q l Fr kn → wpF P ops C bars D Q l Fr kn'
  | [], Fr, kn, kn', hs, h => fun V w hw hk => h V w hw fun p hp => hk p (hs p hp)
  | q :: rest, Fr, kn, kn', hs, h => by
    rcases h with ⟨h1, h2⟩ | ⟨h1, F, m, keep, h2, h3, hd, h4, h5, h6⟩
    · exact .inl ⟨h1, wpF_kn hs h2⟩
    · refine .inr ⟨h1, F, m, keep, h2, h3, hd, h4, fun V w hw hk => h5 V w hw fun p hp hl => hk p (hs p hp) hl, wpF_kn (addK_sub ?_) h6⟩
      cases keep
      · exact fun p hp => hp
      · exact hs

theorem addK_map {m : Option Value} {d : Tmp} {G : (Nat → Value) → World → Prop} {kn : Kn} (f : (Nat → Value) → (Nat → Value)) : (addK m d G kn).map (fun p => (p.1, fun V => p.2 (f V))) = addK m d (fun V => G (f V)) (kn.map fun p => (p.1, fun V => p.2 (f V))) := by
  unfold addK
  split <;> rfl

theorem wpF_inst (i : Nat) (v : Value) : ∀ {l : List (Oper × Nat)} {Fr : (Nat → Value) → Act} {kn : Kn}, (∀ q ∈ l, q.2 ≠ i) → wpF P ops C bars D Q l Fr kn →
    wpF P ops C bars D Q l (fun V => Fr (upd V i v)) (kn.map fun p => (p.1, fun V => p.2 (upd V i v)))
  | [], Fr, kn, _, h => fun V w hw hk => h (upd V i v) w hw fun p hp => hk _ (List.mem_map.2 ⟨p, hp, rfl⟩)
  | q :: rest, Fr, kn, hne, h => by
    have hq := hne q List.mem_cons_self
    have hr : ∀ x ∈ rest, x.2 ≠ i := fun x hx => hne x (List.mem_cons_of_mem _ hx)
    rcases h with ⟨h1, h2⟩ | ⟨h1, F, m, keep, h2, h3, hd, h4, h5, h6⟩
    · exact .inl ⟨fun V => h1 _, wpF_inst i v hr h2⟩
    · refine .inr ⟨fun V => h1 _, F, m, keep, h2, h3, hd, h4, fun V w hw hk => h5 (upd V i v) w hw fun p hp hl => hk _ (List.mem_map.2 ⟨p, hp, rfl⟩) hl, ?_⟩
      have h7 := wpF_inst i v hr h6
      rw [addK_map] at h7
      have e1 : ∀ V, (upd V i v) q.2 = V q.2 := fun V => upd_else V i v hq
      simp only [e1] at h7
      cases keep
      · exact h7
      · exact h7

/-- Frame and facts don't hang on the value of operation i. -/
def Far (i : Nat) (Fr : (Nat → Value) → Act) (kn : Kn) : Prop := (∀ V v, Fr (upd V i v) = Fr V) ∧ ∀ p ∈ kn, ∀ V v, p.2 (upd V i v) = p.2 V

theorem far_map {i : Nat} {Fr : (Nat → Value) → Act} {kn : Kn} (h : Far i Fr kn) (v : Value) : (kn.map fun p => (p.1, fun V => p.2 (upd V i v))) = kn := by
  conv => rhs; rw [← List.map_id kn]
  refine List.map_congr_left fun p hp => ?_
  obtain ⟨d, G⟩ := p
  simp only [id]
  congr 1
  funext V
  exact h.2 _ hp V v

/-- **What may come up now is taken out of the walk.** -/
theorem wpF_take {i : Nat} {o : Oper} {post : List (Oper × Nat)} (hso : ∀ cs b, o.op ≠ .select cs b) (hlo : ∀ t ∈ o.looksAt ops, t < 1000000) : ∀ {pre : List (Oper × Nat)} {Fr : (Nat → Value) → Act} {kn : Kn}, wpF P ops C bars D Q (pre ++ (o, i) :: post) Fr kn →
    (∀ q ∈ pre ++ post, q.2 ≠ i) → Far i Fr kn → (∀ q ∈ pre, q.1.apart ops o = true ∧ (∀ cs b, q.1.op ≠ .select cs b) ∧ q.2 ∉ bars) → (∀ p ∈ kn, p.1 ∈ D) →
    (i ∈ bars → ∀ q ∈ pre, ∀ d ∈ D, d ∉ q.1.looksAt ops) →
    ((∀ V, Region.wanted o (yielded ops (Fr V).tmps) = false) ∧ wpF P ops C bars D Q (pre ++ post) (fun V => (Fr V).put o.dst undef) kn) ∨
    ((∀ V, Region.wanted o (yielded ops (Fr V).tmps) = true) ∧ ∃ (F : Value → World → Prop) (m : Option Value) (keep : Bool), Stays F ∧ (keep = false → i ∈ bars) ∧ (m = none → keyOf (o, i) ∈ D) ∧
      (∀ V w, C w → knows ops o kn V w → opTo P o (Fr V) w (fun v w' => F v w' ∧ C w' ∧ (keep = true → Below w.heap.size w w'))) ∧
      ∀ v w', F v w' → wpF P ops C bars D Q (pre ++ post) (fun V => (Fr V).put o.dst v) (addK m (keyOf (o, i)) (fun _ => F v) (if keep then kn else [])))
  | [], Fr, kn, h, hne, hfar, _, _, _ => by
    rcases h with ⟨h1, h2⟩ | ⟨h1, F, m, keep, h2, h3, hd, h4, h5, h6⟩
    · exact .inl ⟨h1, h2⟩
    · refine .inr ⟨h1, F, m, keep, h2, h3, hd, h5, fun v w' hF => ?_⟩
      cases m with
      | some c =>
        obtain rfl := h4 c rfl v w' hF
        exact h6
      | none =>
        have h7 := wpF_inst i v hne h6
        rw [addK_map] at h7
        simp only [Option.getD_none, upd_same, hfar.1] at h7
        cases keep
        · exact h7
        · simp only [if_true] at h7 ⊢
          rwa [far_map hfar v] at h7
  | x :: pre, Fr, kn, h, hne, hfar, hpre, hkd, hbar => by
    obtain ⟨hap, hsx, hxb⟩ := hpre x List.mem_cons_self
    obtain ⟨p1, p2, p3⟩ := Oper.apart_spec hap
    have hxi : x.2 ≠ i := hne x (by simp)
    have hne' : ∀ q ∈ pre ++ post, q.2 ≠ i := fun q hq => hne q (List.mem_cons_of_mem _ hq)
    have hpre' := fun q (hq : q ∈ pre) => hpre q (List.mem_cons_of_mem _ hq)
    have hbar' := fun hb q (hq : q ∈ pre) => hbar hb q (List.mem_cons_of_mem _ hq)
    rcases h with ⟨h1, h2⟩ | ⟨h1, F, m, keep, h2, h3, hd, h4, h5, h6⟩
    · have ih := wpF_take (Fr := fun V => (Fr V).put x.1.dst undef) hso hlo h2 hne' ⟨fun V v => by simp only [hfar.1], hfar.2⟩ hpre' hkd hbar'
      simp only [wanted_put (ops := ops) o _ _ _ p1] at ih
      have e : ∀ V w R, opTo P o ((Fr V).put x.1.dst undef) w R = opTo P o (Fr V) w R := fun V w R => by unfold opTo; rw [execOp_put (ops := ops) o hso _ _ _ p1]
      simp only [e] at ih
      have hx : ∀ V u, Region.wanted x.1 (yielded ops ((Fr V).put o.dst u).tmps) = false := fun V u => by rw [wanted_put (ops := ops) x.1 _ _ _ p3]; exact h1 V
      rcases ih with ⟨g1, g2⟩ | ⟨g1, G, mo, keep, g2, g3, gd, g4, g5⟩
      · refine .inl ⟨g1, .inl ⟨fun V => hx V _, ?_⟩⟩
        simp only [Act.put_comm _ _ _ p2] at g2
        exact g2
      · refine .inr ⟨g1, G, mo, keep, g2, g3, gd, g4, fun v w' hG => .inl ⟨fun V => hx V _, ?_⟩⟩
        have := g5 v w' hG
        simp only [Act.put_comm _ _ _ p2] at this
        exact this
    · have hkeep : keep = true := by
        cases hk : keep
        · exact absurd (h3 hk) hxb
        · rfl
      subst hkeep
      simp only [if_true] at h6
      have e2 : ∀ V v, upd V i v x.2 = V x.2 := fun V v => upd_else V i v hxi
      have ih := wpF_take (Fr := fun V => (Fr V).put x.1.dst (m.getD (V x.2))) hso hlo h6 hne'
        ⟨fun V v => by simp only [hfar.1, e2], fun p hp V v => by
          rcases mem_addK hp with ⟨_, _, hp⟩ | hp
          · rw [hp]; simp only [e2]
          · exact hfar.2 p hp V v⟩ hpre'
        (fun p hp => by
          rcases mem_addK hp with ⟨hm, hp, _⟩ | hp
          · rw [hp]; exact hd hm
          · exact hkd p hp) hbar'
      simp only [wanted_put (ops := ops) o _ _ _ p1] at ih
      have e : ∀ V u w R, opTo P o ((Fr V).put x.1.dst u) w R = opTo P o (Fr V) w R := fun V u w R => by unfold opTo; rw [execOp_put (ops := ops) o hso _ _ _ p1]
      simp only [e] at ih
      have e3 : ∀ V u w R, opTo P x.1 ((Fr V).put o.dst u) w R = opTo P x.1 (Fr V) w R := fun V u w R => by unfold opTo; rw [execOp_put (ops := ops) x.1 hsx _ _ _ p3]
      have hx : ∀ V u, Region.wanted x.1 (yielded ops ((Fr V).put o.dst u).tmps) = true := fun V u => by rw [wanted_put (ops := ops) x.1 _ _ _ p3]; exact h1 V
      rcases ih with ⟨g1, g2⟩ | ⟨g1, G, mo, keep, g2, g3, gd, g4, g5⟩
      · refine .inl ⟨g1, .inr ⟨fun V => hx V _, F, m, true, h2, (fun h => by cases h), hd, h4, fun V w hw hk => by rw [e3]; exact h5 V w hw hk, ?_⟩⟩
        simp only [Act.put_comm _ _ _ p2] at g2
        exact g2
      · refine .inr ⟨g1, G, mo, keep, g2, g3, gd, fun V w hw hk => g4 V w hw fun p hp hl => ?_, fun v w' hG => .inr ⟨fun V => hx V _, F, m, true, h2, (fun h => by cases h), hd, h4, fun V w hw hk => ?_, ?_⟩⟩
        · rcases mem_addK hp with ⟨_, hp, _⟩ | hp
          · rw [hp] at hl
            unfold keyOf at hl
            cases hdx : x.1.dst with
            | none => rw [hdx] at hl; exact absurd (hlo _ hl) (by simp)
            | some d => rw [hdx] at hl; exact absurd hl (p1 _ hdx)
          · exact hk p hp hl
        · rw [e3]
          refine h5 V w hw fun p hp hl => ?_
          cases keep
          · exact absurd hl (hbar (g3 rfl) x List.mem_cons_self _ (hkd p hp))
          · exact hk p (in_addK hp) hl
        · have := g5 v w' hG
          simp only [Act.put_comm _ _ _ p2] at this
          refine wpF_kn (fun p hp => ?_) this
          rcases mem_addK hp with ⟨hm, hk, hp⟩ | hp
          · refine in_addK ?_
            obtain ⟨pd, pG⟩ := p
            simp only at hk hp
            simp only [if_true]
            rw [hm, hk, hp]
            exact addK_new
          · cases keep
            · cases hp
            · simp only [if_true] at hp ⊢
              exact addK_sub (fun p hp => in_addK hp) p hp
end

/-! ### The checks on the region's text -/

/-- Has the operation an edge to number j? -/
def edgeTo (o : Oper) (j : Nat) : Bool := o.after.any fun e => Region.binds .any e && e.on == j
/-- Those ahead of b for which b waits. -/
def ups (l : List Oper) (b : Nat) : List Nat → List Nat → List Nat
  | [], U => U
  | j :: js, U => if (b :: U).any (fun k => ((l[k]?).map fun o => edgeTo o j).getD false) then ups l b js (j :: U) else ups l b js U
def barB (l : List Oper) (n b : Nat) (D : List Tmp) : Bool :=
  decide (b < n) && ((List.range n).all fun k => decide (k ≤ b) || ((l[k]?).map fun o => o.after.any fun e => Region.binds .any e && decide (b ≤ e.on)).getD false) &&
  (List.range b).all fun j => (ups l b (List.range b).reverse []).contains j || ((l[j]?).map fun o => D.all fun d => !(o.looksAt l.toArray).contains d).getD false
def factsB (l : List Oper) (n : Nat) (bars : List Nat) (D : List Tmp) : Bool :=
  Region.noSelect l.toArray && ((List.range n).all fun i => (List.range i).all fun j => match l[i]?, l[j]? with | some oi, some oj => edgeTo oi j || oj.apart l.toArray oi | _, _ => true) &&
  (bars.all fun b => barB l n b D) && (l.take n).all fun o => (o.looksAt l.toArray).all fun t => decide (t < 1000000)

section
variable {P : Program} {l : List Oper} {n : Nat} {C : World → Prop} {bars : List Nat} {D : List Tmp} {Q : Exit → Act → World → Prop}

theorem edge_of {o : Oper} {j : Nat} (h : edgeTo o j = true) : ∃ e ∈ o.after, Region.binds .any e = true ∧ e.on = j := by
  obtain ⟨e, h1, h2⟩ := Array.any_eq_true'.1 h
  simp only [Bool.and_eq_true, beq_iff_eq] at h2
  exact ⟨e, h1, h2.1, h2.2⟩

/-- What is told of the operations that have come up. -/
structure Up (l : List Oper) (n : Nat) (r : List (Oper × Nat)) (listed : Array Bool) : Prop where
  size : listed.size = l.length
  tail : ∀ j, n ≤ j → j < l.length → listed.getD j true = false
  mem : ∀ x j, (x, j) ∈ r ↔ j < n ∧ l[j]? = some x ∧ listed.getD j true = false
  order : r.Pairwise fun p q => p.2 < q.2
  closed : ∀ j x, l[j]? = some x → listed.getD j false = true → ∀ e ∈ x.after, Region.binds .any e = true → listed.getD e.on false = true

theorem up_listed {r : List (Oper × Nat)} {listed : Array Bool} (h : Up l n r listed) {j : Nat} (hj : j < l.length) (hn : j < n) (hr : ∀ x, (x, j) ∉ r) : listed.getD j false = true := by
  have hs : j < listed.size := by rw [h.size]; exact hj
  cases hc : listed.getD j false with
  | true => rfl
  | false =>
    refine absurd ((h.mem l[j] j).2 ⟨hn, List.getElem?_eq_getElem hj, ?_⟩) (hr _)
    simpa [hs] using hc

theorem getD_same {listed : Array Bool} {j : Nat} (h : j < listed.size) (b c : Bool) : listed.getD j b = listed.getD j c := by simp [h]

theorem ups_listed {listed : Array Bool} (hcl : ∀ j x, l[j]? = some x → listed.getD j false = true → ∀ e ∈ x.after, Region.binds .any e = true → listed.getD e.on false = true) {b : Nat} {o : Oper} (hb : l[b]? = some o)
    (hready : ∀ e ∈ o.after, Region.binds .any e = true → listed.getD e.on false = true) : ∀ (js U : List Nat), (∀ u ∈ U, listed.getD u false = true) → ∀ u ∈ ups l b js U, listed.getD u false = true
  | [], U, hU => hU
  | j :: js, U, hU => by
    unfold ups
    split
    · rename_i hany
      refine ups_listed hcl hb hready js _ fun u hu => ?_
      rcases List.mem_cons.1 hu with rfl | hu
      · obtain ⟨k, hk, he⟩ := List.any_eq_true.1 hany
        cases hlk : l[k]? with
        | none => rw [hlk] at he; cases he
        | some ok =>
          rw [hlk] at he
          obtain ⟨e, h1, h2, h3⟩ := edge_of (by simpa using he)
          rcases List.mem_cons.1 hk with rfl | hk
          · rw [hb] at hlk
            cases hlk
            exact h3 ▸ hready e h1 h2
          · exact h3 ▸ hcl k ok hlk (hU k hk) e h1 h2
      · exact hU u hu
    · exact ups_listed hcl hb hready js U hU

/-- Behind a bar nothing has come up before it has. -/
theorem bar_first {listed : Array Bool} (hcl : ∀ j x, l[j]? = some x → listed.getD j false = true → ∀ e ∈ x.after, Region.binds .any e = true → listed.getD e.on false = true)
    (hedge : ∀ i o, i < n → l[i]? = some o → ∀ e ∈ o.after, Region.binds .any e = true → e.on < i) {b : Nat}
    (hB : ∀ k, k < n → b < k → ∀ o, l[k]? = some o → ∃ e ∈ o.after, Region.binds .any e = true ∧ b ≤ e.on) (hn : n ≤ l.length) : ∀ k, k < n → b < k → listed.getD k false = true → listed.getD b false = true := by
  intro k
  induction k using Nat.strongRecOn with
  | _ k ih =>
    intro hk hbk hl
    have hx : l[k]? = some (l[k]'(by omega)) := List.getElem?_eq_getElem (by omega)
    obtain ⟨e, h1, h2, h3⟩ := hB k hk hbk _ hx
    have h4 := hcl k _ hx hl e h1 h2
    have h5 := hedge k _ hk hx e h1 h2
    rcases Nat.lt_or_ge b e.on with h | h
    · exact ih e.on h5 (by omega) h h4
    · have : e.on = b := by omega
      exact this ▸ h4

theorem facts_any (hn : n ≤ l.length) (he : ∀ i o, i < n → l[i]? = some o → ∀ e ∈ o.after, Region.binds .any e = true → e.on < i)
    (ht : ∀ o ∈ l.drop n, ∀ i, i < n → ∃ e ∈ o.after, Region.binds .any e = true ∧ e.on = i)
    (hq : Region.seqB .any l.toArray (l.length - n) n (Array.replicate n true ++ Array.replicate (l.length - n) false) = true)
    (hF : factsB l n bars D = true) :
    ∀ (f : Nat) (r : List (Oper × Nat)) (listed : Array Bool) (a : Act) (w : World) (kn : Kn), r.length = f → Up l n r listed → C w → (∀ p ∈ kn, ∀ V, p.2 V w) →
      (∀ p ∈ kn, ∀ V w w', p.2 V w → Below w.heap.size w w' → p.2 V w') → (∀ p ∈ kn, ∀ V V', p.2 V = p.2 V') → (∀ p ∈ kn, p.1 ∈ D) →
      wpF P l.toArray C bars D (fun a w => wpList P l.toArray Q (l.drop n) a w) r (fun _ => a) kn → wpAny P .any l.toArray Q (f + (l.length - n)) listed a w := by
  unfold factsB at hF
  simp only [Bool.and_eq_true, List.all_eq_true, List.mem_range] at hF
  obtain ⟨⟨⟨hsel, hap⟩, hbars⟩, hlook⟩ := hF
  have hsel' := Region.noSelect_spec hsel
  intro f
  induction f with
  | zero =>
    intro r listed a w kn hr hU hC hk _ _ _ h
    obtain rfl := List.eq_nil_of_length_eq_zero hr
    have e : listed = Array.replicate n true ++ Array.replicate (l.length - n) false := by
      apply Array.ext (by simp [hU.size]; omega)
      intro i h1 h2
      have hi : i < l.length := by rw [← hU.size]; exact h1
      by_cases hin : i < n
      · have := up_listed hU hi hin (by simp)
        simp only [Array.getD, h1, dite_true] at this
        simp [hin]
        exact this
      · have := hU.tail i (by omega) hi
        simp only [Array.getD, h1, dite_true] at this
        simp [Array.getElem_append, hin]
        exact this
    rw [e]
    have := wpAny_of_seq (md := .any) (ops := l.toArray) (Q' := Q) (P := P) (l.drop n) n (Array.replicate n true ++ Array.replicate (l.length - n) false) a w (fun j => by simp [List.getElem?_drop]) (by simpa using hq)
      (h (fun _ => undef) w hC fun p hp => hk p hp _)
    simpa using this
  | succ f ih =>
    intro r listed a w kn hr hU hC hk hst hco hkd h
    rw [show f + 1 + (l.length - n) = (f + (l.length - n)) + 1 by omega]
    -- the first of those that are left may come up
    obtain ⟨⟨x0, j0⟩, r', rfl⟩ : ∃ q r', r = q :: r' := by cases r with | nil => cases hr | cons q r' => exact ⟨q, r', rfl⟩
    obtain ⟨hj0, hx0, hl0⟩ := (hU.mem x0 j0).1 List.mem_cons_self
    have hready0 : j0 ∈ Region.ready .any l.toArray listed := by
      refine mem_ready.2 ⟨hl0, x0, by simpa using hx0, fun e hem hb => ?_⟩
      have h1 := he j0 x0 hj0 hx0 e hem hb
      refine up_listed hU (by omega) (by omega) fun y hy => ?_
      rcases List.mem_cons.1 hy with hy | hy
      · injection hy with _ hy; omega
      · have := (List.pairwise_cons.1 hU.order).1 _ hy
        simp only at this
        omega
    refine ⟨fun h0 => (by rw [h0] at hready0; cases hready0), fun i hi => ?_⟩
    obtain ⟨hun, o, ho, hall⟩ := mem_ready.1 hi
    have ho' : l[i]? = some o := by simpa using ho
    have hil : i < l.length := (List.getElem?_eq_some_iff.1 ho').1
    have hin : i < n := by
      rcases Nat.lt_or_ge i n with h' | h'
      · exact h'
      · exfalso
        have hmem : o ∈ l.drop n := List.mem_of_getElem? (i := i - n) (by rw [List.getElem?_drop, show n + (i - n) = i by omega]; exact ho')
        obtain ⟨e, hem, hb, hon⟩ := ht o hmem j0 hj0
        have h1 := hall e hem hb
        rw [hon] at h1
        rw [getD_same (by rw [hU.size]; omega) true false] at hl0
        rw [hl0] at h1; cases h1
    have hmem : (o, i) ∈ (x0, j0) :: r' := (hU.mem o i).2 ⟨hin, ho', hun⟩
    obtain ⟨pre, post, hsplit⟩ := List.append_of_mem hmem
    rw [hsplit] at h hU hr
    have hord := List.pairwise_append.1 hU.order
    have hpre : ∀ q ∈ pre, q.2 < i := fun q hqm => hord.2.2 q hqm (o, i) List.mem_cons_self
    have hpost : ∀ q ∈ post, i < q.2 := fun q hqm => (List.pairwise_cons.1 hord.2.1).1 q hqm
    have hin_pre : ∀ q ∈ pre, q.2 < n ∧ l[q.2]? = some q.1 ∧ listed.getD q.2 true = false := fun q hqm => (hU.mem q.1 q.2).1 (List.mem_append_left _ hqm)
    have hlo : ∀ t ∈ o.looksAt l.toArray, t < 1000000 := fun t htm => by
      have h1 := hlook o (List.mem_of_getElem? (i := i) (by rw [List.getElem?_take, if_pos hin]; exact ho'))
      simpa using h1 t htm
    have hunl : ∀ q ∈ pre, ∀ e ∈ o.after, Region.binds .any e = true → e.on ≠ q.2 := fun q hqm e hem hb hon => by
      have h1 := hall e hem hb
      obtain ⟨g1, g2, g3⟩ := hin_pre q hqm
      rw [hon, getD_same (by rw [hU.size]; omega) false true, g3] at h1
      cases h1
    have take := wpF_take (P := P) (C := C) (bars := bars) (D := D) (fun cs b => hsel' i o cs b ho) hlo h
      (fun q hqm => by rcases List.mem_append.1 hqm with h' | h'
                       · exact Nat.ne_of_lt (hpre q h')
                       · exact Nat.ne_of_gt (hpost q h'))
      ⟨fun _ _ => rfl, fun p hp V v => hco p hp _ _⟩
      (fun q hqm => by
        obtain ⟨g1, g2, g3⟩ := hin_pre q hqm
        refine ⟨?_, fun cs b => hsel' q.2 q.1 cs b (by simpa using g2), ?_⟩
        · have h1 := hap i hin q.2 (hpre q hqm)
          rw [ho', g2] at h1
          simp only [Bool.or_eq_true] at h1
          rcases h1 with h1 | h1
          · obtain ⟨e, hem, hb, hon⟩ := edge_of h1
            exact absurd hon (hunl q hqm e hem hb)
          · exact h1
        · intro hb
          have h1 := hbars q.2 hb
          unfold barB at h1
          simp only [Bool.and_eq_true, List.all_eq_true, List.mem_range, Bool.or_eq_true, decide_eq_true_eq] at h1
          have hB : ∀ k, k < n → q.2 < k → ∀ o, l[k]? = some o → ∃ e ∈ o.after, Region.binds .any e = true ∧ q.2 ≤ e.on := fun k hkn hlt o hk' => by
            have h2 := h1.1.2 k hkn
            rw [hk'] at h2
            rcases h2 with h2 | h2
            · omega
            · obtain ⟨e, g1, g2⟩ := Array.any_eq_true'.1 (by simpa only [Option.map_some, Option.getD_some] using h2)
              simp only [Bool.and_eq_true, decide_eq_true_eq] at g2
              exact ⟨e, g1, g2.1, g2.2⟩
          obtain ⟨e, hem, hbd, hle⟩ := hB i hin (hpre q hqm) o ho'
          have h3 := hall e hem hbd
          have h4 : listed.getD q.2 false = true := by
            rcases Nat.lt_or_ge q.2 e.on with h' | h'
            · exact bar_first hU.closed he hB hn e.on (by have := he i o hin ho' e hem hbd; omega) h' h3
            · have : e.on = q.2 := by omega
              exact this ▸ h3
          rw [getD_same (by rw [hU.size]; omega) false true, g3] at h4
          cases h4)
      hkd
      (fun hb q hqm d hd => by
        obtain ⟨g1, g2, g3⟩ := hin_pre q hqm
        have h1 := hbars i hb
        unfold barB at h1
        simp only [Bool.and_eq_true, List.all_eq_true, List.mem_range, Bool.or_eq_true, decide_eq_true_eq] at h1
        rcases h1.2 q.2 (hpre q hqm) with h2 | h2
        · have h3 := ups_listed hU.closed ho' hall _ [] (fun u hu => by cases hu) q.2 (by simpa using h2)
          rw [getD_same (by rw [hU.size]; omega) false true, g3] at h3
          cases h3
        · rw [g2] at h2
          have h4 := List.all_eq_true.1 (by simpa using h2 : D.all (fun d => !(q.1.looksAt l.toArray).contains d) = true) d hd
          simpa using h4)
    -- what is left behind it
    have hU' : Up l n (pre ++ post) (listed.setIfInBounds i true) := by
      refine ⟨by simp [hU.size], fun j h1 h2 => by rw [getD_set_ne true (by omega)]; exact hU.tail j h1 h2, fun x j => ?_, ?_, fun j x hx hl e hem hb => ?_⟩
      · have hne : ∀ q, q ∈ pre ++ post → q.2 ≠ i := fun q hqm => by
          rcases List.mem_append.1 hqm with h' | h'
          · exact Nat.ne_of_lt (hpre q h')
          · exact Nat.ne_of_gt (hpost q h')
        constructor
        · intro hm
          have hji := hne _ hm
          have hm' : (x, j) ∈ pre ++ (o, i) :: post := by
            rcases List.mem_append.1 hm with h' | h'
            · exact List.mem_append_left _ h'
            · exact List.mem_append_right _ (List.mem_cons_of_mem _ h')
          obtain ⟨g1, g2, g3⟩ := (hU.mem x j).1 hm'
          exact ⟨g1, g2, by rw [getD_set_ne true (Ne.symm hji)]; exact g3⟩
        · rintro ⟨g1, g2, g3⟩
          have hji : j ≠ i := by
            rintro rfl
            have : j < listed.size := by rw [hU.size]; omega
            simp [this] at g3
          rw [getD_set_ne true (Ne.symm hji)] at g3
          have hm := (hU.mem x j).2 ⟨g1, g2, g3⟩
          rcases List.mem_append.1 hm with h' | h'
          · exact List.mem_append_left _ h'
          · rcases List.mem_cons.1 h' with h' | h'
            · injection h' with _ h'; exact absurd h' hji
            · exact List.mem_append_right _ h'
      · refine List.pairwise_append.2 ⟨hord.1, (List.pairwise_cons.1 hord.2.1).2, fun p hp q hqm => hord.2.2 p hp q (List.mem_cons_of_mem _ hqm)⟩
      · by_cases hji : j = i
        · subst hji
          rw [ho'] at hx
          cases hx
          exact getD_set_true (hall e hem hb)
        · rw [getD_set_ne false (Ne.symm hji)] at hl
          exact getD_set_true (hU.closed j x hx hl e hem hb)
    have hlen : (pre ++ post).length = f := by simp at hr ⊢; omega
    unfold wpOp
    simp only [ho]
    rcases take with ⟨g1, g2⟩ | ⟨g1, F, m, keep, g2, g3, gd, g4, g5⟩
    · have := g1 fun _ => undef
      rw [if_neg (by rw [this]; exact Bool.false_ne_true)]
      exact ih _ _ _ _ kn hlen hU' hC hk hst hco hkd g2
    · have := g1 fun _ => undef
      rw [if_pos this]
      refine .inl (wp_of_to (g4 (fun _ => undef) w hC fun p hp _ => hk p hp _) fun v w' ⟨hFv, hC', hkp⟩ => ?_)
      have hsub : ∀ p ∈ addK m (keyOf (o, i)) (fun _ => F v) (if keep then kn else []), ((m = none ∧ p.1 = keyOf (o, i)) ∧ p.2 = fun _ => F v) ∨ (keep = true ∧ p ∈ kn) := fun p hp => by
        rcases mem_addK hp with ⟨h1, h2, h'⟩ | h'
        · exact .inl ⟨⟨h1, h2⟩, h'⟩
        · cases keep
          · cases h'
          · exact .inr ⟨rfl, h'⟩
      refine ih _ _ _ _ _ hlen hU' hC' (fun p hp V => ?_) (fun p hp V w1 w2 h1 h2 => ?_) (fun p hp V V' => ?_) (fun p hp => ?_) (g5 v w' hFv)
      · rcases hsub p hp with ⟨_, h'⟩ | ⟨hkt, h'⟩
        · rw [h']; exact hFv
        · exact hst p h' V w w' (hk p h' V) (hkp hkt)
      · rcases hsub p hp with ⟨_, h'⟩ | ⟨hkt, h'⟩
        · rw [h'] at h1 ⊢; exact g2 _ _ _ h1 h2
        · exact hst p h' V w1 w2 h1 h2
      · rcases hsub p hp with ⟨_, h'⟩ | ⟨hkt, h'⟩
        · rw [h']
        · exact hco p h' V V'
      · rcases hsub p hp with ⟨⟨h1, h'⟩, _⟩ | ⟨hkt, h'⟩
        · rw [h']; exact gd h1
        · exact hkd p h'

/-- **One walk in the order of the text serves every order**, facts and bars let in. -/
theorem wp_region_facts {id : Nat} {a : Act} {w : World} (n : Nat) (bars : List Nat) (D : List Tmp) (hm : P.follows .mixedOrders = true) (hT : tailB l n = true) (hF : factsB l n bars D = true) (hC : C { w with drawn := w.drawn + 1 })
    (h : wpF P l.toArray C bars D (fun a w => wpList P l.toArray Q (l.drop n) a w) (l.take n).zipIdx (fun _ => a) []) : (Code.region id l.toArray true).wp P Q a w := by
  unfold tailB at hT
  simp only [Bool.and_eq_true, decide_eq_true_eq] at hT
  obtain ⟨⟨⟨⟨hn, hg⟩, he⟩, ht⟩, hq⟩ := hT
  refine wp_region_any hm ?_
  have hlen : (l.take n).zipIdx.length = n := by simp; omega
  have K := facts_any (P := P) (C := C) (bars := bars) (D := D) (Q := Q) hn
    (fun i o hi ho e hem hb => by
      have := List.all_eq_true.1 he i (List.mem_range.2 hi)
      rw [ho] at this
      simp only [Option.map_some, Option.getD_some, Array.all_eq_true_iff_forall_mem] at this
      have h2 := this e hem
      simpa [hb] using h2)
    (fun o ho i hi => by
      have h1 := List.all_eq_true.1 ht o ho
      have h2 := List.all_eq_true.1 h1 i (List.mem_range.2 hi)
      obtain ⟨e, hem, hb⟩ := Array.any_eq_true'.1 h2
      simp only [Bool.and_eq_true, beq_iff_eq] at hb
      exact ⟨e, hem, hb.1, hb.2⟩)
    hq hF n (l.take n).zipIdx (Array.replicate l.length false) a { w with drawn := w.drawn + 1 } [] hlen
    ⟨by simp, fun j _ hj => by simp [hj], fun x j => by
        rw [List.mem_zipIdx_iff_getElem?]
        simp only [List.getElem?_take]
        constructor
        · intro h'
          split at h'
          · rename_i hj
            exact ⟨hj, h', by have := (List.getElem?_eq_some_iff.1 h').1; simp [this]⟩
          · cases h'
        · rintro ⟨g1, g2, _⟩
          rw [if_pos g1]; exact g2,
      by
        rw [List.pairwise_iff_getElem]
        intro i j hi hj hij
        simp only [List.getElem_zipIdx]
        omega,
      fun j x hx hl => by
        have := (List.getElem?_eq_some_iff.1 hx).1
        simp [this] at hl⟩
    hC (fun p hp => by cases hp) (fun p hp => by cases hp) (fun p hp => by cases hp) (fun p hp => by cases hp) h
  rw [show n + (l.length - n) = l.toArray.size by simp; omega] at K
  exact K
end
/-! ### One operation -/
section
variable {P : Program} {ops : Array Oper} {W : World} {C : World → Prop} {D : List Tmp} {bars : List Nat} {Q : Act → World → Prop} {o : Oper} {i : Nat} {rest : List (Oper × Nat)} {Fr : (Nat → Value) → Act} {kn : Kn}

/-- A class of worlds that new memory does not leave. -/
structure Cls (C : World → Prop) : Prop where
  grow : ∀ w w', C w → Below w.heap.size w w' → C w'
/-- What was there when the region began is as it was. -/
def Free (W : World) : World → Prop := fun w => Below W.heap.size W w
theorem cls_free (W : World) : Cls (Free W) := ⟨fun _ _ h hb => Below.trans h (hb.mono (Below.size h))⟩
theorem free_draw (W : World) : Free W { W with drawn := W.drawn + 1 } := ⟨rfl, rfl, rfl, Nat.le_refl _, fun _ _ => rfl⟩
/-- The same, but for one variable of n cells. -/
def Row (W : World) (g : Nat) (t : TypeId) (n : Nat) : World → Prop := fun w => But g W w ∧ ∃ old, Whole w g t old ∧ old.size = n
theorem cls_row (W : World) (g : Nat) (t : TypeId) (n : Nat) : Cls (Row W g t n) := ⟨fun _ _ ⟨h, old, h1, h2⟩ hb => ⟨h.trans (But.of g hb), old, h1.on hb, h2⟩⟩
theorem row_draw {W : World} {g : Nat} {t : TypeId} {cs : Array Value} (h : Whole W g t cs) : Row W g t cs.size { W with drawn := W.drawn + 1 } := ⟨⟨rfl, rfl, rfl, Nat.le_refl _, fun _ _ _ => rfl⟩, cs, h, rfl⟩

theorem f_nil (h : ∀ V w, C w → (∀ p ∈ kn, p.2 V w) → Q (Fr V) w) : wpF P ops C bars D Q [] Fr kn := h
theorem f_skip (hw : ∀ V, Region.wanted o (yielded ops (Fr V).tmps) = false) (h : wpF P ops C bars D Q rest (fun V => (Fr V).put o.dst undef) kn) : wpF P ops C bars D Q ((o, i) :: rest) Fr kn := .inl ⟨hw, h⟩

/-- It comes to just this value. -/
theorem f_is (hcl : Cls C) (hw : ∀ V, Region.wanted o (yielded ops (Fr V).tmps) = true) (c : Value)
    (h : ∀ V w, C w → knows ops o kn V w → opTo P o (Fr V) w (fun v w' => v = c ∧ Below w.heap.size w w')) (hr : wpF P ops C bars D Q rest (fun V => (Fr V).put o.dst c) kn) :
    wpF P ops C bars D Q ((o, i) :: rest) Fr kn :=
  .inr ⟨hw, fun v _ => v = c, some c, true, fun v w w' h _ => h, (fun h => by cases h), (fun h => by cases h), (fun d hd v w hv => by cases hd; exact hv), fun V w hC hk => by
    have := h V w hC hk
    unfold opTo at this ⊢
    generalize (execOp (Fr V).eval o).run P w = r at *
    cases r with
    | ok n w' =>
      cases n <;> simp only [uponV] at this ⊢
      case value u => exact ⟨this.1, hcl.grow _ _ hC this.2, fun _ => this.2⟩
      case skip => exact ⟨this.1, hcl.grow _ _ hC this.2, fun _ => this.2⟩
      case enter f args => exact this.mono fun e w'' ⟨v, he, hv, hb'⟩ => ⟨v, he, hv, hcl.grow _ _ hC hb', fun _ => hb'⟩
    | halt x w' => simp only [uponV] at this, by simpa [addK] using hr⟩

/-- It comes to a value of which F holds. -/
theorem f_fact (hcl : Cls C) (F : Value → World → Prop) (hw : ∀ V, Region.wanted o (yielded ops (Fr V).tmps) = true) (hd : keyOf (o, i) ∈ D) (hs : Stays F)
    (h : ∀ V w, C w → knows ops o kn V w → opTo P o (Fr V) w (fun v w' => F v w' ∧ Below w.heap.size w w')) (hr : wpF P ops C bars D Q rest (fun V => (Fr V).put o.dst (V i)) ((keyOf (o, i), fun V => F (V i)) :: kn)) :
    wpF P ops C bars D Q ((o, i) :: rest) Fr kn :=
  .inr ⟨hw, F, none, true, hs, (fun h => by cases h), (fun _ => hd), (fun d hd => by cases hd), fun V w hC hk => by
    have := h V w hC hk
    unfold opTo at this ⊢
    generalize (execOp (Fr V).eval o).run P w = r at *
    cases r with
    | ok n w' =>
      cases n <;> simp only [uponV] at this ⊢
      case value u => exact ⟨this.1, hcl.grow _ _ hC this.2, fun _ => this.2⟩
      case skip => exact ⟨this.1, hcl.grow _ _ hC this.2, fun _ => this.2⟩
      case enter f args => exact this.mono fun e w'' ⟨v, he, hv, hb'⟩ => ⟨v, he, hv, hcl.grow _ _ hC hb', fun _ => hb'⟩
    | halt x w' => simp only [uponV] at this, hr⟩

/-- A bar: it may write what the region itself has made, or the class's variable. -/
theorem f_bar (F : Value → World → Prop) (hw : ∀ V, Region.wanted o (yielded ops (Fr V).tmps) = true) (hi : i ∈ bars) (hd : keyOf (o, i) ∈ D) (hs : Stays F)
    (h : ∀ V w, C w → knows ops o kn V w → opTo P o (Fr V) w (fun v w' => F v w' ∧ C w')) (hr : wpF P ops C bars D Q rest (fun V => (Fr V).put o.dst (V i)) [(keyOf (o, i), fun V => F (V i))]) :
    wpF P ops C bars D Q ((o, i) :: rest) Fr kn :=
  .inr ⟨hw, F, none, false, hs, (fun _ => hi), (fun _ => hd), (fun d hd => by cases hd), fun V w hC hk => by
    have := h V w hC hk
    unfold opTo at this ⊢
    generalize (execOp (Fr V).eval o).run P w = r at *
    cases r with
    | ok n w' =>
      cases n <;> simp only [uponV] at this ⊢
      case value u => exact ⟨this.1, this.2, (fun h => by cases h)⟩
      case skip => exact ⟨this.1, this.2, (fun h => by cases h)⟩
      case enter f args => exact this.mono fun e w'' ⟨v, he, hv, hb'⟩ => ⟨v, he, hv, hb', (fun h => by cases h)⟩
    | halt x w' => simp only [uponV] at this, hr⟩

theorem to_run {a : Act} {w w' : World} {R : Value → World → Prop} {v : Value} (h : (execOp a.eval o).run P w = .ok (.value v) w') (hR : R v w') : opTo P o a w R := by
  unfold opTo
  rw [h]
  exact hR
theorem to_run' {a : Act} {w w' : World} {R : Value → World → Prop} (h : (execOp a.eval o).run P w = .ok .skip w') (hR : R undef w') : opTo P o a w R := by
  unfold opTo
  rw [h]
  exact hR
theorem to_call {a : Act} {w : World} {R : Value → World → Prop} (f : FuncId) (xs : Array Operand) (ts : Array TypeId) (ho : o.op = .call { callee := .value (.func f), args := xs, argTypes := ts }) (args : Array Value) (henter : Enters P f)
    (hargs' : xs.toList.map a.eval = args.toList) (hc : Calls P f args w fun e w' => ∃ v, e = .returned v ∧ R v w') : opTo P o a w R := by
  have hargs : xs.map a.eval = args := by apply Array.toList_inj.1; simpa using hargs'
  have hrun : (execOp a.eval o).run P w = .ok (.enter f args) w := by
    have := henter args w
    simp [execOp, ho, resolve, Deferred.ofValue, invoke, Act.eval, hargs, this]
  unfold opTo
  rw [hrun]
  exact hc

/-- By a quiet step in every single world. -/
theorem f_quiet (hcl : Cls C) (hw : ∀ V, Region.wanted o (yielded ops (Fr V).tmps) = true) (hd : ∀ V, ∃ d, o.dst = some d ∧ d < (Fr V).tmps.size)
    (hx : ∃ c, (∀ V w, C w → ∀ K : Act → Prop, K ((Fr V).put o.dst c) → o.quiet P (Fr V) (fun w' => w' = w) K) ∧ wpF P ops C bars D Q rest (fun V => (Fr V).put o.dst c) kn) :
    wpF P ops C bars D Q ((o, i) :: rest) Fr kn := by
  obtain ⟨c, h, hr⟩ := hx
  refine f_is hcl hw c (fun V w hb _ => ?_) hr
  obtain ⟨v, h1, h2⟩ := h V w hb (fun a' => a' = (Fr V).put o.dst c) rfl
  obtain ⟨d, hd1, hd2⟩ := hd V
  have hv : v = c := by
    have := congrArg (fun a : Act => a.tmps[d]?) h2
    simpa [hd1, Act.put, hd2] using this
  subst hv
  have h3 := h1 w rfl
  unfold Oper.quietAt at h3
  unfold opTo
  generalize (execOp (Fr V).eval o).run P w = r at *
  cases r with
  | ok n w' =>
    cases n <;> simp only [Oper.quietUpon] at h3 <;> simp only [uponV]
    case value u => obtain ⟨rfl, rfl⟩ := h3; exact ⟨rfl, Below.refl _ _⟩
    case skip => obtain ⟨rfl, e⟩ := h3; exact ⟨e.symm, Below.refl _ _⟩
    case enter f args => obtain ⟨rfl, hc⟩ := h3; exact hc.mono fun e w'' ⟨he, hw'⟩ => ⟨v, he, rfl, by rw [hw']; exact Below.refl _ _⟩
  | halt x w' => simp only [Oper.quietUpon] at h3

/-- A call that hands back just this value. -/
theorem f_call (hcl : Cls C) (hw : ∀ V, Region.wanted o (yielded ops (Fr V).tmps) = true) (f : FuncId) (xs : Array Operand) (ts : Array TypeId) (ho : o.op = .call { callee := .value (.func f), args := xs, argTypes := ts }) (henter : Enters P f)
    (args : (Nat → Value) → Array Value) (c : Value) (hc : ∀ V w, C w → knows ops o kn V w → Calls P f (args V) w fun e w' => e = .returned c ∧ Below w.heap.size w w')
    (hargs : ∀ V, xs.toList.map (Fr V).eval = (args V).toList) (hr : wpF P ops C bars D Q rest (fun V => (Fr V).put o.dst c) kn) : wpF P ops C bars D Q ((o, i) :: rest) Fr kn :=
  f_is hcl hw c (fun V w hb hk => to_call f xs ts ho (args V) henter (hargs V) ((hc V w hb hk).mono fun _ _ ⟨he, hb'⟩ => ⟨c, he, rfl, hb'⟩)) hr
/-- A call that hands back a value of which F holds. -/
theorem f_callF (hcl : Cls C) (F : Value → World → Prop) (hs : Stays F) (hw : ∀ V, Region.wanted o (yielded ops (Fr V).tmps) = true) (hd : keyOf (o, i) ∈ D) (f : FuncId) (xs : Array Operand) (ts : Array TypeId) (ho : o.op = .call { callee := .value (.func f), args := xs, argTypes := ts }) (henter : Enters P f)
    (args : (Nat → Value) → Array Value) (hc : ∀ V w, C w → knows ops o kn V w → Calls P f (args V) w fun e w' => ∃ v, e = .returned v ∧ F v w' ∧ Below w.heap.size w w')
    (hargs : ∀ V, xs.toList.map (Fr V).eval = (args V).toList) (hr : wpF P ops C bars D Q rest (fun V => (Fr V).put o.dst (V i)) ((keyOf (o, i), fun V => F (V i)) :: kn)) : wpF P ops C bars D Q ((o, i) :: rest) Fr kn :=
  f_fact hcl F hw hd hs (fun V w hb hk => to_call f xs ts ho (args V) henter (hargs V) (hc V w hb hk)) hr

theorem knows.slot {V : Nat → Value} {w : World} (h : knows ops o kn V w) (s : Nat) {p : Tmp × ((Nat → Value) → World → Prop)} (hp : kn.find? (fun p => p.1 == s) = some p) (hl : (o.looksAt ops).contains p.1 = true) : p.2 V w :=
  h p (List.mem_of_find?_eq_some hp) (by simpa using hl)
theorem all_slot {V : Nat → Value} {w : World} (h : ∀ p ∈ kn, p.2 V w) (s : Nat) {p : Tmp × ((Nat → Value) → World → Prop)} (hp : kn.find? (fun p => p.1 == s) = some p) : p.2 V w := h p (List.mem_of_find?_eq_some hp)

/-! Facts on slices -/
def fSV (xs : List Value) : Value → World → Prop := fun v w => SV w v xs
def fOwn (B : Nat) (e : TypeId) (xs : List Value) : Value → World → Prop := fun v w => w.ownsRow B e 1 v xs.length xs
def fNone (B : Nat) (e : TypeId) : Value → World → Prop := fun v w => w.ownsRow B e 1 v 0 [] ∧ ∃ A, v = .slice A 0 0
theorem stays_sv (xs : List Value) : Stays (fSV xs) := fun _ _ _ h hb => SV.keep h (Keeps.below hb)
theorem stays_own (B : Nat) (e : TypeId) (xs : List Value) : Stays (fOwn B e xs) := fun _ _ _ h hb => ownsRow_later h hb
theorem stays_none (B : Nat) (e : TypeId) : Stays (fNone B e) := fun _ _ _ h hb => ⟨ownsRow_later h.1 hb, h.2⟩
theorem fOwn.sv {B : Nat} {e : TypeId} {xs : List Value} {v : Value} {w : World} (h : fOwn B e xs v w) : SV w v xs := SV.own h

/-- Append onto the region's own row: a bar. -/
theorem f_app (s x : Operand) (t : TypeId) (ho : o.op = .call { callee := .builtin .append, args := #[s, x], argTypes := #[t, t] }) (e : TypeId) (i0 : TypeInfo) (z : Value) (bytes : Nat) (ht : P.underlying t = some (.slice e)) (hi0 : P.info? e = some i0) (hz : i0.zero = some z)
    (hsize : i0.size = 1) (hby : i0.bytes = bytes) (hzs : z.cells.size = 1) (hw : ∀ V, Region.wanted o (yielded ops (Fr V).tmps) = true) (hi : i ∈ bars) (hD : keyOf (o, i) ∈ D) (B : Nat) (hB : ∀ w, C w → B ≤ w.heap.size) (hCB : ∀ w w', C w → Below B w w' → C w') (xs news : List Value) (sv xv : (Nat → Value) → Value)
    (hd : ∀ V w, C w → knows ops o kn V w → fOwn B e xs (sv V) w) (hsv : ∀ V w, C w → knows ops o kn V w → SV w (xv V) news) (h1 : ∀ u ∈ news, u.oneCell' = true)
    (h63 : xs.length + news.length ≤ maxLen) (hbytes : (xs.length + news.length) * bytes ≤ 140737488355328) (hs : ∀ V, (Fr V).eval s = sv V) (hx : ∀ V, (Fr V).eval x = xv V)
    (hr : wpF P ops C bars D Q rest (fun V => (Fr V).put o.dst (V i)) [(keyOf (o, i), fun V => fOwn B e (xs ++ news) (V i))]) : wpF P ops C bars D Q ((o, i) :: rest) Fr kn :=
  f_bar _ hw hi hD (stays_own _ _ _) (fun V w hb hk => by
    obtain ⟨v', w', hrun, happ⟩ := run_app (P := P) w B t o.type e i0 z bytes ht hi0 hz hsize hby hzs (sv V) xs (.inl (hd V w hb hk)) (xv V) news (hsv V w hb hk) h1 h63 hbytes (hB w hb)
    refine to_run (v := v') (w' := w') ?_ ⟨happ.own (.inr (hd V w hb hk)), hCB _ _ hb (happ.below (hB w hb))⟩
    unfold execOp
    simp only [ho, resolve, invoke, builtin, Sem.run_bind, Sem.run_pure, Result.andThen_ok, List.map_toArray, List.map_cons, List.map_nil, hs, hx, hrun]) hr

/-- Append onto a new slice of no element: it makes memory. -/
theorem f_app0 (hcl : Cls C) (s x : Operand) (t : TypeId) (ho : o.op = .call { callee := .builtin .append, args := #[s, x], argTypes := #[t, t] }) (e : TypeId) (i0 : TypeInfo) (z : Value) (bytes : Nat) (ht : P.underlying t = some (.slice e)) (hi0 : P.info? e = some i0) (hz : i0.zero = some z)
    (hsize : i0.size = 1) (hby : i0.bytes = bytes) (hzs : z.cells.size = 1) (hw : ∀ V, Region.wanted o (yielded ops (Fr V).tmps) = true) (hD : keyOf (o, i) ∈ D) (B : Nat) (hB : ∀ w, C w → B ≤ w.heap.size) (news : List Value) (sv xv : (Nat → Value) → Value)
    (hd : ∀ V w, C w → knows ops o kn V w → fNone B e (sv V) w) (hsv : ∀ V w, C w → knows ops o kn V w → SV w (xv V) news) (h1 : ∀ u ∈ news, u.oneCell' = true)
    (h63 : news.length ≤ maxLen) (hbytes : news.length * bytes ≤ 140737488355328) (hs : ∀ V, (Fr V).eval s = sv V) (hx : ∀ V, (Fr V).eval x = xv V)
    (hr : wpF P ops C bars D Q rest (fun V => (Fr V).put o.dst (V i)) ((keyOf (o, i), fun V => fOwn B e news (V i)) :: kn)) : wpF P ops C bars D Q ((o, i) :: rest) Fr kn :=
  f_fact hcl _ hw hD (stays_own _ _ _) (fun V w hb hk => by
    obtain ⟨hown, A, hA⟩ := hd V w hb hk
    have hsv' := hsv V w hb hk
    by_cases hne : news = []
    · subst hne
      obtain ⟨B, c, hB, _⟩ := hsv'
      refine to_run (v := sv V) (w' := w) ?_ ⟨hown, Below.refl _ _⟩
      have hrun := run_append_nosrc (P := P) w t o.type e i0 ht hi0 A 0 0 (Nat.le_refl _) B c
      rw [← hA] at hrun
      rw [show ([] : List Value).length = 0 from rfl] at hB
      rw [← hB] at hrun
      unfold execOp
      simp only [ho, resolve, invoke, builtin, Sem.run_bind, Sem.run_pure, Result.andThen_ok, List.map_toArray, List.map_cons, List.map_nil, hs, hx, hrun]
    · obtain ⟨v', w', hrun, happ⟩ := run_app (P := P) w w.heap.size t o.type e i0 z bytes ht hi0 hz hsize hby hzs (sv V) [] (.inr ⟨SV.own hown, A, by rw [hA]; rfl⟩) (xv V) news hsv' h1 (by simpa using h63) (by simpa using hbytes) (Nat.le_refl _)
      refine to_run (v := v') (w' := w') ?_ ⟨by have := happ.own (.inl hne); rw [List.nil_append] at this; exact own_lower this (hB w hb), happ.below (Nat.le_refl _)⟩
      unfold execOp
      simp only [ho, resolve, invoke, builtin, Sem.run_bind, Sem.run_pure, Result.andThen_ok, List.map_toArray, List.map_cons, List.map_nil, hs, hx, hrun]) hr

/-- A slice of no element, made. -/
theorem f_none (hcl : Cls C) (t e : TypeId) (ho : o.op = .buildSlice t 0 #[]) (hw : ∀ V, Region.wanted o (yielded ops (Fr V).tmps) = true) (hD : keyOf (o, i) ∈ D) (B : Nat) (hB : ∀ w, C w → B ≤ w.heap.size) (hrun : ∀ w, (Instr.buildSlice t 0 #[]).run P w = .ok (.slice (some ⟨w.heap.size, 0, none⟩) 0 0) (w.alloc (.cells #[] e)))
    (hr : wpF P ops C bars D Q rest (fun V => (Fr V).put o.dst (V i)) ((keyOf (o, i), fun V => fNone B e (V i)) :: kn)) : wpF P ops C bars D Q ((o, i) :: rest) Fr kn :=
  f_fact hcl _ hw hD (stays_none _ _) (fun V w hb hk => by
    refine to_run (v := .slice (some ⟨w.heap.size, 0, none⟩) 0 0) (w' := w.alloc (.cells #[] e)) ?_ ⟨⟨own_lower (World.ownsRow_lit w #[] 0 (Nat.le_refl _) (by decide) rfl) (hB w hb), _, rfl⟩, (Below.refl _ w).alloc (Nat.le_refl _) _⟩
    unfold execOp
    have : (#[] : Array (Nat × Operand)).map (fun (i, x) => (i, (Fr V).eval x)) = #[] := by simp
    simp only [ho, this, Sem.run_bind, Result.andThen_ok, Sem.run_pure, hrun]) hr

/-- A variable of several cells is read as a whole. -/
theorem f_load_row (hcl : Cls C) (hw : ∀ V, Region.wanted o (yielded ops (Fr V).tmps) = true) (ty : TypeId) (x : Operand) (ho : o.op = .load ty x) (g : Nat) (hx : ∀ V, (Fr V).eval x = .pointer (some ⟨g, 0, none⟩)) (t : TypeId) (cs : Array Value) (d : TypeDesc)
    (hg : ∀ w, C w → Whole w g t cs) (hu : P.underlying ty = some d) (hd : (match d with | .struct _ | .array _ _ => true | _ => false) = true) (hi : (P.info? ty).map (·.size) = some cs.size)
    (hr : wpF P ops C bars D Q rest (fun V => (Fr V).put o.dst (.agg cs)) kn) : wpF P ops C bars D Q ((o, i) :: rest) Fr kn :=
  f_is hcl hw (.agg cs) (fun V w hb _ => by
    refine to_run (v := .agg cs) (w' := w) ?_ ⟨rfl, Below.refl _ _⟩
    unfold execOp
    simp only [ho, hx, Instr.loadAt, Instr.sureAddr, Sem.run_bind, Sem.run_pure, Result.andThen_ok, run_loadVar_row w g t ty cs (0, 0) d (hg w hb) hu hd hi]) hr
/-- One cell is read. -/
theorem f_load_cell (hcl : Cls C) (hw : ∀ V, Region.wanted o (yielded ops (Fr V).tmps) = true) (ty : TypeId) (x : Operand) (ho : o.op = .load ty x) (p : Addr) (hx : ∀ V, (Fr V).eval x = .pointer (some p)) (v : Value) (hc : ∀ w, C w → w.cell? p = some v) (d : TypeDesc)
    (hu : P.underlying ty = some d) (hd : (match d with | .struct _ | .array _ _ => true | _ => false) = false)
    (hr : wpF P ops C bars D Q rest (fun V => (Fr V).put o.dst v) kn) : wpF P ops C bars D Q ((o, i) :: rest) Fr kn :=
  f_is hcl hw v (fun V w hb _ => by
    have hc' := hc w hb
    have h1 := run_isAgg_plain (P := P) hu hd w
    refine to_run (v := v) (w' := w) ?_ ⟨rfl, Below.refl _ _⟩
    unfold execOp
    simp only [ho, hx, Instr.loadAt, Instr.sureAddr, Sem.run_bind, Sem.run_pure, Result.andThen_ok, loadVar, h1, run_load, hc', Bool.false_eq_true, if_false]) hr
/-- The class's variable is written as a whole: a bar. -/
theorem f_store_row {g : Nat} {t : TypeId} {n : Nat} (hw : ∀ V, Region.wanted o (yielded ops (Fr V).tmps) = true) (hi : i ∈ bars) (hD : keyOf (o, i) ∈ D) (ty : TypeId) (x y : Operand) (ho : o.op = .store ty x y) (cells : Array Value)
    (hx : ∀ V, (Fr V).eval x = .pointer (some ⟨g, 0, none⟩)) (hy : ∀ V, (Fr V).eval y = .agg cells) (hn : cells.size = n) (hi' : (P.info? ty).map (·.size) = some cells.size) (h1 : cells.all (·.oneCell') = true)
    (hr : wpF P ops (Row W g t n) bars D Q rest (fun V => (Fr V).put o.dst (V i)) [(keyOf (o, i), fun _ w => Whole w g t cells)]) : wpF P ops (Row W g t n) bars D Q ((o, i) :: rest) Fr kn :=
  f_bar (fun _ w => Whole w g t cells) hw hi hD (fun _ _ _ h hb => h.on hb) (fun V w ⟨hb, old, hold, hs⟩ _ => by
    have hwh : Whole (w.setRow g cells) g t cells := setRow_heap _ _ _ _ _ _ hold
    refine to_run' ?_ ⟨hwh, ⟨hb.trans ⟨rfl, rfl, rfl, by simp [World.setRow], fun j _ hne => setRow_other w g j _ (fun h => hne (by rw [h]))⟩, cells, hwh, hn⟩⟩
    unfold execOp
    simp only [ho, hx, hy, Instr.storeAt, Instr.sureAddr, Sem.run_bind, Sem.run_pure, Result.andThen_ok, run_storeVar_row w g t ty old cells hold hi' (by omega) h1]) hr
end
end Go.Proofs.YtlpgmmcdcjkkiaaDoor
