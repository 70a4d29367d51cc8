/- A list of operations that goes in the text's order, by the rules for a region that draws its order (facts, exact values, operations that do not run): in a loop's round, where the walk's own steps are slow. Nothing here speaks of the program. -/
import Derived.Test.YtlpgmmcdcjkkiaaDoorFacts
namespace Go.Proofs.YtlpgmmcdcjkkiaaDoor
set_option maxRecDepth 20000
open Go.RowKit Go.Sort

section
variable {P : Program} {ops : Array Oper} {C : World → Prop} {bars : List Nat} {D : List Tmp} {Q : Act → World → Prop} {Q2 : Exit → Act → World → Prop}
theorem list_of_facts : ∀ (l : List (Oper × Nat)) (Fr : (Nat → Value) → Act) (kn : Kn) (V : Nat → Value) (w : World), l.Pairwise (fun p q => p.2 ≠ q.2) → (∀ q ∈ l, Far q.2 Fr kn) → (∀ p ∈ kn, ∀ V w w', p.2 V w → Below w.heap.size w w' → p.2 V w') →
    wpF P ops C bars D Q l Fr kn → C w → (∀ p ∈ kn, p.2 V w) → (∀ a w, Q a w → wpList P ops Q2 [] a w) → wpList P ops Q2 (l.map Prod.fst) (Fr V) w
  | [], Fr, kn, V, w, _, _, _, h, hC, hk, hQ => hQ _ _ (h V w hC hk)
  | q :: rest, Fr, kn, V, w, hd, hfar, hst, h, hC, hk, hQ => by
    obtain ⟨hd1, hd2⟩ := List.pairwise_cons.1 hd
    have hfar' : ∀ x ∈ rest, Far x.2 Fr kn := fun x hx => hfar x (List.mem_cons_of_mem _ hx)
    rcases h with ⟨h1, h2⟩ | ⟨h1, F, m, keep, g2, g3, gd, g4, g5, g6⟩
    · refine wpList_skip (h1 V) ?_
      exact list_of_facts rest (fun V => (Fr V).put q.1.dst undef) kn V w hd2 (fun x hx => ⟨fun V v => by simp only [(hfar' x hx).1], (hfar' x hx).2⟩) hst h2 hC hk hQ
    · refine wpList_step fun K hK => ?_
      rw [if_pos (h1 V)]
      refine wp_of_to (g5 V w hC fun p hp _ => hk p hp) fun v w' ⟨hF, hC', hkp⟩ => hK _ _ ?_
      have hkn : ∀ p ∈ (if keep then kn else []), ∀ V w w', p.2 V w → Below w.heap.size w w' → p.2 V w' := fun p hp => by
        cases keep
        · cases hp
        · exact hst p hp
      have hkf : ∀ x ∈ rest, ∀ p ∈ (if keep then kn else []), ∀ V v, p.2 (upd V x.2 v) = p.2 V := fun x hx p hp => by
        cases keep
        · cases hp
        · exact (hfar' x hx).2 p hp
      have hkw : ∀ p ∈ (if keep then kn else []), p.2 V w' := fun p hp => by
        cases keep
        · cases hp
        · exact hst p hp V w w' (hk p hp) (hkp rfl)
      cases m with
      | some c =>
        obtain rfl := g4 c rfl v w' hF
        exact list_of_facts rest (fun V => (Fr V).put q.1.dst v) _ V w' hd2 (fun x hx => ⟨fun V u => by simp only [(hfar' x hx).1], hkf x hx⟩) hkn (by simpa [addK] using g6) hC' hkw hQ
      | none =>
        have hq := hfar q List.mem_cons_self
        have e1 : ∀ x ∈ rest, ∀ (V : Nat → Value) u, upd V x.2 u q.2 = V q.2 := fun x hx V u => upd_else V x.2 u (hd1 x hx)
        have ih := list_of_facts rest (fun V => (Fr V).put q.1.dst (V q.2)) ((keyOf q, fun V => F (V q.2)) :: (if keep then kn else [])) (upd V q.2 v) w' hd2
          (fun x hx => ⟨fun V u => by simp only [(hfar' x hx).1, e1 x hx], fun p hp V u => by
            rcases List.mem_cons.1 hp with rfl | hp
            · simp only [e1 x hx]
            · exact hkf x hx p hp V u⟩)
          (fun p hp => by
            rcases List.mem_cons.1 hp with rfl | hp
            · exact fun V w w' h hb => g2 _ _ _ h hb
            · exact hkn p hp)
          (by simpa [addK] using g6) hC'
          (fun p hp => by
            rcases List.mem_cons.1 hp with rfl | hp
            · simp only [upd_same]; exact hF
            · cases keep
              · cases hp
              · have := hkw p hp
                rw [← hq.2 p hp V v] at this
                exact this) hQ
        simp only [upd_same, hq.1] at ih
        exact ih
theorem wp_list_facts {l : List Oper} {a : Act} {w : World} (k : Nat) (D : List Tmp) (h : wpF P ops (Free w) [] D (fun a w' => wpList P ops Q2 [] a w') (l.zipIdx k) (fun _ => a) []) : wpList P ops Q2 l a w := by
  have := list_of_facts (Q2 := Q2) (l.zipIdx k) (fun _ => a) [] (fun _ => undef) w (by
    rw [List.pairwise_iff_getElem]
    intro i j hi hj hij
    simp only [List.getElem_zipIdx]
    omega) (fun q _ => ⟨fun _ _ => rfl, fun p hp => by cases hp⟩) (fun p hp => by cases hp) h (Below.refl _ _) (fun p hp => by cases hp) (fun _ _ h => h)
  rwa [show (l.zipIdx k).map Prod.fst = l from List.zipIdx_map_fst k l] at this
end
end Go.Proofs.YtlpgmmcdcjkkiaaDoor
