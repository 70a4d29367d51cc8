/- A region that draws its order and copies two arrays into two new variables. Nothing here speaks of the program but the type of a page. -/
import Derived.Test.YtafmggipmaofnaaPageArr
import Derived.Test.YtafmggipmaofnaaPage
import Derived.Test.YtafmggipmaofnaaRegionNew
namespace Go.Proofs.Ytafmggipmaofnaa
set_option maxRecDepth 20000
open Go.RowKit Go.Sort

section
variable {P : Program} {ops : Array Oper} {Q : Exit → Act → World → Prop} {a b : List UInt8} {W : World} {ga gb : Nat} {TA : TypeId} {fr : Value → Value → Value → Value → Act}
def one (b : Bool) : Nat := if b then 0 else 1
/-- What is told while the region goes on: which operations have come up; what they made. -/
structure TwoI (P : Program) (W : World) (a b : List UInt8) (b0 b1 b2 b3 b4 b5 : Bool) (t0 t1 t2 t3 : Value) (w : World) : Prop where
  below : Below W.heap.size W w
  l0 : b0 = true → t0 = .agg (ab a)
  l1 : b1 = true → t1 = .agg (ab b)
  l2 : b2 = true → ∃ g, t2 = .pointer (some ⟨g, 0, none⟩) ∧ W.heap.size ≤ g ∧ Whole w g 24 (ab (if b4 then a else z512))
  l3 : b3 = true → ∃ g, t3 = .pointer (some ⟨g, 0, none⟩) ∧ W.heap.size ≤ g ∧ Whole w g 24 (ab (if b5 then b else z512))
  ne : b2 = true → b3 = true → t2 ≠ t3
  o4 : b4 = true → b2 = true
  o5 : b5 = true → b3 = true

theorem wp_two (hla : a.length = 512) (hlb : b.length = 512) (hz : ∀ w, (zeroValue 24).run P w = .ok (.agg (ab z512)) w) (hp : (P.info? 24).map (·.size) = some 512)
    (ha : Whole W ga TA (ab a)) (hb : Whole W gb TA (ab b)) (e : TypeId) (hu : P.underlying TA = some (.array 512 e)) (hsz : (P.info? TA).map (·.size) = some 512)
    (o0 o1 o2 o3 o4 o5 : Oper) (hops : ops = #[o0, o1, o2, o3, o4, o5]) (hg : (o0.guard = none ∧ o1.guard = none ∧ o2.guard = none ∧ o3.guard = none ∧ o4.guard = none ∧ o5.guard = none))
    (x0 x1 x2 x3 : Operand) (h0 : o0.op = .load TA x0) (h1 : o1.op = .load TA x1) (h2 : o2.op = .alloc 24) (h3 : o3.op = .alloc 24) (y0 y1 : Operand) (h4 : o4.op = .store 24 x2 y0) (h5 : o5.op = .store 24 x3 y1)
    (v0 : ∀ s t u v, (fr s t u v).eval x0 = .pointer (some ⟨ga, 0, none⟩)) (v1 : ∀ s t u v, (fr s t u v).eval x1 = .pointer (some ⟨gb, 0, none⟩)) (v2 : ∀ s t u v, (fr s t u v).eval x2 = u) (v3 : ∀ s t u v, (fr s t u v).eval x3 = v) (v4 : ∀ s t u v, (fr s t u v).eval y0 = s) (v5 : ∀ s t u v, (fr s t u v).eval y1 = t)
    (p0 : ∀ s t u v x, (fr s t u v).put o0.dst x = fr x t u v) (p1 : ∀ s t u v x, (fr s t u v).put o1.dst x = fr s x u v) (p2 : ∀ s t u v x, (fr s t u v).put o2.dst x = fr s t x v) (p3 : ∀ s t u v x, (fr s t u v).put o3.dst x = fr s t u x) (p4 : o4.dst = none) (p5 : o5.dst = none)
    (hr : ∀ b0 b1 b2 b3 b4 b5 : Bool, Region.ready .any ops #[b0, b1, b2, b3, b4, b5] = [] → b0 = true ∧ b1 = true ∧ b2 = true ∧ b3 = true ∧ b4 = true ∧ b5 = true)
    (r4 : ∀ b0 b1 b2 b3 b4 b5 : Bool, 4 ∈ Region.ready .any ops #[b0, b1, b2, b3, b4, b5] → b0 = true ∧ b2 = true) (r5 : ∀ b0 b1 b2 b3 b4 b5 : Bool, 5 ∈ Region.ready .any ops #[b0, b1, b2, b3, b4, b5] → b1 = true ∧ b3 = true)
    (hQ : ∀ w g7 g8, Below W.heap.size W w → g7 ≠ g8 → W.heap.size ≤ g7 → W.heap.size ≤ g8 → Whole w g7 24 (ab a) → Whole w g8 24 (ab b) → Q .normal (fr (.agg (ab a)) (.agg (ab b)) (.pointer (some ⟨g7, 0, none⟩)) (.pointer (some ⟨g8, 0, none⟩))) w) :
    ∀ (c : Nat) (b0 b1 b2 b3 b4 b5 : Bool) (t0 t1 t2 t3 : Value) (w : World), one b0 + one b1 + one b2 + one b3 + one b4 + one b5 = c → TwoI P W a b b0 b1 b2 b3 b4 b5 t0 t1 t2 t3 w →
      wpAny P .any ops Q c #[b0, b1, b2, b3, b4, b5] (fr t0 t1 t2 t3) w := by
  have fin : ∀ (b0 b1 b2 b3 b4 b5 : Bool) (t0 t1 t2 t3 : Value) (w : World), TwoI P W a b b0 b1 b2 b3 b4 b5 t0 t1 t2 t3 w → Region.ready .any ops #[b0, b1, b2, b3, b4, b5] = [] → Q .normal (fr t0 t1 t2 t3) w := by
    intro b0 b1 b2 b3 b4 b5 t0 t1 t2 t3 w hI h
    obtain ⟨rfl, rfl, rfl, rfl, rfl, rfl⟩ := hr _ _ _ _ _ _ h
    obtain rfl := hI.l0 rfl
    obtain rfl := hI.l1 rfl
    obtain ⟨g7, rfl, n7, w7⟩ := hI.l2 rfl
    obtain ⟨g8, rfl, n8, w8⟩ := hI.l3 rfl
    exact hQ w g7 g8 hI.below (fun h => hI.ne rfl rfl (by rw [h])) n7 n8 w7 w8
  intro c
  induction c with
  | zero =>
    intro b0 b1 b2 b3 b4 b5 t0 t1 t2 t3 w hc hI
    have hall : b0 = true ∧ b1 = true ∧ b2 = true ∧ b3 = true ∧ b4 = true ∧ b5 = true := by
      revert hc
      cases b0 <;> cases b1 <;> cases b2 <;> cases b3 <;> cases b4 <;> cases b5 <;> simp [one]
    obtain ⟨rfl, rfl, rfl, rfl, rfl, rfl⟩ := hall
    have hrd : Region.ready .any ops #[true, true, true, true, true, true] = [] := by
      apply List.eq_nil_iff_forall_not_mem.2
      intro i hi
      obtain ⟨h, o, ho, _⟩ := mem_ready.1 hi
      subst hops
      have : i < 6 := by have := (Array.getElem?_eq_some_iff.1 ho).1; simpa using this
      match i, this with
      | 0, _ | 1, _ | 2, _ | 3, _ | 4, _ | 5, _ => simp at h
    exact ⟨hrd, fin _ _ _ _ _ _ _ _ _ _ _ hI hrd⟩
  | succ c ih =>
    intro b0 b1 b2 b3 b4 b5 t0 t1 t2 t3 w hc hI
    refine ⟨fin _ _ _ _ _ _ _ _ _ _ _ hI, fun i hi => ?_⟩
    obtain ⟨h, o, ho, _⟩ := mem_ready.1 hi
    have k4 := fun h => r4 b0 b1 b2 b3 b4 b5 h
    have k5 := fun h => r5 b0 b1 b2 b3 b4 b5 h
    subst hops
    have h6 : i < 6 := by have := (Array.getElem?_eq_some_iff.1 ho).1; simpa using this
    have nodst : ∀ (o : Oper) (a : Act) (v : Value), o.dst = none → a.put o.dst v = a := fun o a v h => by rw [h]; rfl
    unfold wpOp
    match i, h6 with
    | 0, _ =>
      obtain rfl : b0 = false := by simpa using h
      simp only [List.getElem?_toArray, List.getElem?_cons_zero, wanted_free hg.1, if_true]
      refine .inl (wp_of_to (R := fun v w' => v = .agg (ab a) ∧ w' = w) (to_run (v := .agg (ab a)) (w' := w) ?_ ⟨rfl, rfl⟩) ?_)
      · unfold execOp
        simp only [h0, v0, Instr.loadAt, Instr.sureAddr, Sem.run_bind, Sem.run_pure, Result.andThen_ok, run_loadVar_row w ga TA TA (ab a) (0, 0) _ (ha.on hI.below) hu rfl (by rw [ab_size, hla]; exact hsz)]
      · rintro v w' ⟨rfl, rfl⟩
        rw [p0]
        exact ih _ _ _ _ _ _ _ _ _ _ _ (by simp [one] at hc ⊢; omega) ⟨hI.below, fun _ => rfl, hI.l1, hI.l2, hI.l3, hI.ne, hI.o4, hI.o5⟩
    | 1, _ =>
      obtain rfl : b1 = false := by simpa using h
      simp only [List.getElem?_toArray, List.getElem?_cons_succ, List.getElem?_cons_zero, wanted_free hg.2.1, if_true]
      refine .inl (wp_of_to (R := fun v w' => v = .agg (ab b) ∧ w' = w) (to_run (v := .agg (ab b)) (w' := w) ?_ ⟨rfl, rfl⟩) ?_)
      · unfold execOp
        simp only [h1, v1, Instr.loadAt, Instr.sureAddr, Sem.run_bind, Sem.run_pure, Result.andThen_ok, run_loadVar_row w gb TA TA (ab b) (0, 0) _ (hb.on hI.below) hu rfl (by rw [ab_size, hlb]; exact hsz)]
      · rintro v w' ⟨rfl, rfl⟩
        rw [p1]
        exact ih _ _ _ _ _ _ _ _ _ _ _ (by simp [one] at hc ⊢; omega) ⟨hI.below, hI.l0, fun _ => rfl, hI.l2, hI.l3, hI.ne, hI.o4, hI.o5⟩
    | 2, _ =>
      obtain rfl : b2 = false := by simpa using h
      obtain rfl : b4 = false := by cases b4 with | false => rfl | true => exact absurd (hI.o4 rfl) (by decide)
      simp only [List.getElem?_toArray, List.getElem?_cons_succ, List.getElem?_cons_zero, wanted_free hg.2.2.1, if_true]
      refine .inl (wp_of_to (R := fun v w' => v = .pointer (some ⟨w.heap.size, 0, none⟩) ∧ w' = w.alloc (.cells (ab z512) 24)) (to_run (v := .pointer (some ⟨w.heap.size, 0, none⟩)) (w' := w.alloc (.cells (ab z512) 24)) ?_ ⟨rfl, rfl⟩) ?_)
      · unfold execOp
        simp only [h2, Sem.run_bind, Result.andThen_ok, Sem.run_pure, run_alloc_new hz, Value.cells]
      · rintro v w' ⟨rfl, rfl⟩
        rw [p2]
        refine ih _ _ _ _ _ _ _ _ _ _ _ (by simp [one] at hc ⊢; omega) ⟨hI.below.alloc hI.below.size _, hI.l0, hI.l1, fun _ => ⟨_, rfl, hI.below.size, Whole.made w _ _⟩, fun h => ?_, fun _ h => ?_, fun _ => rfl, hI.o5⟩
        · obtain ⟨g, h1, h2, h3⟩ := hI.l3 h
          exact ⟨g, h1, h2, h3.later _⟩
        · obtain ⟨g, h1, h2, h3⟩ := hI.l3 h
          rw [h1]
          intro e
          simp only [Value.pointer.injEq, Option.some.injEq, Addr.mk.injEq, and_true] at e
          have := h3.lt
          omega
    | 3, _ =>
      obtain rfl : b3 = false := by simpa using h
      obtain rfl : b5 = false := by cases b5 with | false => rfl | true => exact absurd (hI.o5 rfl) (by decide)
      simp only [List.getElem?_toArray, List.getElem?_cons_succ, List.getElem?_cons_zero, wanted_free hg.2.2.2.1, if_true]
      refine .inl (wp_of_to (R := fun v w' => v = .pointer (some ⟨w.heap.size, 0, none⟩) ∧ w' = w.alloc (.cells (ab z512) 24)) (to_run (v := .pointer (some ⟨w.heap.size, 0, none⟩)) (w' := w.alloc (.cells (ab z512) 24)) ?_ ⟨rfl, rfl⟩) ?_)
      · unfold execOp
        simp only [h3, Sem.run_bind, Result.andThen_ok, Sem.run_pure, run_alloc_new hz, Value.cells]
      · rintro v w' ⟨rfl, rfl⟩
        rw [p3]
        refine ih _ _ _ _ _ _ _ _ _ _ _ (by simp [one] at hc ⊢; omega) ⟨hI.below.alloc hI.below.size _, hI.l0, hI.l1, fun h => ?_, fun _ => ⟨_, rfl, hI.below.size, Whole.made w _ _⟩, fun h _ => ?_, hI.o4, fun _ => rfl⟩
        · obtain ⟨g, h1, h2, h3⟩ := hI.l2 h
          exact ⟨g, h1, h2, h3.later _⟩
        · obtain ⟨g, h1, h2, h3⟩ := hI.l2 h
          rw [h1]
          intro e
          simp only [Value.pointer.injEq, Option.some.injEq, Addr.mk.injEq, and_true] at e
          have := h3.lt
          omega
    | 4, _ =>
      obtain rfl : b4 = false := by simpa using h
      obtain ⟨rfl, rfl⟩ := k4 hi
      obtain rfl := hI.l0 rfl
      obtain ⟨g, rfl, n7, w7⟩ := hI.l2 rfl
      simp only [Bool.false_eq_true, if_false] at w7
      simp only [List.getElem?_toArray, List.getElem?_cons_succ, List.getElem?_cons_zero, wanted_free hg.2.2.2.2.1, if_true]
      refine .inl (wp_of_to (R := fun v w' => w' = w.setRow g (ab a)) (to_run' (w' := w.setRow g (ab a)) ?_ rfl) ?_)
      · unfold execOp
        simp only [h4, v2, v4, Instr.storeAt, Instr.sureAddr, Sem.run_bind, Sem.run_pure, Result.andThen_ok, run_storeVar_row w g _ _ (ab z512) (ab a) w7 (by rw [ab_size, hla]; exact hp) (by rw [ab_size, ab_size, hla, z512_len]) (ab_one a)]
      · rintro v w' rfl
        rw [nodst _ _ _ p4]
        refine ih _ _ _ _ _ _ _ _ _ _ _ (by simp [one] at hc ⊢; omega) ⟨But.below hI.below (But.row g w _) n7 hI.below.size, fun _ => rfl, hI.l1, fun _ => ⟨g, rfl, n7, setRow_heap _ _ _ _ _ _ w7⟩, fun h => ?_, hI.ne, fun _ => rfl, hI.o5⟩
        obtain ⟨g', h1, h2, h3⟩ := hI.l3 h
        refine ⟨g', h1, h2, h3.but (But.row g w _) fun e => ?_⟩
        subst e
        exact hI.ne rfl h h1.symm
    | 5, _ =>
      obtain rfl : b5 = false := by simpa using h
      obtain ⟨rfl, rfl⟩ := k5 hi
      obtain rfl := hI.l1 rfl
      obtain ⟨g, rfl, n8, w8⟩ := hI.l3 rfl
      simp only [Bool.false_eq_true, if_false] at w8
      simp only [List.getElem?_toArray, List.getElem?_cons_succ, List.getElem?_cons_zero, wanted_free hg.2.2.2.2.2, if_true]
      refine .inl (wp_of_to (R := fun v w' => w' = w.setRow g (ab b)) (to_run' (w' := w.setRow g (ab b)) ?_ rfl) ?_)
      · unfold execOp
        simp only [h5, v3, v5, Instr.storeAt, Instr.sureAddr, Sem.run_bind, Sem.run_pure, Result.andThen_ok, run_storeVar_row w g _ _ (ab z512) (ab b) w8 (by rw [ab_size, hlb]; exact hp) (by rw [ab_size, ab_size, hlb, z512_len]) (ab_one b)]
      · rintro v w' rfl
        rw [nodst _ _ _ p5]
        refine ih _ _ _ _ _ _ _ _ _ _ _ (by simp [one] at hc ⊢; omega) ⟨But.below hI.below (But.row g w _) n8 hI.below.size, hI.l0, fun _ => rfl, fun h => ?_, fun _ => ⟨g, rfl, n8, setRow_heap _ _ _ _ _ _ w8⟩, hI.ne, hI.o4, fun _ => rfl⟩
        obtain ⟨g', h1, h2, h3⟩ := hI.l2 h
        refine ⟨g', h1, h2, h3.but (But.row g w _) fun e => ?_⟩
        subst e
        exact hI.ne h rfl h1
end
end Go.Proofs.Ytafmggipmaofnaa
