/- A range over a function whose body always goes on: the caller is told what it is handed next, given what came before. Nothing here speaks of the program. -/
import Derived.RangeFuncNested
import Derived.RangeFuncBound
import Derived.RangeFuncCalls
import Derived.RangeFuncLeaves
import Derived.RangeFuncBox
import Derived.Test.YtafmggipmaofnaaRound
namespace Go.Proofs.Ytafmggipmaofnaa
set_option maxRecDepth 20000
open Go.RowKit

/-- An iterator's contract: each time it hands over what G lets come behind all that came; at its end all that came is S. J: what the caller keeps, whatever new memory is made. -/
def Iter {α : Type} (F : Fence) (n : Nat) (P : Program) (gf : Nat) (lb : Array Value) (encs : α → Array Value) (Ctx : World → Prop) (G S : List α → Prop) : Prop :=
  ∀ (l : Nat) (J : List α → World → Prop) (W : World), (∀ s X, J s X → Ctx X) → (∀ s X Y, J s X → Below X.heap.size X Y → J s Y) →
    (∀ pre x X, J pre X → G (pre ++ [x]) → YieldAt F (n - 1) P l (encs x) X fun e Y => e = .returned (.bool true) ∧ J (pre ++ [x]) Y) → J [] W →
    CallsIn F n P gf (#[.func (.yield l) #[] #[]] ++ lb) W fun e Y => (∃ v, e = .returned v) ∧ ∃ xs, S xs ∧ J xs Y

theorem wpIn_range {α : Type} {F : Fence} {n : Nat} {P : Program} {g : Operand} {ps : Array Tmp} {assign body : Code} {Q : Exit → Act → World → Prop} {a : Act} {w : World} {gf : Nat} {lb : Array Value} {encs : α → Array Value} {Ctx : World → Prop} {G S : List α → Prop}
    (hro : F.round = none) (h1 : 1 ≤ n) (hg : a.eval g = .func (.func gf) #[] lb) (hfn : F.fn gf) (he : ∀ args w, (callFunc gf args).run P w = .ok (.enter gf args) w)
    (hit : Iter F (n - 1) P gf lb encs Ctx G S) (hps : ∀ x, (encs x).size = ps.size)
    (I : List α → World → Prop) (hctx : ∀ s X, I s X → Ctx X) (hI : OwnFrom w.heap.size I) (h0 : I [] w) (a₁ : α → Act)
    (hassign : ∀ (l : Nat) (x : α) (X : World) (K : Act → World → Prop), K (a₁ x) X → assign.wpIn (F.inRound l) (n - 1 - 1) P (Exit.then K (fun _ _ _ => False)) { tmps := (ps.zip (encs x)).foldl (fun t (p, v) => t.setIfInBounds p v) a.tmps, defers := [] } X)
    (hbody : ∀ (l : Nat) (pre : List α) (x : α) (X : World), I pre X → G (pre ++ [x]) → body.wpIn (F.inRound l) (n - 1 - 1) P (fun e _ Y => e = .normal ∧ KeepsFrom w.heap.size X Y ∧ I (pre ++ [x]) Y) (a₁ x) X)
    (hdone : ∀ (D : Nat) (xs : List α) (X : World), w.heap.size ≤ D → S xs → I xs X → X.heap[D]? = some (.deferred (some [])) → Q .normal { a with defers := { target := .collected D, args := #[] } :: a.defers } X) :
    (Code.rangeFunc g ps assign body).wpIn F n P Q a w := by
  refine wpIn_rangeFunc fun fn hF => ?_
  rw [hro]
  let L := w.heap.size + 1
  let rec0 : LoopState → Loop := fun st => { state := st, pending := none, fn, tmps := a.tmps, params := ps, assign, body, defers := w.heap.size }
  -- the two blocks of book-keeping
  let Two : LoopState → World → Prop := fun st X => X.heap[L]? = some (.loop (rec0 st)) ∧ X.heap[w.heap.size]? = some (.deferred (some []))
  have two_put : ∀ {st st' : LoopState} {X : World}, Two st X → Two st' (X.putObj L (.loop (rec0 st'))) := fun h =>
    ⟨World.putObj_heap_same (Array.getElem?_eq_some_iff.1 h.1).1, (World.putObj_heap_other (by show w.heap.size ≠ w.heap.size + 1; omega)).trans h.2⟩
  have two_keep : ∀ {st : LoopState} {X Y : World}, Two st X → KeepsFrom w.heap.size X Y → Two st Y := fun h k =>
    ⟨k.same _ _ (by show w.heap.size ≤ w.heap.size + 1; omega) h.1 rfl, k.same _ _ (Nat.le_refl _) h.2 rfl⟩
  have I_put : ∀ {st : LoopState} {s : List α} {X : World} (o : Obj), I s X → Two st X → I s (X.putObj L o) := fun o hi h => hI.putObj o hi (by show w.heap.size ≤ w.heap.size + 1; omega) h.1 rfl
  let W1 := (w.alloc (.deferred (some []))).alloc (.loop (rec0 .ready))
  refine ⟨L, _, W1, { target := .fn (.func gf) lb, args := #[.func (.yield L) #[] #[]] }, W1, gf, #[.func (.yield L) #[] #[]] ++ lb, W1, run_enterLoop_outer _ _ _ _ _, ?_, ?_, ?_, fun _ => h1, ?_⟩
  · simp only [resolve, hg]
    simp [go_sem, L]
  · intro f' hf'
    simp [Target.leads] at hf'
    subst hf'
    exact hfn
  · simp [invoke, go_sem, he]
  have hI0 : I [] ((w.alloc (.deferred (some []))).alloc (.loop (rec0 .ready))) := hI.alloc _ (hI.alloc _ h0)
  have hT0 : Two .ready ((w.alloc (.deferred (some []))).alloc (.loop (rec0 .ready))) := by
    refine ⟨?_, ?_⟩
    · have := World.alloc_heap_new (w.alloc (.deferred (some []))) (.loop (rec0 .ready))
      rwa [World.size_alloc] at this
    · exact (Below.heap_alloc _ _ _ (by simp)).trans (World.alloc_heap_new w _)
  refine (hit L (fun s X => I s X ∧ Two .ready X) _ (fun s X h => hctx s X h.1) (fun s X Y h hb => ⟨hI s X Y none h.1 ⟨hb.os, hb.tape, hb.output, hb.size, fun k hk _ => hb.block k hk⟩ (fun r e => by cases e),
    (hb.block _ (Array.getElem?_eq_some_iff.1 h.2.1).1).trans h.2.1, (hb.block _ (Array.getElem?_eq_some_iff.1 h.2.2).1).trans h.2.2⟩) ?_ ⟨hI0, hT0⟩).mono ?_
  · rintro pre x X ⟨hi, ht⟩ hG
    refine ⟨fn, _, assign, body, run_yield ht.1 (hps x), roundIn_of_wpIn hF (hassign L x X _ ⟨_, run_beginRound ht.1 rfl, ?_⟩)⟩
    have ht1 : Two .busy _ := two_put (st' := .busy) ht
    refine wpIn_mono (hbody L pre x _ (I_put _ hi ht) hG) ?_
    rintro e a3 Y ⟨rfl, hk, hiY⟩
    have ht2 := two_keep ht1 hk
    exact ⟨_, _, run_endRound none ht2.1, rfl, I_put _ hiY ht2, two_put (st' := .ready) ht2⟩
  · rintro e Y ⟨⟨v, rfl⟩, xs, hS, hi, ht⟩
    exact ⟨none, _, run_endLoop ht.1 (by simp [rec0]), hdone _ xs _ (Nat.le_refl _) hS (I_put _ hi ht) (two_put (st' := .exhausted) ht).2⟩
end Go.Proofs.Ytafmggipmaofnaa
