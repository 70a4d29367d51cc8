/- Layer 8: Diff. -/
import Derived.Test.YtafmggipmaofnaaPatchIter
import Derived.Test.YtafmggipmaofnaaPatch
namespace Go.Proofs.Ytafmggipmaofnaa
set_option maxRecDepth 20000
open Go.RowKit Go.Shelf

attribute [local go_sem] Oper.semAt_some

theorem pre_last {a b : List UInt8} {pre : List Nat} {x : Nat} : ∀ n, pre ++ [x] <+: unlTo a b n → pre = unlTo a b x ∧ unlike a b x = true ∧ x < n
  | 0, h => by
    have := h.length_le
    simp [unlTo] at this
  | n + 1, h => by
    rw [unlTo_succ] at h
    cases hu : unlike a b n with
    | false =>
      rw [hu] at h
      simp only [Bool.false_eq_true, if_false, List.append_nil] at h
      obtain ⟨h1, h2, h3⟩ := pre_last n h
      exact ⟨h1, h2, by omega⟩
    | true =>
      rw [hu, if_pos rfl] at h
      rcases List.prefix_concat_iff.1 h with h | h
      · have h1 := List.append_inj' h rfl
        have h2 : x = n := by simpa using h1.2
        subst h2
        exact ⟨h1.1, hu, by omega⟩
      · obtain ⟨h1, h2, h3⟩ := pre_last n h
        exact ⟨h1, h2, by omega⟩

/-- Blocks that are no cells hold no row. -/
theorem own_meta {X : World} {M : Nat} {t : TypeId} {s : Nat} {v : Value} {n : Nat} {xs : List Value} {row : Option Nat} (h : X.ownsRow M t s v n xs) (hr : ∀ r, row = some r → ∃ o : Obj, X.heap[r]? = some o ∧ o.isCells = false) : v.ownBlock = none ∨ v.ownBlock ≠ row := by
  rcases h.2 with ⟨rfl, _⟩ | ⟨g, cap, cur, rfl, _, hg, _⟩
  · exact .inl rfl
  · refine .inr fun e => ?_
    obtain ⟨o, ho, hc⟩ := hr g (by simpa [Value.ownBlock] using e.symm)
    rw [hg] at ho
    cases ho
    cases hc
theorem ROwn.meta {X Y : World} {M : Nat} {v : Value} {es : List (Rn × Value)} {row : Option Nat} (h : ROwn X M v es) (hg : X.grownBy Y row) (hr : ∀ r, row = some r → ∃ o : Obj, X.heap[r]? = some o ∧ o.isCells = false) : ROwn Y M v es :=
  h.kept hg (own_meta h.row hr) fun x hx => own_meta (h.each x hx) hr
def Apart (es : List (Rn × Value)) : Prop := ∀ es' y, es = es' ++ [y] → ∀ x ∈ es', x.2.ownBlock ≠ y.2.ownBlock
/-- What the loop of Diff keeps: the runs so far, of the call's own. -/
structure DI (W0 : World) (g0 : Nat) (b : List UInt8) (pre : List Nat) (W : World) (v : Value) (es : List (Rn × Value)) : Prop where
  box : Whole W g0 25 #[v]
  own : ROwn W W0.heap.size v es
  is : es.map (·.1) = runsOf b (dif pre)
  apart : Apart es
  but : But g0 W0 W
theorem di_own (W0 : World) (g0 : Nat) (b : List UInt8) (hg : g0 < W0.heap.size) : OwnFrom W0.heap.size (fun pre W => ∃ v es, DI W0 g0 b pre W v es) := by
  rintro s X Y row ⟨v, es, h⟩ hgr hrow
  refine ⟨v, es, ?_, h.own.meta hgr fun r e => (hrow r e).2, h.is, h.apart, ⟨hgr.os.trans h.but.os, hgr.tape.trans h.but.tape, hgr.output.trans h.but.output, Nat.le_trans h.but.size hgr.size, fun k hk hne => ?_⟩⟩
  · exact (hgr.block _ h.box.lt fun e => by have := (hrow g0 e.symm).1; omega).trans h.box
  · exact (hgr.block k (Nat.lt_of_lt_of_le hk h.but.size) fun e => by have := (hrow k e.symm).1; omega).trans (h.but.block k hk hne)
theorem runs_snoc (b : List UInt8) (x : Nat × Nat) (s : List (Nat × Nat)) : runsOf b (x :: s) = runsOf b s ++ [rnOf b x] := by simp [runsOf]
theorem rn_one {b : List UInt8} {x : Nat} (h : x < b.length) : rnOf b (x, x + 1) = ⟨x, [b[x]]⟩ := by
  unfold rnOf midL
  simp only
  rw [show x + 1 - x = 1 by omega, List.drop_eq_getElem_cons h]
  rfl
theorem rn_more {b : List UInt8} {q e x : Nat} (h1 : q ≤ e) (h2 : e ≤ x) : (rnOf b (q, e)).d ++ midL b e (x + 1 - e) = (rnOf b (q, x + 1)).d := by
  unfold rnOf midL
  simp only
  rw [show x + 1 - q = (e - q) + (x + 1 - e) by omega, List.take_add, List.drop_drop]
  congr 3
  omega
theorem map_snoc {es : List (Rn × Value)} {l : List Rn} {r : Rn} (h : es.map (·.1) = l ++ [r]) : ∃ es' D, es = es' ++ [(r, D)] ∧ es'.map (·.1) = l := by
  obtain ⟨e1, e2, rfl, h1, h2⟩ := List.map_eq_append_iff.1 h
  match e2, h2 with
  | [(r', D)], h2 =>
    simp at h2
    subst h2
    exact ⟨e1, D, rfl, h1⟩

theorem keeps_grown {X Y : World} {row : Option Nat} (B : Nat) (hg : X.grownBy Y row) (h : ∀ j o, row = some j → X.heap[j]? = some o → o.isCells = true) : KeepsFrom B X Y := (KeepsOthers.of_grownBy hg h).from B
theorem own_cells {X : World} {M : Nat} {t : TypeId} {s : Nat} {v : Value} {n : Nat} {xs : List Value} (h : X.ownsRow M t s v n xs) : ∀ j o, v.ownBlock = some j → X.heap[j]? = some o → o.isCells = true := by
  intro j o hj ho
  rcases h.2 with ⟨rfl, _⟩ | ⟨g, cap, cur, rfl, _, hg, _⟩
  · cases hj
  · simp only [Value.ownBlock, Option.some.injEq] at hj
    subst hj
    rw [hg] at ho
    cases ho
    rfl
theorem but_grown {W0 X Y : World} {g0 : Nat} {row : Option Nat} (h : But g0 W0 X) (hg : X.grownBy Y row) (hr : ∀ k, row = some k → W0.heap.size ≤ k ∨ k = g0) : But g0 W0 Y :=
  ⟨hg.os.trans h.os, hg.tape.trans h.tape, hg.output.trans h.output, Nat.le_trans h.size hg.size, fun k hk hne => (hg.block k (Nat.lt_of_lt_of_le hk h.size) fun e => by
    rcases hr k e.symm with h1 | h1
    · omega
    · exact hne (by rw [h1])).trans (h.block k hk hne)⟩
theorem own_far {X : World} {M : Nat} {t : TypeId} {s : Nat} {v : Value} {n : Nat} {xs : List Value} (h : X.ownsRow M t s v n xs) {g : Nat} (hg : g < M) : v.ownBlock = none ∨ v.ownBlock ≠ some g := by
  cases hv : v.ownBlock with
  | none => exact .inl rfl
  | some k => have := (h.lt k hv).1; exact .inr fun e => by injection e with e; omega
theorem own_old {X : World} {M : Nat} {t t' : TypeId} {s s' : Nat} {v v' : Value} {n n' : Nat} {xs xs' : List Value} {w' : World} (h : X.ownsRow M t s v n xs) (h' : w'.ownsRow X.heap.size t' s' v' n' xs') : v'.ownBlock = none ∨ v'.ownBlock ≠ v.ownBlock := by
  cases hv : v'.ownBlock with
  | none => exact .inl rfl
  | some k =>
    refine .inr fun e => ?_
    have h1 := (h'.lt k hv).1
    have h2 := (h.lt k e.symm).2
    omega

theorem info_run : (Try.prog.info? 56).map (fun i => (i.zero, i.size, i.bytes)) = some (some (.agg #[.int .i64 0, .slice none 0 0]), 2, 32) := by kernel_rfl
theorem far_ne {o : Option Nat} {g : Nat} (h : o = none ∨ o ≠ some g) : o ≠ some g := h.elim (fun h => by rw [h]; exact fun e => by cases e) id
theorem whole_grown {X Y : World} {g : Nat} {t : TypeId} {cs : Array Value} {row : Option Nat} (h : Whole X g t cs) (hg : X.grownBy Y row) (hne : row ≠ some g) : Whole Y g t cs := (hg.block g h.lt fun e => hne e.symm).trans h
/-- A further run. -/
theorem di_new {W0 : World} {g0 : Nat} {b : List UInt8} {pre : List Nat} {X : World} {v : Value} {es : List (Rn × Value)} (h : DI W0 g0 b pre X v es) (hg0 : g0 < W0.heap.size) {w' w2 : World} {v' E : Value} {y : Nat} (hy : y < b.length)
    (hd : dif (pre ++ [y]) = (y, y + 1) :: dif pre) (hq : Below X.heap.size X w') (hE : w'.ownsRow X.heap.size 5 1 E 1 (bys [b[y]])) (HO : w2.ownsRow W0.heap.size 56 2 v' (es.length + 1) (flat es ++ [.int .i64 y, E]))
    (HG : w'.grownBy w2 v.ownBlock) : DI W0 g0 b (pre ++ [y]) (w2.setCell ⟨g0, 0, none⟩ v') v' (es ++ [(⟨y, [b[y]]⟩, E)]) ∧ KeepsFrom W0.heap.size X (w2.setCell ⟨g0, 0, none⟩ v') := by
  have hM : W0.heap.size ≤ X.heap.size := h.but.size
  have hown := h.own.on hq
  have hbox := h.box.on hq
  have hset := grownBy_setCell' w2 g0 v'
  have hbox2 : Whole w2 g0 25 #[v] := (HG.block g0 hbox.lt (by
    rcases own_far hown.row hg0 with h1 | h1
    · rw [h1]; simp
    · exact fun e => h1 e.symm)).trans hbox
  have hE1 : ∃ k, E.ownBlock = some k ∧ X.heap.size ≤ k := by
    rcases hE.2 with ⟨_, h0⟩ | ⟨g, cap, cur, rfl, hb, _⟩
    · cases h0
    · exact ⟨g, rfl, hb⟩
  have hE2 : w2.ownsRow W0.heap.size 5 1 E 1 (bys [b[y]]) := own_lower (hE.kept HG (own_old h.own.row hE)) hM
  refine ⟨⟨?_, ⟨?_, ?_⟩, ?_, ?_, ?_⟩, ?_⟩
  · have := hbox2.put 0 v'
    simpa using this
  · have e1 : flat (es ++ [((⟨y, [b[y]]⟩ : Rn), E)]) = flat es ++ [.int .i64 y, E] := by rw [flat_app, flat_one]
    rw [e1, List.length_append]
    exact HO.kept hset (own_far HO hg0)
  · intro x hx
    rcases List.mem_append.1 hx with hx | hx
    · have h1 := hown.each x hx
      have h2 := h1.kept HG (own_types h1 hown.row (by decide))
      exact h2.kept hset (own_far h2 hg0)
    · simp only [List.mem_singleton] at hx
      subst hx
      exact hE2.kept hset (own_far hE2 hg0)
  · rw [List.map_append, h.is, hd, runs_snoc, rn_one hy]
    rfl
  · intro es' z he x hx
    have h1 := List.append_inj' he rfl
    have h2 : z = (⟨y, [b[y]]⟩, E) := by simpa using h1.2.symm
    subst h2
    have hx' : x ∈ es := h1.1 ▸ hx
    obtain ⟨k, hk, hk2⟩ := hE1
    intro e
    rw [hk] at e
    have := ((h.own.each x hx').lt k e).2
    omega
  · refine but_grown (but_grown (but_grown h.but (grown_of hq) (fun k e => by cases e)) HG fun k e => .inl ?_) hset fun k e => .inr (by injection e with e; exact e.symm)
    exact (hown.row.lt k e).1
  · refine (keeps_grown _ (grown_of hq) (fun j o e => by cases e)).trans ((keeps_grown _ HG (own_cells hown.row)).trans (keeps_grown _ hset fun j o e ho => ?_))
    injection e with e
    subst e
    rw [show w2.heap[g0]? = _ from hbox2] at ho
    cases ho
    rfl
theorem di_on {W0 : World} {g0 : Nat} {b : List UInt8} {pre : List Nat} {X Y : World} {v : Value} {es : List (Rn × Value)} (h : DI W0 g0 b pre X v es) (hb : Below X.heap.size X Y) : DI W0 g0 b pre Y v es :=
  ⟨h.box.on hb, h.own.on hb, h.is, h.apart, but_grown h.but (grown_of hb) fun k e => by cases e⟩
theorem flat_set {es : List (Rn × Value)} {r r' : Rn} {D D' : Value} (hp : r'.p = r.p) : (flat (es ++ [(r, D)])).set (es.length * 2 + 1) D' = flat (es ++ [(r', D')]) := by
  rw [flat_app, flat_app, flat_one, flat_one, List.set_append_right _ _ (by rw [flat_len]; omega), flat_len, show es.length * 2 + 1 - es.length * 2 = 1 by omega]
  simp [hp]
/-- The last run grows. -/
theorem di_more {W0 : World} {g0 : Nat} {b : List UInt8} {pre : List Nat} {X : World} {es : List (Rn × Value)} {q e y gr n cap gd nd capd : Nat} {s : List (Nat × Nat)} (h : DI W0 g0 b pre X (.slice (some ⟨gr, 0, none⟩) n cap) (es ++ [(rnOf b (q, e), .slice (some ⟨gd, 0, none⟩) nd capd)])) (hg0 : g0 < W0.heap.size)
    {w' : World} {D' : Value} (hs : dif pre = (q, e) :: s) (hd : dif (pre ++ [y]) = (q, y + 1) :: s) (hqe : q ≤ e) (hey : e ≤ y) (hq : But gd X w') (HA : fApp X W0.heap.size 5 gd (bys (rnOf b (q, e)).d ++ bys (midL b e (y + 1 - e))) D' w') :
    DI W0 g0 b (pre ++ [y]) (w'.setCell ⟨gr, es.length * 2 + 1, none⟩ D') (.slice (some ⟨gr, 0, none⟩) n cap) (es ++ [(rnOf b (q, y + 1), D')]) ∧ KeepsFrom W0.heap.size X (w'.setCell ⟨gr, es.length * 2 + 1, none⟩ D') := by
  have hM : W0.heap.size ≤ X.heap.size := h.but.size
  have hlast := h.own.each (rnOf b (q, e), .slice (some ⟨gd, 0, none⟩) nd capd) (by simp)
  have hgd : W0.heap.size ≤ gd ∧ gd < X.heap.size := hlast.lt gd rfl
  have hrow := h.own.row
  have hrow' := hrow.kept hq (own_types hrow hlast (by decide))
  have hlen : (es ++ [(rnOf b (q, e), Value.slice (some ⟨gd, 0, none⟩) nd capd)]).length = es.length + 1 := by simp
  have hgr : W0.heap.size ≤ gr := (hrow.lt gr rfl).1
  have hn : n = es.length + 1 := by
    obtain ⟨A, c, e1, _⟩ := h.own.rs
    injection e1 with _ e1
    rw [List.length_map, hlen] at e1
    exact e1
  obtain ⟨HA1, HA2⟩ := HA
  rw [← bys_app, rn_more hqe hey, bys_len] at HA1
  rw [hlen, ← hn] at hrow'
  obtain ⟨hst, hset⟩ := hrow'.stored (es.length * 2 + 1) D'
  rw [flat_set (r := rnOf b (q, e)) (r' := rnOf b (q, y + 1)) rfl] at hst
  have hbox : Whole w' g0 25 #[.slice (some ⟨gr, 0, none⟩) n cap] := h.box.but hq (by omega)
  have hD' := HA1.kept hset (own_types HA1 hrow' (by decide))
  refine ⟨⟨hbox.apart (by omega) _, ⟨?_, ?_⟩, ?_, ?_, ?_⟩, ?_⟩
  · have e1 : (es ++ [(rnOf b (q, y + 1), D')]).length = n := by simp [hn]
    rw [e1]
    exact hst
  · intro x hx
    rcases List.mem_append.1 hx with hx | hx
    · have h1 := h.own.each x (List.mem_append_left _ hx)
      have h2 := h1.kept hq (.inr (by have := h.apart es _ rfl x hx; simpa [Value.ownBlock] using this))
      exact h2.kept hset (own_types h2 hrow' (by decide))
    · simp only [List.mem_singleton] at hx
      subst hx
      exact hD'
  · have h1 := h.is
    rw [hs, runs_snoc, List.map_append] at h1
    have h2 := (List.append_inj' h1 rfl).1
    rw [List.map_append, h2, hd, runs_snoc]
    rfl
  · intro es' z he x hx
    have h1 := List.append_inj' he rfl
    have h2 : z = (rnOf b (q, y + 1), D') := by simpa using h1.2.symm
    subst h2
    have hx' : x ∈ es := h1.1 ▸ hx
    intro e'
    simp only at e'
    rcases HA2 with h3 | ⟨k, h3, h4⟩
    · rw [h3] at e'
      exact h.apart es _ rfl x hx' (by rw [e']; rfl)
    · rw [h3] at e'
      have := ((h.own.each x (List.mem_append_left _ hx')).lt k e').2
      omega
  · exact but_grown (but_grown h.but hq fun k e => .inl (by injection e with e; omega)) hset fun k e => .inl (by injection e with e; omega)
  · refine (keeps_grown _ hq fun j o e ho => ?_).trans (keeps_grown _ hset fun j o e ho => ?_)
    · injection e with e
      subst e
      exact own_cells hlast gd o rfl ho
    · injection e with e
      subst e
      exact own_cells hrow' gr o rfl ho

set_option maxRecDepth 100000 in
set_option maxHeartbeats 4000000 in
theorem diff_any (a b : List UInt8) (ha : a.length = 512) (hb : b.length = 512) (w : World) :
    Calls Try.prog 6 #[.agg (ab a), .agg (ab b)] w fun e w' => ∃ v, e = .returned v ∧ RS w' v (diffR a b) ∧ Below w.heap.size w w' := by
  refine (callsIn_wide (n := 3)).1 ?_
  refine callsIn_of_wp_marks Try.func6 rfl trivial ?_ rfl
  simp only [Try.ntmps6, List.size_toArray, List.length_cons, List.length_nil, Nat.reduceAdd, Nat.reduceSub, Array.replicate_succ, Array.replicate_zero, List.push_toArray, List.append_toArray, List.nil_append, List.cons_append]
  have wA : Whole (((w.alloc (.cells (ab a) 24)).alloc (.cells (ab b) 24)).alloc (.cells #[.slice none 0 0] 25)) w.heap.size 24 (ab a) := ((Whole.made w _ _).later _).later _
  have wB : Whole (((w.alloc (.cells (ab a) 24)).alloc (.cells (ab b) 24)).alloc (.cells #[.slice none 0 0] 25)) (w.heap.size + 1) 24 (ab b) := by
    have := (Whole.made (w.alloc (.cells (ab a) 24)) 24 (ab b)).later (.cells #[.slice none 0 0] 25)
    rwa [World.size_alloc] at this
  have wL : Whole (((w.alloc (.cells (ab a) 24)).alloc (.cells (ab b) 24)).alloc (.cells #[.slice none 0 0] 25)) (w.heap.size + 1 + 1) 25 #[.slice none 0 0] := Whole.third w _ _ _ _
  have hb0 : Below w.heap.size w (((w.alloc (.cells (ab a) 24)).alloc (.cells (ab b) 24)).alloc (.cells #[.slice none 0 0] 25)) :=
    (((Below.refl _ w).alloc (Nat.le_refl _) _).alloc (by simp) _).alloc (by simp; omega) _
  have hs0 : (((w.alloc (.cells (ab a) 24)).alloc (.cells (ab b) 24)).alloc (.cells #[.slice none 0 0] 25)).heap.size = w.heap.size + 3 := by simp
  gi_wp2_with (first
    | (refine wpListIn_load_ab (by first | exact wideF_wide | exact wideF_round _) rfl _ (.tmp 2) rfl (w.heap.size) rfl _ _ _ (a) (ha) (wA) Try.underlying24 (by kernel_rfl) ?_)
    | (refine wpListIn_load_ab (by first | exact wideF_wide | exact wideF_round _) rfl _ (.tmp 3) rfl (w.heap.size + 1) rfl _ _ _ (b) (hb) (wB) Try.underlying24 (by kernel_rfl) ?_)
    | fail)
  generalize ((w.alloc (.cells (ab a) 24)).alloc (.cells (ab b) 24)).alloc (.cells #[.slice none 0 0] 25) = w0 at *
  refine ⟨trivial, (unl_make _ _ _ _).mono ?_⟩
  rintro e w1 ⟨rfl, rfl⟩
  have uA := (Whole.made w0 24 (ab a)).later (.cells (ab b) 24)
  have uB := Whole.made (w0.alloc (.cells (ab a) 24)) 24 (ab b)
  rw [World.size_alloc] at uB
  replace wA := (wA.later (.cells (ab a) 24)).later (.cells (ab b) 24)
  replace wB := (wB.later (.cells (ab a) 24)).later (.cells (ab b) 24)
  replace wL := (wL.later (.cells (ab a) 24)).later (.cells (ab b) 24)
  have hs1 : ((w0.alloc (.cells (ab a) 24)).alloc (.cells (ab b) 24)).heap.size = w.heap.size + 5 := by simp [hs0]
  have hb1 : Below w.heap.size w ((w0.alloc (.cells (ab a) 24)).alloc (.cells (ab b) 24)) := (hb0.alloc (by omega) _).alloc (by simp; omega) _
  rw [hs0] at *
  generalize ((w0.alloc (.cells (ab a) 24)).alloc (.cells (ab b) 24)) = w1 at *
  have hI0 : DI w1 (w.heap.size + 1 + 1) b [] w1 (.slice none 0 0) [] := ⟨wL, ROwn.nil _ _, rfl, fun es' y h => by simp at h, But.refl _ _⟩
  clear hs0
  have hg0 : w.heap.size + 1 + 1 < w1.heap.size := by omega
  gi_wp2_with fail
  refine wpIn_range (encs := fun y : Nat => #[.int .i64 y]) rfl (by decide) (gf := 39) (lb := #[.pointer (some ⟨w.heap.size + 3, 0, none⟩), .pointer (some ⟨w.heap.size + 3 + 1, 0, none⟩)]) rfl trivial (enters_of Try.func39 (by kernel_rfl) rfl)
    (unl_in 2 (w.heap.size + 3) (w.heap.size + 3 + 1) a b ha hb) (fun _ => rfl) (fun pre X => ∃ v es, DI w1 (w.heap.size + 1 + 1) b pre X v es)
    (fun pre X ⟨v, es, h⟩ => ⟨uA.but h.but (by omega), uB.but h.but (by omega)⟩) (di_own w1 _ b hg0) ⟨_, _, hI0⟩
    (fun y => { tmps := #[.agg (ab a), .agg (ab b), .pointer (some ⟨w.heap.size, 0, none⟩), .pointer (some ⟨w.heap.size + 1, 0, none⟩), .slice none 0 0, .pointer (some ⟨w.heap.size + 1 + 1, 0, none⟩), .int .i64 y, undef, .agg (ab a), .agg (ab b),
      .func (.func 39) #[] #[.pointer (some ⟨w.heap.size + 3, 0, none⟩), .pointer (some ⟨w.heap.size + 3 + 1, 0, none⟩)], .int .i64 y, undef, undef, undef, undef, undef, undef, undef, undef, undef, undef, undef, undef, undef, undef, undef, undef, undef, undef, undef, undef, undef, undef, undef, undef, undef, undef, undef, undef, undef, undef, undef, undef, undef, undef, undef, undef, undef, undef, undef, undef, undef, undef, undef], defers := [] }) ?assign ?body ?done
  case assign =>
    intro l x X K hK
    gi_wp2
    exact hK
  case body =>
    obtain ⟨i0, hi, hz0, hz1, hz2⟩ := info_parts info_run
    obtain ⟨i8, hi8, hy0, hy1, hy2⟩ := info_parts Try.info5
    rintro l pre y X ⟨v, es, hdi⟩ hG
    obtain ⟨hpre, hun, hlt⟩ := pre_last 512 hG
    have h12 : 12 ≤ y := (of_decide_eq_true hun).1
    have hS := (dif_ok a b y).1
    rw [← hpre] at hS
    replace wB : Whole X (w.heap.size + 1) 24 (ab b) := wB.but hdi.but (by omega)
    have lb : y < b.length := by omega
    have cb := ab_get b y lb
    have hd := dif_snoc pre y
    obtain ⟨A, c, ev, hc1, hc2, hc3, hc4⟩ := hdi.own.rs
    have hlm : (es.map (·.1)).length = es.length := List.length_map _
    rw [hlm] at ev hc1
    have hel : es.length = (dif pre).length := by
      have := congrArg List.length hdi.is
      rw [hlm] at this
      simpa [runsOf] using this
    have hpl : pre.length ≤ y := by rw [hpre]; exact unlTo_len a b y
    clear hG hun hpre wA uA uB hI0 hc4 hc3
    cases hdp : dif pre with
    | nil =>
      have h0 : es.length = 0 := by rw [hel, hdp]; rfl
      rw [hdp] at hd
      have hd1 : dif (pre ++ [y]) = (y, y + 1) :: dif pre := by rw [hd, hdp]; rfl
      clear hd hel
      rw [h0] at ev hc1
      have hbx := hdi.box.cell 0
      rw [show (#[v] : Array Value)[0]? = some v from rfl] at hbx
      have hdi' := Lib.hid hdi
      clear hdi hS
      subst ev
      gi_wp2_with fail
      refine ⟨trivial, ?_⟩
      gi_wp2_with fail
      replace hdi := hdi'.out
      have wBX := wB
      skip
      refine wpIn_region_facts (by first | exact wideF_wide | exact wideF_round _) 8 [] [32, 33, 34] (by kernel_rfl) (by kernel_rfl) (by kernel_rfl) (by kernel_rfl) (free_draw X) ?_
      simp only [List.take_succ_cons, List.take_zero, List.drop_succ_cons, List.drop_zero, List.zipIdx_cons, List.zipIdx_nil, Nat.zero_add, Nat.reduceAdd]
      repeat (show wpF _ _ _ _ _ _ (_ :: _) _ _; first
        | (refine f_skip (fun V => by rfl) ?_; simp only [Act.put, List.setIfInBounds_toArray, List.set_cons_succ, List.set_cons_zero])
          
              | (refine f_load_cell (by first | exact cls_free _ | exact cls_row _ _ _ _ | exact cls_fill _ _ _ _ _ | exact cls_butC _ _ | exact cls_butD _ _ _ _ _ _ _) (fun V => by rfl) _ _ rfl _ (fun V => by rfl) _ (fun w hb => (Keeps.below hb) _ _ hbx) _ Try.underlying25 rfl ?_; simp only [Act.put, List.setIfInBounds_toArray, List.set_cons_succ, List.set_cons_zero])
              | (refine f_ix_arr (by first | exact cls_free _ | exact cls_row _ _ _ _ | exact cls_fill _ _ _ _ _ | exact cls_butC _ _ | exact cls_butD _ _ _ _ _ _ _) (fun V => by rfl) 24 _ _ rfl (w.heap.size + 1) (fun V => by rfl) 5 _ _ (y) _ _ (fun V => by rfl) Try.underlying24 (by kernel_rfl) (rfl) (by omega) ?_; simp only [Act.put, List.setIfInBounds_toArray, List.set_cons_succ, List.set_cons_zero])
              | (refine f_load_cell (by first | exact cls_free _ | exact cls_row _ _ _ _ | exact cls_fill _ _ _ _ _ | exact cls_butC _ _ | exact cls_butD _ _ _ _ _ _ _) (fun V => by rfl) _ _ rfl _ (fun V => by rfl) _ (fun w hb => ((wBX.on hb).cell _).trans cb) _ Try.underlying5 rfl ?_; simp only [Act.put, List.setIfInBounds_toArray, List.set_cons_succ, List.set_cons_zero])
              | (refine f_lit1 (by first | exact cls_free _ | exact cls_row _ _ _ _ | exact cls_fill _ _ _ _ _ | exact cls_butC _ _ | exact cls_butD _ _ _ _ _ _ _) 32 5 _ rfl (fun V => by rfl) (by decide) X.heap.size (fun w hb => Below.size hb) (.int .u8 b[y].toNat) (fun V => by rfl) (fun w => by kernel_rfl) ?_; simp only [Act.put, List.setIfInBounds_toArray, List.set_cons_succ, List.set_cons_zero, keyOf, Option.getD_some])
              | (refine f_build2 (by first | exact cls_free _ | exact cls_row _ _ _ _ | exact cls_fill _ _ _ _ _ | exact cls_butC _ _ | exact cls_butD _ _ _ _ _ _ _) 56 _ _ rfl (fun V => by rfl) (by decide) X.heap.size (.int .i64 y) ([.int .u8 b[y].toNat]) _ (fun V => by rfl) (fun V => by rfl) (fun A n c w => run_build w _ _ _ (by kernel_rfl)) (fun V w hb hk => hk.slot 32 rfl rfl) ?_; simp only [Act.put, List.setIfInBounds_toArray, List.set_cons_succ, List.set_cons_zero, keyOf, Option.getD_some])
              | (refine f_lit2 (by first | exact cls_free _ | exact cls_row _ _ _ _ | exact cls_fill _ _ _ _ _ | exact cls_butC _ _ | exact cls_butD _ _ _ _ _ _ _) 25 _ rfl (fun V => by rfl) (by decide) X.heap.size (fun w hb => Below.size hb) (.int .i64 y) ([.int .u8 b[y].toNat]) _ (fun V => by rfl) (fun A n c w => by kernel_rfl) (fun V w hb hk => hk.slot 33 rfl rfl) ?_; simp only [Act.put, List.setIfInBounds_toArray, List.set_cons_succ, List.set_cons_zero, keyOf, Option.getD_some])
        | (refine f_quiet (by first | exact cls_free _ | exact cls_row _ _ _ _ | exact cls_fill _ _ _ _ _ | exact cls_butC _ _ | exact cls_butD _ _ _ _ _ _ _) (fun V => by rfl) (fun V => ⟨_, rfl, by simp⟩) ?_; apply Exists.intro; refine And.intro (fun V w hw K hK => ?_) ?_; ((try simp only [Act.put, List.setIfInBounds_toArray, List.set_cons_succ, List.set_cons_zero] at hK); go_big_quiet_op; exact hK); simp only [Act.put, List.setIfInBounds_toArray, List.set_cons_succ, List.set_cons_zero]))
      refine f_nil ?_
      intro V w' hq hkn
      obtain ⟨E, g, hV, hW, hg, hE, h1⟩ := all_slot hkn 34 rfl
      clear hkn
      simp only [hV]
      have hrow := Lib.hid (hdi.own.on hq).row
      have hM := hdi.but.size
      have hqs := hq.size
      refine wpListIn_app2 (wideF_round _) rfl (.tmp 27) (.tmp 34) 25 rfl w1.heap.size 56 i0 _ 32 Try.underlying25 hi hz0 hz1 hz2 rfl _ es.length (flat es) rfl hrow.out g _ rfl _ _ (hW.mid 0 2 rfl) rfl h1 (by omega) (by omega) (by omega) ?_
      intro v' w2 HO HG HB
      obtain ⟨g', cap', rfl⟩ := own_pos HO.out (by omega)
      have hfar := own_far hrow.out hg0
      have hb2 := whole_grown (hdi.box.on hq) HG.out (far_ne hfar)
      have hc2 := hb2.cell 0
      have hf2 := hb2.free 0
      have F := Lib.hid (di_new hdi hg0 lb hd1 hq hE HO.out HG.out)
      replace hs1 := Lib.hid hs1
      replace h0 := Lib.hid h0
      gi_wp2
      exact ⟨F.out.2, _, _, F.out.1⟩
    | cons p s =>
      obtain ⟨q, e⟩ := p
      have h0 : es.length = s.length + 1 := by rw [hel, hdp]; rfl
      have hpw := hS.within (q, e) (by rw [hdp]; simp)
      simp only at hpw
      have hs500 : s.length ≤ 512 := by
        have := hc1
        have := dif_len pre
        have := congrArg List.length hdp
        simp at this
        omega
      have his := hdi.is
      rw [hdp, runs_snoc] at his
      obtain ⟨es', D, rfl, hes'⟩ := map_snoc his
      have hel' : es'.length = s.length := by simpa using h0
      have hrD := hdi.own.each (rnOf b (q, e), D) (by simp)
      have hrl := mid_len' hb (x := (q, e)) (by simp only; omega)
      simp only at hrD hrl
      rw [hrl] at hrD
      obtain ⟨gd, capd, rfl⟩ := own_pos hrD (by omega)
      obtain ⟨gr, cap, hv⟩ := own_pos hdi.own.row (by omega)
      subst hv
      have hbx := hdi.box.cell 0
      rw [show (#[Value.slice (some ⟨gr, 0, none⟩) (es' ++ [(rnOf b (q, e), Value.slice (some ⟨gd, 0, none⟩) (e - q) capd)]).length cap] : Array Value)[0]? = some (Value.slice (some ⟨gr, 0, none⟩) (es' ++ [(rnOf b (q, e), Value.slice (some ⟨gd, 0, none⟩) (e - q) capd)]).length cap) from rfl] at hbx
      have CE : ∀ w, Calls Try.prog 23 #[.agg #[.int .i64 q, .slice (some ⟨gd, 0, none⟩) (e - q) capd]] w fun e' w' => e' = .returned (.int .i64 e) ∧ Below w.heap.size w w' := fun w => by
        have := end_any (rnOf b (q, e)) (some ⟨gd, 0, none⟩) (e - q) capd w hrl.symm (by show (0 : Int) ≤ q ∧ (q : Int) ≤ 1000; omega) (by omega)
        rw [hrl, show (rnOf b (q, e)).p + ((e - q : Nat) : Int) = e by show (q : Int) + ((e - q : Nat) : Int) = e; omega] at this
        exact this
      have hrow0 := hdi.own.row
      have hf := flat_get (es' ++ [(rnOf b (q, e), Value.slice (some ⟨gd, 0, none⟩) (e - q) capd)]) s.length (rnOf b (q, e), Value.slice (some ⟨gd, 0, none⟩) (e - q) capd) (by rw [← hel']; simp)
      have hM := hdi.but.size
      have hgd := hrD.lt gd rfl
      have hgr : w1.heap.size ≤ gr ∧ gr < X.heap.size := hrow0.lt gr rfl
      have hne : gr ≠ gd := fun h => by
        rcases own_types hrow0 hrD (by decide) with h1 | h1
        · cases h1
        · exact h1 (by simp [Value.ownBlock, h])
      have c1 : X.cell? ⟨gr, 0 + s.length * 2, none⟩ = some (.int .i64 q) := by
        have := hrow0.cells (g := gr) rfl _ _ hf.1
        rw [Addr.add_lit] at this
        exact this
      have c2 : X.cell? ⟨gr, 0 + s.length * 2 + 1, none⟩ = some (.slice (some ⟨gd, 0, none⟩) (e - q) capd) := by
        have := hrow0.cells (g := gr) rfl _ _ hf.2
        rw [Addr.add_lit] at this
        rw [Nat.add_assoc]
        exact this
      have hrg := range2 c1 c2
      have hrg' : X.rangeAt gr (s.length * 2) [.int .i64 q, .slice (some ⟨gd, 0, none⟩) (e - q) capd] := by rw [← Nat.zero_add (s.length * 2)]; exact hrg
      have hdi' := Lib.hid hdi
      have his' := Lib.hid his
      rw [hdp] at hd
      clear hdi his hf hel hlm hes' hrow0 c1 c2 hS
      generalize hE : (es' ++ [(rnOf b (q, e), Value.slice (some ⟨gd, 0, none⟩) (e - q) capd)]) = es at *
      gi_wp2_with (first
        | (refine wpListIn_ix (by first | exact wideF_wide | exact wideF_round _) rfl 25 (.tmp 19) _ rfl _ _ _ _ rfl 56 _ (s.length) _ _ rfl Try.underlying25 (by kernel_rfl) (by omega) (by omega) ?_)
        | (refine wpListIn_mid (by first | exact wideF_wide | exact wideF_round _) rfl 56 (.tmp 21) rfl (gr) (s.length * 2) rfl [.int .i64 q, .slice (some ⟨gd, 0, none⟩) (e - q) capd] _ (hrg') Try.underlying56 rfl (by kernel_rfl) ?_)
        | fail)
      refine ⟨trivial, ((callsIn_wide.2 (CE _)).inRound _).mono ?_⟩
      rintro e' w2 ⟨rfl, b1⟩
      have B1 := Lib.hid b1
      clear b1
      by_cases hgap : e + 4 < y
      · gi_wp2_with fail
        have hdi := di_on hdi'.out B1.out
        have wBX := wB.on B1.out
        replace hbx := Keeps.below B1.out _ _ hbx
        have hd1 : dif (pre ++ [y]) = (y, y + 1) :: dif pre := by rw [hd, hdp]; simp [dstep, hgap]
        skip
        refine wpIn_region_facts (by first | exact wideF_wide | exact wideF_round _) 8 [] [32, 33, 34] (by kernel_rfl) (by kernel_rfl) (by kernel_rfl) (by kernel_rfl) (free_draw w2) ?_
        simp only [List.take_succ_cons, List.take_zero, List.drop_succ_cons, List.drop_zero, List.zipIdx_cons, List.zipIdx_nil, Nat.zero_add, Nat.reduceAdd]
        repeat (show wpF _ _ _ _ _ _ (_ :: _) _ _; first
          | (refine f_skip (fun V => by rfl) ?_; simp only [Act.put, List.setIfInBounds_toArray, List.set_cons_succ, List.set_cons_zero])
            
                | (refine f_load_cell (by first | exact cls_free _ | exact cls_row _ _ _ _ | exact cls_fill _ _ _ _ _ | exact cls_butC _ _ | exact cls_butD _ _ _ _ _ _ _) (fun V => by rfl) _ _ rfl _ (fun V => by rfl) _ (fun w hb => (Keeps.below hb) _ _ hbx) _ Try.underlying25 rfl ?_; simp only [Act.put, List.setIfInBounds_toArray, List.set_cons_succ, List.set_cons_zero])
                | (refine f_ix_arr (by first | exact cls_free _ | exact cls_row _ _ _ _ | exact cls_fill _ _ _ _ _ | exact cls_butC _ _ | exact cls_butD _ _ _ _ _ _ _) (fun V => by rfl) 24 _ _ rfl (w.heap.size + 1) (fun V => by rfl) 5 _ _ (y) _ _ (fun V => by rfl) Try.underlying24 (by kernel_rfl) (rfl) (by omega) ?_; simp only [Act.put, List.setIfInBounds_toArray, List.set_cons_succ, List.set_cons_zero])
                | (refine f_load_cell (by first | exact cls_free _ | exact cls_row _ _ _ _ | exact cls_fill _ _ _ _ _ | exact cls_butC _ _ | exact cls_butD _ _ _ _ _ _ _) (fun V => by rfl) _ _ rfl _ (fun V => by rfl) _ (fun w hb => ((wBX.on hb).cell _).trans cb) _ Try.underlying5 rfl ?_; simp only [Act.put, List.setIfInBounds_toArray, List.set_cons_succ, List.set_cons_zero])
                | (refine f_lit1 (by first | exact cls_free _ | exact cls_row _ _ _ _ | exact cls_fill _ _ _ _ _ | exact cls_butC _ _ | exact cls_butD _ _ _ _ _ _ _) 32 5 _ rfl (fun V => by rfl) (by decide) w2.heap.size (fun w hb => Below.size hb) (.int .u8 b[y].toNat) (fun V => by rfl) (fun w => by kernel_rfl) ?_; simp only [Act.put, List.setIfInBounds_toArray, List.set_cons_succ, List.set_cons_zero, keyOf, Option.getD_some])
                | (refine f_build2 (by first | exact cls_free _ | exact cls_row _ _ _ _ | exact cls_fill _ _ _ _ _ | exact cls_butC _ _ | exact cls_butD _ _ _ _ _ _ _) 56 _ _ rfl (fun V => by rfl) (by decide) w2.heap.size (.int .i64 y) ([.int .u8 b[y].toNat]) _ (fun V => by rfl) (fun V => by rfl) (fun A n c w => run_build w _ _ _ (by kernel_rfl)) (fun V w hb hk => hk.slot 32 rfl rfl) ?_; simp only [Act.put, List.setIfInBounds_toArray, List.set_cons_succ, List.set_cons_zero, keyOf, Option.getD_some])
                | (refine f_lit2 (by first | exact cls_free _ | exact cls_row _ _ _ _ | exact cls_fill _ _ _ _ _ | exact cls_butC _ _ | exact cls_butD _ _ _ _ _ _ _) 25 _ rfl (fun V => by rfl) (by decide) w2.heap.size (fun w hb => Below.size hb) (.int .i64 y) ([.int .u8 b[y].toNat]) _ (fun V => by rfl) (fun A n c w => by kernel_rfl) (fun V w hb hk => hk.slot 33 rfl rfl) ?_; simp only [Act.put, List.setIfInBounds_toArray, List.set_cons_succ, List.set_cons_zero, keyOf, Option.getD_some])
          | (refine f_quiet (by first | exact cls_free _ | exact cls_row _ _ _ _ | exact cls_fill _ _ _ _ _ | exact cls_butC _ _ | exact cls_butD _ _ _ _ _ _ _) (fun V => by rfl) (fun V => ⟨_, rfl, by simp⟩) ?_; apply Exists.intro; refine And.intro (fun V w hw K hK => ?_) ?_; ((try simp only [Act.put, List.setIfInBounds_toArray, List.set_cons_succ, List.set_cons_zero] at hK); go_big_quiet_op; exact hK); simp only [Act.put, List.setIfInBounds_toArray, List.set_cons_succ, List.set_cons_zero]))
        refine f_nil ?_
        intro V w' hq hkn
        obtain ⟨E, g, hV, hW, hg, hE, h1⟩ := all_slot hkn 34 rfl
        clear hkn
        simp only [hV]
        have hrow := Lib.hid (hdi.own.on hq).row
        have hM := hdi.but.size
        have hqs := hq.size
        refine wpListIn_app2 (wideF_round _) rfl (.tmp 27) (.tmp 34) 25 rfl w1.heap.size 56 i0 _ 32 Try.underlying25 hi hz0 hz1 hz2 rfl _ es.length (flat es) rfl hrow.out g _ rfl _ _ (hW.mid 0 2 rfl) rfl h1 (by omega) (by omega) (by omega) ?_
        intro v' w2 HO HG HB
        obtain ⟨g', cap', rfl⟩ := own_pos HO.out (by omega)
        have hfar := own_far hrow.out hg0
        have hb2 := whole_grown (hdi.box.on hq) HG.out (far_ne hfar)
        have hc2 := hb2.cell 0
        have hf2 := hb2.free 0
        have F := Lib.hid (di_new hdi hg0 lb hd1 hq hE HO.out HG.out)
        replace hs1 := Lib.hid hs1
        replace h0 := Lib.hid h0
        gi_wp2
        exact ⟨(keeps_grown _ (grown_of B1.out) (fun j o e => by cases e)).trans F.out.2, _, _, F.out.1⟩
      · gi_wp2_with fail
        have hdi := di_on hdi'.out B1.out
        have wBX := wB.on B1.out
        have hd2 : dif (pre ++ [y]) = (q, y + 1) :: s := by rw [hd]; simp [dstep, hgap]
        have hrD2 := ownsRow_later hrD B1.out
        have hM2 := hdi.but.size
        have hrg2 : w2.rangeAt gr (s.length * 2) [.int .i64 q, .slice (some ⟨gd, 0, none⟩) (e - q) capd] := fun j v hv => Keeps.below B1.out _ _ (hrg' j v hv)
        have HBX : ∀ W, But gd w2 W → W.cell? ⟨w.heap.size + 1 + 1, 0, none⟩ = some (.slice (some ⟨gr, 0, none⟩) es.length c) := fun W h => ((hdi.box.but h (by omega)).cell 0)
        have HRG : ∀ W, But gd w2 W → W.rangeAt gr (s.length * 2) [.int .i64 q, .slice (some ⟨gd, 0, none⟩) (e - q) capd] := fun W h j v hv => h.cell (hrg2 j v hv) (by simpa using hne)
        have HDC : ∀ W, But gd w2 W → W.cell? ⟨gr, s.length * 2 + 1, none⟩ = some (.slice (some ⟨gd, 0, none⟩) (e - q) capd) := fun W h => HRG W h 1 _ rfl
        have HBY : ∀ W, But gd w2 W → ∀ j u, (bys (midL b e (y + 1 - e)))[j]? = some u → W.cell? ((⟨w.heap.size + 1, e, none⟩ : Addr).add j) = some u := fun W h j u hu => by
          rw [Addr.add_lit, (wBX.but h (by omega)).cell]
          have hj : j < y + 1 - e := by
            have := (List.getElem?_eq_some_iff.1 hu).1
            rw [bys_len, mid_len (by omega)] at this
            exact this
          rw [← hu]
          simp only [ab, bys, List.getElem?_toArray, List.getElem?_map, mid_get, if_pos hj]
        have hnl : (bys (midL b e (y + 1 - e))).length = y + 1 - e := by rw [bys_len, mid_len (by omega)]
        refine wpIn_region_facts (by first | exact wideF_wide | exact wideF_round _) 18 [15] [51] (by kernel_rfl) (by kernel_rfl) (by kernel_rfl) (by kernel_rfl) (butD_draw hrD2) ?_
        simp only [List.take_succ_cons, List.take_zero, List.drop_succ_cons, List.drop_zero, List.zipIdx_cons, List.zipIdx_nil, Nat.zero_add, Nat.reduceAdd]
        repeat (show wpF _ _ _ _ _ _ (_ :: _) _ _; first
          | (refine f_skip (fun V => by rfl) ?_; simp only [Act.put, List.setIfInBounds_toArray, List.set_cons_succ, List.set_cons_zero])
            
                | (refine f_load_cell (by first | exact cls_free _ | exact cls_row _ _ _ _ | exact cls_fill _ _ _ _ _ | exact cls_butC _ _ | exact cls_butD _ _ _ _ _ _ _) (fun V => by rfl) _ _ rfl _ (fun V => by rfl) _ (fun w hb => HBX w hb.1) _ Try.underlying25 rfl ?_; simp only [Act.put, List.setIfInBounds_toArray, List.set_cons_succ, List.set_cons_zero])
                | (refine f_ix_sl (by first | exact cls_free _ | exact cls_row _ _ _ _ | exact cls_fill _ _ _ _ _ | exact cls_butC _ _ | exact cls_butD _ _ _ _ _ _ _) (fun V => by rfl) 25 (.tmp 38) _ rfl _ _ _ _ (fun V => by rfl) 56 _ (s.length) _ _ (fun V => by rfl) Try.underlying25 (by kernel_rfl) (by omega) (by omega) ?_; simp only [Act.put, List.setIfInBounds_toArray, List.set_cons_succ, List.set_cons_zero])
                | (refine f_ix_sl (by first | exact cls_free _ | exact cls_row _ _ _ _ | exact cls_fill _ _ _ _ _ | exact cls_butC _ _ | exact cls_butD _ _ _ _ _ _ _) (fun V => by rfl) 25 (.tmp 43) _ rfl _ _ _ _ (fun V => by rfl) 56 _ (s.length) _ _ (fun V => by rfl) Try.underlying25 (by kernel_rfl) (by omega) (by omega) ?_; simp only [Act.put, List.setIfInBounds_toArray, List.set_cons_succ, List.set_cons_zero])
                | (refine f_ix_sl (by first | exact cls_free _ | exact cls_row _ _ _ _ | exact cls_fill _ _ _ _ _ | exact cls_butC _ _ | exact cls_butD _ _ _ _ _ _ _) (fun V => by rfl) 25 (.tmp 36) _ rfl _ _ _ _ (fun V => by rfl) 56 _ (s.length) _ _ (fun V => by rfl) Try.underlying25 (by kernel_rfl) (by omega) (by omega) ?_; simp only [Act.put, List.setIfInBounds_toArray, List.set_cons_succ, List.set_cons_zero])
                | (refine f_load_cell (by first | exact cls_free _ | exact cls_row _ _ _ _ | exact cls_fill _ _ _ _ _ | exact cls_butC _ _ | exact cls_butD _ _ _ _ _ _ _) (fun V => by rfl) _ _ rfl _ (fun V => by rfl) _ (fun w hb => HDC w hb.1) _ Try.underlying32 rfl ?_; simp only [Act.put, List.setIfInBounds_toArray, List.set_cons_succ, List.set_cons_zero])
                | (refine f_load_mid (by first | exact cls_free _ | exact cls_row _ _ _ _ | exact cls_fill _ _ _ _ _ | exact cls_butC _ _ | exact cls_butD _ _ _ _ _ _ _) (fun V => by rfl) 56 _ rfl _ _ (fun V => by rfl) [.int .i64 q, .slice (some ⟨gd, 0, none⟩) (e - q) capd] _ (fun w hb => HRG w hb.1) Try.underlying56 rfl (by kernel_rfl) ?_; simp only [Act.put, List.setIfInBounds_toArray, List.set_cons_succ, List.set_cons_zero])
                | (refine f_call (by first | exact cls_free _ | exact cls_row _ _ _ _ | exact cls_fill _ _ _ _ _ | exact cls_butC _ _ | exact cls_butD _ _ _ _ _ _ _) (fun V => by rfl) 23 _ _ rfl (enters_of Try.func23 rfl rfl) _ _ (fun V w hb hk => CE w) (fun V => by rfl) ?_; simp only [Act.put, List.setIfInBounds_toArray, List.set_cons_succ, List.set_cons_zero])
                | (refine f_mid_arr (by first | exact cls_free _ | exact cls_row _ _ _ _ | exact cls_fill _ _ _ _ _ | exact cls_butC _ _ | exact cls_butD _ _ _ _ _ _ _) (fun V => by rfl) 24 _ _ _ rfl (w.heap.size + 1) (fun V => by rfl) 5 _ Try.underlying24 (by kernel_rfl) _ _ _ _ (e) (y + 1) (fun V => by rfl) (fun V => by rfl) (rfl) (by omega) (by omega) (by omega) (by omega) ?_; simp only [Act.put, List.setIfInBounds_toArray, List.set_cons_succ, List.set_cons_zero])
                | (refine f_app_both (.tmp 42) (.tmp 50) 32 rfl i8 _ 1 Try.underlying32 hi8 hy0 hy1 hy2 rfl (fun V => by rfl) (by decide) (by decide) (hM2) (fun V => by rfl) _ _ _ (fun V => by rfl) (bys (midL b e (y + 1 - e))) (hnl) (fun w hbut => HBY w hbut) (bys_one _) (by unfold maxLen; omega) (by omega) ?_; simp only [Act.put, List.setIfInBounds_toArray, List.set_cons_succ, List.set_cons_zero, keyOf, Option.getD_some])
          | (refine f_quiet (by first | exact cls_free _ | exact cls_row _ _ _ _ | exact cls_fill _ _ _ _ _ | exact cls_butC _ _ | exact cls_butD _ _ _ _ _ _ _) (fun V => by rfl) (fun V => ⟨_, rfl, by simp⟩) ?_; apply Exists.intro; refine And.intro (fun V w hw K hK => ?_) ?_; ((try simp only [Act.put, List.setIfInBounds_toArray, List.set_cons_succ, List.set_cons_zero] at hK); go_big_quiet_op; exact hK); simp only [Act.put, List.setIfInBounds_toArray, List.set_cons_succ, List.set_cons_zero]))
        refine f_nil ?_
        intro V w' hq hkn
        have hap := all_slot hkn 51 rfl
        clear hkn
        have hrow2 := (hdi.own.row.kept hq.1 (own_types hdi.own.row hrD2 (by decide)))
        have hse : s.length * 2 + 1 < es.length * 2 := by omega
        have hc3 := hrow2.cellAt (s.length * 2 + 1) hse
        have hf3 := hrow2.frozenAt (s.length * 2 + 1)
        have hap' : fApp w2 w1.heap.size 5 gd (bys (rnOf b (q, e)).d ++ bys (midL b e (y + 1 - e))) (V 15) w' := hap
        clear hap hc3
        have hc3 := HDC w' hq.1
        generalize V 15 = D' at *
        obtain ⟨A', n', c', rfl⟩ := own_slice hap'.1
        have F := di_more (es := es') (show DI w1 (w.heap.size + 1 + 1) b pre w2 (.slice (some ⟨gr, 0, none⟩) es.length c) (es' ++ [(rnOf b (q, e), .slice (some ⟨gd, 0, none⟩) (e - q) capd)]) by rw [hE]; exact hdi) hg0 hdp hd2 (by omega) (by omega) hq.1 hap'
        rw [hel'] at F
        replace F := Lib.hid F
        replace hs1 := Lib.hid hs1
        replace h0 := Lib.hid h0
        clear HBX HRG HDC HBY hrow2 hrD2 hrg hrg' CE hdi wBX hE
        gi_wp2
        exact ⟨(keeps_grown _ (grown_of B1.out) (fun j o e => by cases e)).trans F.out.2, _, _, F.out.1⟩
  case done =>
    rintro D ys X hD rfl ⟨v, es, hdi⟩ hK
    have hc1 := hdi.box.cell 0
    rw [show (#[v] : Array Value)[0]? = some v from rfl] at hc1
    gi_wp2
    refine ⟨by simp, .inl ⟨_, _, rfl, run_takeDeferred hK, ?_⟩⟩
    have hm := hdi.own.meta (grownBy_putObj' X D (.deferred none)) (fun r e => by injection e with e; subst e; exact ⟨_, hK, rfl⟩)
    have hbX : Below w.heap.size w X := ⟨hdi.but.os.trans hb1.os, hdi.but.tape.trans hb1.tape, hdi.but.output.trans hb1.output, Nat.le_trans hb1.size hdi.but.size, fun k hk => (hdi.but.block k (by omega) (by simp; omega)).trans (hb1.block k hk)⟩
    refine ⟨_, results_tmp rfl _ _ _, v, rfl, ?_, hbX.trans (belowK_b (w := w) (Nat.le_refl _) X D _ _ (by omega) hK rfl rfl)⟩
    have := hm.rs
    rw [hdi.is] at this
    exact this
end Go.Proofs.Ytafmggipmaofnaa
