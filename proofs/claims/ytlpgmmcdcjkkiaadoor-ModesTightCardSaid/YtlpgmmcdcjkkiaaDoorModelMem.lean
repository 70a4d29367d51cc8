/- Slices of pairs in memory: what one reads as; one that is of the call's own; append, copy and clear at structs of several cells, by what the row holds behind them. -/
import Derived.Test.YtlpgmmcdcjkkiaaDoorModelMath
import Derived.Test.YtlpgmmcdcjkkiaaDoorRound
import Derived.Test.YtlpgmmcdcjkkiaaDoorCell
import Derived.Deep.AppendSrc
import Derived.Deep.RegionLaw
import Derived.Laws.CopyOwn
import Derived.Lib.Overlaps
import Derived.Lib.SliceRun
import Derived.Great.BuildSlice
namespace Go.Proofs.YtlpgmmcdcjkkiaaDoor
set_option maxRecDepth 20000
open Go.RowKit Go.Sort

/-! ### Cells laid over a list -/
theorem take_splice {α : Type} (L : List α) (o : Nat) (cs : List α) (k : Nat) (hk : k ≤ o) (ho : o ≤ L.length) : (splice L o cs).take k = L.take k := by
  unfold splice
  rw [List.take_append_of_le_length (by simp; omega), List.take_take, Nat.min_eq_left hk]
theorem take_splice_all {α : Type} (L : List α) (o : Nat) (cs : List α) (k : Nat) (hk : k = o + cs.length) (h : o + cs.length ≤ L.length) : (splice L o cs).take k = L.take o ++ cs := by
  subst hk
  unfold splice
  rw [← List.append_assoc, List.take_append_of_le_length (by simp; omega)]
  exact List.take_of_length_le (by simp; omega)
theorem drop_splice {α : Type} (L : List α) (o : Nat) (cs : List α) (k : Nat) (hk : o + cs.length ≤ k) (h : o + cs.length ≤ L.length) : (splice L o cs).drop k = L.drop k := by
  unfold splice
  rw [← List.append_assoc, List.drop_append, List.drop_of_length_le (by simp; omega), List.nil_append, List.drop_drop]
  congr 1
  simp; omega
theorem mem_splice {α : Type} {L : List α} {o : Nat} {cs : List α} {x : α} (h : x ∈ splice L o cs) : x ∈ L ∨ x ∈ cs := by
  unfold splice at h
  rcases List.mem_append.1 h with h | h
  · exact .inl (List.mem_of_mem_take h)
  · rcases List.mem_append.1 h with h | h
    · exact .inr h
    · exact .inl (List.mem_of_mem_drop h)
theorem splice_nil {α : Type} (L : List α) (o : Nat) : splice L o [] = L := by simp [splice]

/-! ### Pairs as cells -/
def kst (k : List UInt8) : Value := .string ⟨k.toArray⟩
def pcs (p : Pr) (D : Value) : List Value := [kst p.k, .int .i64 p.c.k, D, .int .i64 p.c.lo, .int .i64 p.c.hi, .int .i64 p.c.v]
/-- A pair as a value. -/
def pval (p : Pr) (D : Value) : Value := .agg (pcs p D).toArray
theorem pcs_len (p : Pr) (D : Value) : (pcs p D).length = 6 := rfl
def flatP (es : List (Pr × Value)) : List Value := es.flatMap fun x => pcs x.1 x.2
theorem flatP_app (a b : List (Pr × Value)) : flatP (a ++ b) = flatP a ++ flatP b := by simp [flatP]
theorem flatP_nil : flatP [] = [] := rfl
theorem flatP_one (x : Pr × Value) : flatP [x] = pcs x.1 x.2 := by simp [flatP]
theorem flatP_cons (x : Pr × Value) (es : List (Pr × Value)) : flatP (x :: es) = pcs x.1 x.2 ++ flatP es := by simp [flatP]
theorem flatP_len : ∀ es : List (Pr × Value), (flatP es).length = es.length * 6
  | [] => rfl
  | x :: es => by rw [flatP_cons, List.length_append, flatP_len es, pcs_len, List.length_cons]; omega
theorem flatP_take : ∀ (es : List (Pr × Value)) (k : Nat), (flatP es).take (k * 6) = flatP (es.take k)
  | [], k => by simp [flatP]
  | x :: es, 0 => by simp [flatP]
  | x :: es, k + 1 => by
    rw [flatP_cons, List.take_succ_cons, flatP_cons, ← flatP_take es k, List.take_append, pcs_len, List.take_of_length_le (by rw [pcs_len]; omega), show (k + 1) * 6 - 6 = k * 6 by omega]
theorem flatP_drop : ∀ (es : List (Pr × Value)) (k : Nat), (flatP es).drop (k * 6) = flatP (es.drop k)
  | [], k => by simp [flatP]
  | x :: es, 0 => by simp [flatP]
  | x :: es, k + 1 => by
    rw [flatP_cons, List.drop_succ_cons, ← flatP_drop es k, List.drop_append, pcs_len, List.drop_of_length_le (by rw [pcs_len]; omega), List.nil_append, show (k + 1) * 6 - 6 = k * 6 by omega]
theorem flatP_get (es : List (Pr × Value)) (k : Nat) (x : Pr × Value) (h : es[k]? = some x) (j : Nat) (u : Value) (hu : (pcs x.1 x.2)[j]? = some u) : (flatP es)[k * 6 + j]? = some u := by
  have hd : es.drop k = x :: es.drop (k + 1) := by
    obtain ⟨h1, rfl⟩ := List.getElem?_eq_some_iff.1 h
    exact List.drop_eq_getElem_cons h1
  rw [← List.getElem?_drop, flatP_drop, hd, flatP_cons, List.getElem?_append_left (List.getElem?_eq_some_iff.1 hu).1]
  exact hu
/-- A slice's value has one cell. -/
theorem SV.one {w : World} {v : Value} {l : List Value} (h : SV w v l) : v.oneCell' = true := by
  obtain ⟨A, c, rfl, _⟩ := h
  rfl
theorem SV.nu {w : World} {v : Value} {l : List Value} (h : SV w v l) : isU8 v = false := by
  obtain ⟨A, c, rfl, _⟩ := h
  rfl
theorem pcs_one {p : Pr} {D : Value} (h : D.oneCell' = true) : ∀ u ∈ pcs p D, u.oneCell' = true := by
  intro u hu
  simp only [pcs, List.mem_cons, List.not_mem_nil, or_false] at hu
  rcases hu with rfl | rfl | rfl | rfl | rfl | rfl <;> first | exact h | rfl
theorem pcs_nu {p : Pr} {D : Value} (h : isU8 D = false) : ∀ u ∈ pcs p D, isU8 u = false := by
  intro u hu
  simp only [pcs, List.mem_cons, List.not_mem_nil, or_false] at hu
  rcases hu with rfl | rfl | rfl | rfl | rfl | rfl <;> first | exact h | rfl
theorem flatP_one' {w : World} {es : List (Pr × Value)} (h : ∀ x ∈ es, SV w x.2 (bys x.1.c.d)) : ∀ u ∈ flatP es, u.oneCell' = true := by
  intro u hu
  obtain ⟨x, hx, hu⟩ := List.mem_flatMap.1 hu
  exact pcs_one (h x hx).one u hu
theorem flatP_nu {w : World} {es : List (Pr × Value)} (h : ∀ x ∈ es, SV w x.2 (bys x.1.c.d)) : ∀ u ∈ flatP es, isU8 u = false := by
  intro u hu
  obtain ⟨x, hx, hu⟩ := List.mem_flatMap.1 hu
  exact pcs_nu (h x hx).nu u hu

theorem rangeAt_keep {w w' : World} {b o : Nat} {cs : List Value} (h : w.rangeAt b o cs) (k : Keeps w w') : w'.rangeAt b o cs := fun j v hv => k _ _ (h j v hv)

/-! ### A slice that reads as pairs -/
def PS (w : World) (v : Value) (l : List Pr) : Prop :=
  ∃ A c, v = .slice A l.length c ∧ l.length ≤ c ∧ c ≤ maxLen ∧ (A = none → c = 0) ∧
    (l ≠ [] → ∃ b off, A = some ⟨b, off, none⟩ ∧ ∀ k p, l[k]? = some p → ∃ D, w.rangeAt b (off + k * 6) (pcs p D) ∧ SV w D (bys p.c.d))
theorem PS.keep {w w' : World} {v : Value} {l : List Pr} (h : PS w v l) (k : Keeps w w') : PS w' v l := by
  obtain ⟨A, c, h1, h2, h3, h4, h5⟩ := h
  refine ⟨A, c, h1, h2, h3, h4, fun hne => ?_⟩
  obtain ⟨b, off, hA, hc⟩ := h5 hne
  refine ⟨b, off, hA, fun j r hr => ?_⟩
  obtain ⟨D, g1, g2⟩ := hc j r hr
  exact ⟨D, rangeAt_keep g1 k, g2.keep k⟩
theorem PS.on {w w' : World} {v : Value} {l : List Pr} (h : PS w v l) (k : Below w.heap.size w w') : PS w' v l := h.keep (Keeps.below k)
theorem PS.nil (w : World) : PS w (.slice none 0 0) [] := ⟨none, 0, rfl, Nat.le_refl _, by simp [maxLen], fun _ => rfl, fun h => (h rfl).elim⟩
theorem PS.bd {w : World} {A : Option Addr} {n c : Nat} {l : List Pr} (h : PS w (.slice A n c) l) : n = l.length ∧ n ≤ c ∧ c ≤ 9223372036854775807 := by
  obtain ⟨A', c', e, h1, h2, h3, h4⟩ := h
  injection e with e1 e2 e3
  subst e1 e2 e3
  exact ⟨rfl, h1, h2⟩
theorem PS.slice {w : World} {v : Value} {l : List Pr} (h : PS w v l) : ∃ A c, v = .slice A l.length c := by
  obtain ⟨A, c, e, _⟩ := h
  exact ⟨A, c, e⟩
/-- One of them: where it lies, and what it is. -/
theorem PS.at {w : World} {A : Option Addr} {n c : Nat} {l : List Pr} (h : PS w (.slice A n c) l) {k : Nat} (hk : k < n) : ∃ b off p D, A = some ⟨b, off, none⟩ ∧ l[k]? = some p ∧ w.rangeAt b (off + k * 6) (pcs p D) ∧ SV w D (bys p.c.d) := by
  obtain ⟨A', c', e, h1, h2, h3, h4⟩ := h
  injection e with e1 e2 e3
  subst e1 e2 e3
  obtain ⟨b, off, hA, hc⟩ := h4 (by rintro rfl; simp at hk)
  obtain ⟨D, g⟩ := hc k _ (List.getElem?_eq_getElem hk)
  exact ⟨b, off, l[k], D, hA, List.getElem?_eq_getElem hk, g⟩
theorem map_fst_mapIdx (l : List Pr) (f : Nat → Value) : (l.mapIdx fun k p => (p, f k)).map (·.1) = l := by
  apply List.ext_getElem?
  intro j
  rw [List.getElem?_map, List.getElem?_mapIdx]
  cases l[j]? <;> rfl
/-- All of them: their cells. -/
theorem PS.cells {w : World} {A : Option Addr} {n c : Nat} {l : List Pr} (h : PS w (.slice A n c) l) : ∃ es : List (Pr × Value), es.map (·.1) = l ∧ (∀ x ∈ es, SV w x.2 (bys x.1.c.d)) ∧
    (0 < n → ∃ b off, A = some ⟨b, off, none⟩ ∧ w.rangeAt b off (flatP es)) := by
  obtain ⟨A', c', e, h1, h2, h3, h4⟩ := h
  injection e with e1 e2 e3
  subst e1 e2 e3
  by_cases hne : l = []
  · subst hne
    exact ⟨[], rfl, (fun x hx => by cases hx), (fun h => by simp at h)⟩
  · obtain ⟨b, off, hA, hc⟩ := h4 hne
    have hch : ∀ k, ∃ D, ∀ p, l[k]? = some p → w.rangeAt b (off + k * 6) (pcs p D) ∧ SV w D (bys p.c.d) := fun k => by
      cases hk : l[k]? with
      | none => exact ⟨undef, fun p hp => by cases hp⟩
      | some p =>
        obtain ⟨D, hD⟩ := hc k p hk
        exact ⟨D, fun q hq => by injection hq with hq; subst hq; exact hD⟩
    obtain ⟨f, hf⟩ := Classical.axiomOfChoice hch
    refine ⟨l.mapIdx fun k p => (p, f k), map_fst_mapIdx l f, fun x hx => ?_, fun _ => ⟨b, off, hA, fun j u hu => ?_⟩⟩
    · obtain ⟨k, hk⟩ := List.getElem?_of_mem hx
      rw [List.getElem?_mapIdx] at hk
      obtain ⟨p, hp, rfl⟩ := Option.map_eq_some_iff.1 hk
      exact (hf k p hp).2
    · have hj := (List.getElem?_eq_some_iff.1 hu).1
      rw [flatP_len, List.length_mapIdx] at hj
      have hk : j / 6 < l.length := by omega
      have hx : (l.mapIdx fun k p => (p, f k))[j / 6]? = some (l[j / 6], f (j / 6)) := by rw [List.getElem?_mapIdx, List.getElem?_eq_getElem hk]; rfl
      have hr : j % 6 < 6 := Nat.mod_lt _ (by omega)
      have hg : (pcs l[j / 6] (f (j / 6)))[j % 6]? = some (pcs l[j / 6] (f (j / 6)))[j % 6] := List.getElem?_eq_getElem (by rw [pcs_len]; exact hr)
      have h5 := flatP_get _ _ _ hx _ _ hg
      rw [show j / 6 * 6 + j % 6 = j by omega, hu] at h5
      injection h5 with h5
      have := (hf (j / 6) _ (List.getElem?_eq_getElem hk)).1 _ _ hg
      rw [show off + j / 6 * 6 + j % 6 = off + j by omega] at this
      rw [this, h5]

/-! ### One that is of the call's own -/
structure Blk (w : World) (g n cap : Nat) (L F : List Value) : Prop where
  cells : w.heap[g]? = some (.cells L.toArray 38 (0, 0))
  len : L.length = cap * 6
  le : n ≤ cap
  max : cap ≤ maxLen
  take : L.take (n * 6) = F
  nu : ∀ u ∈ L, isU8 u = false
def PO (w : World) (M : Nat) (v : Value) (es : List (Pr × Value)) : Prop :=
  ((v = .slice none 0 0 ∧ es = []) ∨ ∃ g cap L, v = .slice (some ⟨g, 0, none⟩) es.length cap ∧ M ≤ g ∧ Blk w g es.length cap L (flatP es)) ∧ ∀ x ∈ es, SV w x.2 (bys x.1.c.d)
theorem Blk.get {w : World} {g n cap : Nat} {L F : List Value} (h : Blk w g n cap L F) (j : Nat) (u : Value) (hu : F[j]? = some u) : w.cell? ⟨g, j, none⟩ = some u := by
  rw [cell_of_row w g j _ _ _ h.cells]
  have := h.take ▸ hu
  rw [List.getElem?_take] at this
  split at this
  · simpa using this
  · cases this
theorem PO.ps {w : World} {M : Nat} {v : Value} {es : List (Pr × Value)} (h : PO w M v es) : PS w v (es.map (·.1)) := by
  obtain ⟨⟨rfl, rfl⟩ | ⟨g, cap, L, rfl, hM, hb⟩, h2⟩ := h
  · exact PS.nil w
  · refine ⟨_, cap, by rw [List.length_map], by rw [List.length_map]; exact hb.le, hb.max, (fun h => by cases h), fun _ => ⟨g, 0, rfl, fun k p hp => ?_⟩⟩
    rw [List.getElem?_map] at hp
    obtain ⟨x, hx, rfl⟩ := Option.map_eq_some_iff.1 hp
    exact ⟨x.2, fun j u hu => by rw [Nat.zero_add]; exact hb.get _ _ (flatP_get es k x hx j u hu), h2 x (List.mem_of_getElem? hx)⟩
theorem Blk.kept {w w' : World} {g n cap : Nat} {L F : List Value} (h : Blk w g n cap L F) (hb : w'.heap[g]? = w.heap[g]?) : Blk w' g n cap L F := ⟨hb.trans h.cells, h.len, h.le, h.max, h.take, h.nu⟩
theorem Blk.lt {w : World} {g n cap : Nat} {L F : List Value} (h : Blk w g n cap L F) : g < w.heap.size := (Array.getElem?_eq_some_iff.1 h.cells).1
theorem PO.nil (w : World) (M : Nat) : PO w M (.slice none 0 0) [] := ⟨.inl ⟨rfl, rfl⟩, fun x h => by cases h⟩
theorem PO.on {w w' : World} {M : Nat} {v : Value} {es : List (Pr × Value)} (h : PO w M v es) (hb : Below w.heap.size w w') : PO w' M v es := by
  obtain ⟨h1, h2⟩ := h
  refine ⟨h1.imp id fun ⟨g, cap, L, e, hM, hk⟩ => ⟨g, cap, L, e, hM, hk.kept (hb.block g hk.lt)⟩, fun x hx => (h2 x hx).keep (Keeps.below hb)⟩
theorem PO.low {w : World} {M M' : Nat} {v : Value} {es : List (Pr × Value)} (h : PO w M v es) (hM : M' ≤ M) : PO w M' v es :=
  ⟨h.1.imp id fun ⟨g, cap, L, e, h1, h2⟩ => ⟨g, cap, L, e, Nat.le_trans hM h1, h2⟩, h.2⟩
theorem PO.lt {w : World} {M : Nat} {v : Value} {es : List (Pr × Value)} (h : PO w M v es) {g : Nat} (hg : v.ownBlock = some g) : M ≤ g ∧ g < w.heap.size := by
  obtain ⟨⟨rfl, rfl⟩ | ⟨g', cap, L, rfl, hM, hb⟩, _⟩ := h
  · cases hg
  · simp only [Value.ownBlock, Option.some.injEq] at hg
    subst hg
    exact ⟨hM, hb.lt⟩
/-- A slice of bytes that does not lie in a row of pairs. -/
theorem sv_blk {w w' : World} {g n cap : Nat} {L F : List Value} (hk : Blk w g n cap L F) (hb : But g w w') {v : Value} {l : List UInt8} (h : SV w v (bys l)) : SV w' v (bys l) :=
  sv_but h hk.cells hb (List.all_eq_true.2 fun u hu => by rw [List.toList_toArray] at hu; rw [hk.nu u hu]; rfl)
/-- A slice of pairs told by its cells that lie in no row of the call's own. -/
theorem ps_but {w w' : World} {g n cap M : Nat} {L F : List Value} (hk : Blk w g n cap L F) (hb : But g w w') {v : Value} {es : List (Pr × Value)} (h : PO w M v es) (hne : v.ownBlock ≠ some g) : PO w' M v es := by
  obtain ⟨h1, h2⟩ := h
  refine ⟨h1.imp id fun ⟨g', cap', L', e, hM, hk'⟩ => ⟨g', cap', L', e, hM, hk'.kept (hb.block g' hk'.lt fun e' => hne ?_)⟩, fun x hx => sv_blk hk hb (h2 x hx)⟩
  rw [e]; exact e'

/-! ### Running -/
section
variable {P : Program}
theorem but_setRow (w : World) (g : Nat) (cs : Array Value) : But g w (w.setRow g cs) :=
  ⟨rfl, rfl, rfl, by simp [World.setRow], fun k _ hk => setRow_other w g k cs (fun e => hk (by rw [e]))⟩
theorem run_storeRow (w : World) (g o : Nat) (t : TypeId) (L cs : List Value) (hg : w.heap[g]? = some (.cells L.toArray t (0, 0))) (hfit : o + cs.length ≤ L.length) (h1 : ∀ v ∈ cs, v.oneCell' = true) :
    ∃ w', (storeCells ⟨g, o, none⟩ cs 0).run P w = .ok () w' ∧ w'.heap[g]? = some (.cells (splice L o cs).toArray t (0, 0)) ∧ But g w w' := by
  have hst := run_storeCells_at P g o t cs 0 L.toArray w hg (by simpa using hfit) h1
  refine ⟨_, hst, ?_, but_setRow w g _⟩
  have := setRow_heap w g L.toArray (L.toArray.toList.take (o + 0) ++ cs ++ L.toArray.toList.drop (o + 0 + cs.length)).toArray t (0, 0) hg
  rw [this]
  simp [splice]
theorem run_copyK (w : World) (dT sT ty e : TypeId) (K : Nat) (hu : P.underlying dT = some (.slice e)) (hs : (P.info? e).map (·.size) = some K) (dp sp : Option Addr) (dLen dCap sLen sCap : Nat)
    (g o : Nat) (L : List Value) (t : TypeId) (hg : w.heap[g]? = some (.cells L.toArray t (0, 0))) (cs : List Value) (hn : cs.length = Nat.min sLen dLen * K)
    (hpos : 0 < cs.length → dp = some ⟨g, o, none⟩ ∧ ∃ ad, sp = some ad ∧ ∀ j v, cs[j]? = some v → w.cell? (ad.add j) = some v) (hfit : o + cs.length ≤ L.length) (h1 : ∀ v ∈ cs, v.oneCell' = true) :
    ∃ w', (Builtin.copy_ #[dT, sT] ty #[.slice dp dLen dCap, .slice sp sLen sCap]).run P w = .ok (goInt (Nat.min sLen dLen)) w' ∧ w'.heap[g]? = some (.cells (splice L o cs).toArray t (0, 0)) ∧ But g w w' := by
  cases hq : P.info? e with
  | none => simp [hq] at hs
  | some i =>
    have hi : i.size = K := by simpa [hq] using hs
    by_cases h0 : cs.length = 0
    · obtain rfl : cs = [] := List.eq_nil_of_length_eq_zero h0
      rw [splice_nil]
      refine ⟨w, ?_, hg, But.refl g w⟩
      have hz : Nat.min sLen dLen * K = 0 := by simpa using hn.symm
      cases dp <;> cases sp <;> simp [Builtin.copy_, run_underlying hu, Builtin.lenOf, Builtin.firstCells, sizeOf, typeInfo, hq, hi, hz, loadCells, loadCellsFrom, storeCells]
    · obtain ⟨rfl, ad, rfl, hsrc⟩ := hpos (by omega)
      have hl := run_loadCells_list (P := P) w ad cs hsrc
      obtain ⟨w', hst, h2, h3⟩ := run_storeRow (P := P) w g o t L cs hg hfit h1
      refine ⟨w', ?_, h2, h3⟩
      simp [Builtin.copy_, run_underlying hu, Builtin.lenOf, Builtin.firstCells, sizeOf, typeInfo, hq, hi, ← hn, hl, hst]
theorem run_clearK (w : World) (T ty e : TypeId) (z : Value) (hu : P.underlying T = some (.slice e)) (hz : ∀ w, (zeroValue e).run P w = .ok z w) (dp : Option Addr) (n c g o : Nat) (L : List Value) (t : TypeId) (hg : w.heap[g]? = some (.cells L.toArray t (0, 0)))
    (hpos : 0 < n → dp = some ⟨g, o, none⟩) (hfit : o + n * z.cells.size ≤ L.length) (h1 : ∀ v ∈ (Builtin.zeroCells z.cells n).toList, v.oneCell' = true) :
    ∃ w', (Builtin.clear_ #[T] ty #[.slice dp n c]).run P w = .ok (.tuple #[]) w' ∧ w'.heap[g]? = some (.cells (splice L o (Builtin.zeroCells z.cells n).toList).toArray t (0, 0)) ∧ But g w w' := by
  by_cases h0 : n = 0
  · subst h0
    refine ⟨w, ?_, ?_, But.refl g w⟩
    · cases dp <;> simp [Builtin.clear_, run_underlying hu]
    · rw [show (Builtin.zeroCells z.cells 0).toList = [] by simp [Builtin.zeroCells], splice_nil]; exact hg
  · obtain rfl := hpos (by omega)
    have hl : (Builtin.zeroCells z.cells n).toList.length = n * z.cells.size := by simp [Builtin.zeroCells]
    obtain ⟨w', hst, h2, h3⟩ := run_storeRow (P := P) w g o t L _ hg (by rw [hl]; exact hfit) h1
    refine ⟨w', ?_, h2, h3⟩
    obtain ⟨m, rfl⟩ : ∃ m, n = m + 1 := ⟨n - 1, by omega⟩
    simp [Builtin.clear_, run_underlying hu, hz, hst]
variable {ops : Array Oper} {rest : List Oper} {o : Oper} {a : Act} {Q : Exit → Act → World → Prop} {w : World}
/-- copy, in a walk. -/
theorem wpList_copyK (hw : Region.wanted o (yielded ops a.tmps) = true) (d s : Operand) (T : TypeId) (ho : o.op = .call { callee := .builtin .copy, args := #[d, s], argTypes := #[T, T] }) (e : TypeId) (K : Nat) (hu : P.underlying T = some (.slice e)) (hs : (P.info? e).map (·.size) = some K)
    (dp sp : Option Addr) (dLen dCap sLen sCap : Nat) (hd : a.eval d = .slice dp dLen dCap) (hx : a.eval s = .slice sp sLen sCap) (g f : Nat) (L : List Value) (t : TypeId) (hg : w.heap[g]? = some (.cells L.toArray t (0, 0))) (cs : List Value) (hn : cs.length = Nat.min sLen dLen * K)
    (hpos : 0 < cs.length → dp = some ⟨g, f, none⟩ ∧ ∃ ad, sp = some ad ∧ ∀ j v, cs[j]? = some v → w.cell? (ad.add j) = some v) (hfit : f + cs.length ≤ L.length) (h1 : ∀ v ∈ cs, v.oneCell' = true)
    (h : ∀ v' w', Hid (w'.heap[g]? = some (.cells (splice L f cs).toArray t (0, 0))) → Hid (But g w w') → wpList P ops Q rest (a.put o.dst v') w') : wpList P ops Q (o :: rest) a w :=
  wpList_step fun K' hK => by
    rw [if_pos hw]
    obtain ⟨w', hr, g1, g2⟩ := run_copyK (P := P) w T T o.type e K hu hs dp sp dLen dCap sLen sCap g f L t hg cs hn hpos hfit h1
    unfold Oper.wp execOp
    simp only [ho, resolve, invoke, builtin, Sem.run_bind, Sem.run_pure, Result.andThen_ok, List.map_toArray, List.map_cons, List.map_nil, hd, hx, hr]
    exact hK _ _ (h _ w' (Lib.hid g1) (Lib.hid g2))
/-- copy, as a step of a region that draws its order. -/
theorem step_copyK {K' : Act → World → Prop} {E : Prop} (hgd : o.guard = none) (d s : Operand) (T : TypeId) (ho : o.op = .call { callee := .builtin .copy, args := #[d, s], argTypes := #[T, T] }) (e : TypeId) (K : Nat) (hu : P.underlying T = some (.slice e)) (hs : (P.info? e).map (·.size) = some K)
    (dp sp : Option Addr) (dLen dCap sLen sCap : Nat) (hd : a.eval d = .slice dp dLen dCap) (hx : a.eval s = .slice sp sLen sCap) (g f : Nat) (L : List Value) (t : TypeId) (hg : w.heap[g]? = some (.cells L.toArray t (0, 0))) (cs : List Value) (hn : cs.length = Nat.min sLen dLen * K)
    (hpos : 0 < cs.length → dp = some ⟨g, f, none⟩ ∧ ∃ ad, sp = some ad ∧ ∀ j v, cs[j]? = some v → w.cell? (ad.add j) = some v) (hfit : f + cs.length ≤ L.length) (h1 : ∀ v ∈ cs, v.oneCell' = true)
    (h : ∀ v' w', Hid (w'.heap[g]? = some (.cells (splice L f cs).toArray t (0, 0))) → Hid (But g w w') → K' (a.put o.dst v') w') : if Region.wanted o (yielded ops a.tmps) = true then Oper.wp P o a w K' Q else E := by
  have hw : Region.wanted o (yielded ops a.tmps) = true := by simp [Region.wanted, hgd]
  rw [if_pos hw]
  obtain ⟨w', hr, g1, g2⟩ := run_copyK (P := P) w T T o.type e K hu hs dp sp dLen dCap sLen sCap g f L t hg cs hn hpos hfit h1
  unfold Oper.wp execOp
  simp only [ho, resolve, invoke, builtin, Sem.run_bind, Sem.run_pure, Result.andThen_ok, List.map_toArray, List.map_cons, List.map_nil, hd, hx, hr]
  exact h _ w' (Lib.hid g1) (Lib.hid g2)
/-- clear, in a walk. -/
theorem wpList_clearK (hw : Region.wanted o (yielded ops a.tmps) = true) (d : Operand) (T : TypeId) (ho : o.op = .call { callee := .builtin .clear, args := #[d], argTypes := #[T] }) (e : TypeId) (z : Value) (hu : P.underlying T = some (.slice e)) (hz : ∀ w, (zeroValue e).run P w = .ok z w)
    (dp : Option Addr) (n c : Nat) (hd : a.eval d = .slice dp n c) (g f : Nat) (L : List Value) (t : TypeId) (hg : w.heap[g]? = some (.cells L.toArray t (0, 0)))
    (hpos : 0 < n → dp = some ⟨g, f, none⟩) (hfit : f + n * z.cells.size ≤ L.length) (h1 : ∀ v ∈ (Builtin.zeroCells z.cells n).toList, v.oneCell' = true)
    (h : ∀ w', Hid (w'.heap[g]? = some (.cells (splice L f (Builtin.zeroCells z.cells n).toList).toArray t (0, 0))) → Hid (But g w w') → wpList P ops Q rest (a.put o.dst (.tuple #[])) w') : wpList P ops Q (o :: rest) a w :=
  wpList_step fun K' hK => by
    rw [if_pos hw]
    obtain ⟨w', hr, g1, g2⟩ := run_clearK (P := P) w T o.type e z hu hz dp n c g f L t hg hpos hfit h1
    unfold Oper.wp execOp
    simp only [ho, resolve, invoke, builtin, Sem.run_bind, Sem.run_pure, Result.andThen_ok, List.map_toArray, List.map_cons, List.map_nil, hd, hr]
    exact hK _ _ (h w' (Lib.hid g1) (Lib.hid g2))
/-- An operation, by its equation. -/
theorem wpList_runx (hw : Region.wanted o (yielded ops a.tmps) = true) (v : Value) (w' : World) (hr : (execOp a.eval o).run P w = .ok (.value v) w') (h : wpList P ops Q rest (a.put o.dst v) w') : wpList P ops Q (o :: rest) a w :=
  wpList_step fun K' hK => by
    rw [if_pos hw]
    unfold Oper.wp
    rw [hr]
    exact hK _ _ h
/-- append of what reads as 'news', the row in hand having room. -/
theorem run_app_roomK (w : World) (T ty e : TypeId) (i : TypeInfo) (hu : P.underlying T = some (.slice e)) (hi : P.info? e = some i) (g n cap : Nat) (L : List Value) (t : TypeId) (hg : w.heap[g]? = some (.cells L.toArray t (0, 0)))
    (ad : Addr) (m c : Nat) (news : List Value) (hl : news.length = m * i.size) (hnews : ∀ j u, news[j]? = some u → w.cell? (ad.add j) = some u) (h1 : ∀ u ∈ news, u.oneCell' = true) (hroom : n + m ≤ cap) (hfit : n * i.size + news.length ≤ L.length) :
    ∃ w', (Builtin.append_ #[T, T] ty #[.slice (some ⟨g, 0, none⟩) n cap, .slice (some ad) m c]).run P w = .ok (.slice (some ⟨g, 0, none⟩) (n + m) cap) w' ∧ w'.heap[g]? = some (.cells (splice L (n * i.size) news).toArray t (0, 0)) ∧ But g w w' := by
  obtain ⟨w', hst, h2, h3⟩ := run_storeRow (P := P) w g (n * i.size) t L news hg hfit h1
  refine ⟨w', ?_, h2, h3⟩
  have hc : (Builtin.firstCells i.size m (.slice (some ad) m c)).run P w = .ok news.toArray w := by
    unfold Builtin.firstCells
    rw [← hl]
    exact run_loadCells_list (P := P) w ad news hnews
  simp [Builtin.append_, run_underlying hu, sizeOf, typeInfo, hi, Builtin.lenOf, hroom, hc, Addr.add_lit, hst]
end
end Go.Proofs.YtlpgmmcdcjkkiaaDoor
