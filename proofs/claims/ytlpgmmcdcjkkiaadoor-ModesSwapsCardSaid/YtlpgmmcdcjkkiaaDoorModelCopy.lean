/- A slice of pairs in memory of its own: slices.Clone, copied, alone; append at pairs where there is no room. -/
import Derived.Test.YtlpgmmcdcjkkiaaDoorModelFind
namespace Go.Proofs.YtlpgmmcdcjkkiaaDoor
set_option maxRecDepth 20000
open Go.RowKit Go.Sort

def zP : Array Value := #[.string ⟨#[]⟩, .int .i64 0, .slice none 0 0, .int .i64 0, .int .i64 0, .int .i64 0]
theorem Tryd.ipair : (Tryd.prog.info? 38).map (fun i => (i.zero, i.size, i.bytes)) = some (some (.agg zP), 6, 72) := by kernel_rfl
theorem zP_get (i : Nat) (h : i < 6) : isU8 zP[i]! = false ∧ (zP[i]!).oneCell' = true := by
  have : i = 0 ∨ i = 1 ∨ i = 2 ∨ i = 3 ∨ i = 4 ∨ i = 5 := by omega
  rcases this with rfl | rfl | rfl | rfl | rfl | rfl <;> exact ⟨rfl, rfl⟩
theorem zP_mem (k : Nat) : ∀ u ∈ (Builtin.zeroCells zP k).toList, isU8 u = false ∧ u.oneCell' = true := by
  intro u hu
  simp only [Builtin.zeroCells, Array.toList_map, List.mem_map] at hu
  obtain ⟨i, _, rfl⟩ := hu
  exact zP_get _ (Nat.mod_lt _ (by decide))
theorem zP_len (k : Nat) : (Builtin.zeroCells zP k).toList.length = k * 6 := by
  rw [Array.length_toList, size_zeroCells]
  rfl
/-- append where there is no room: a new row. -/
theorem run_growP (w : World) (tx ty : TypeId) (A : Option Addr) (n c : Nat) (olds : List Value) (hlo : olds.length = n * 6) (hold : 0 < n → ∃ b off, A = some ⟨b, off, none⟩ ∧ w.rangeAt b off olds) (hn1 : ∀ u ∈ olds, isU8 u = false)
    (x : Value) (m : Nat) (news : List Value) (hs : Src Tryd.prog 6 tx x m news w) (hn2 : ∀ u ∈ news, isU8 u = false) (hg : c < n + m) (hsz : n + m ≤ 1000000000) :
    ∃ cap L w', (Builtin.append_ #[30, tx] ty #[.slice A n c, x]).run Tryd.prog w = .ok (.slice (some ⟨w.heap.size, 0, none⟩) (n + m) cap) w' ∧ Blk w' w.heap.size (n + m) cap L (olds ++ news) ∧ Below w.heap.size w w' := by
  obtain ⟨i, hi, hz0, hz1, hz2⟩ := info_parts Tryd.ipair
  have hfc : (Builtin.firstCells i.size n (.slice A n c)).run Tryd.prog w.drew = .ok olds.toArray w.drew := by
    rw [hz1]
    by_cases h0 : n = 0
    · subst h0
      obtain rfl : olds = [] := List.eq_nil_of_length_eq_zero (by omega)
      cases A with
      | none => exact run_firstCells_none w.drew 6 0 0 c
      | some a => exact run_firstCells_some w.drew 6 0 a 0 c [] rfl (fun j v hj => by cases hj)
    · obtain ⟨b, off, rfl, hr⟩ := hold (by omega)
      exact run_firstCells_some w.drew 6 n ⟨b, off, none⟩ n c olds hlo (fun j v hj => by rw [Addr.add_lit]; exact hr j v hj)
  have hr := run_append_grow_src (P := Tryd.prog) w 30 tx ty 38 i _ Tryd.underlying30 hi hz0 A n c olds hfc x m news (by rw [hz1]; exact hs) hg (by omega) (by rw [hz2]; exact growslice_fits hg (by omega))
  have hge := grownCap_ge w (n + m) c 38
  have hle := grownCap_le_maxLen w (n + m) c 38 (by unfold maxLen; omega)
  generalize grownCap w (n + m) c 38 = cap at *
  have hnl := hs.newsLen
  refine ⟨cap, (olds ++ news) ++ (Builtin.zeroCells zP (cap - (n + m))).toList, _, hr, ⟨?_, ?_, hge, hle, ?_, ?_⟩, ?_⟩
  · have := heap_alloc_new w.drew (.cells ((olds ++ news).toArray ++ Builtin.zeroCells zP (cap - (n + m))) 38)
    rw [show w.drew.heap.size = w.heap.size from rfl] at this
    refine this.trans ?_
    congr 2
    simp
  · rw [List.length_append, List.length_append, zP_len, hlo, hnl]; omega
  · rw [List.take_left' (by rw [List.length_append, hlo, hnl]; omega)]
  · intro u hu
    rcases List.mem_append.1 hu with hu | hu
    · rcases List.mem_append.1 hu with hu | hu
      · exact hn1 u hu
      · exact hn2 u hu
    · exact (zP_mem _ u hu).1
  · exact ((Below.refl w.heap.size w).trans (show Below w.heap.size w w.drew from ⟨rfl, rfl, rfl, Nat.le_refl _, fun _ _ => rfl⟩)).alloc (Nat.le_refl _) _
theorem wpList_growP {ops : Array Oper} {rest : List Oper} {o : Oper} {a : Act} {Q : Exit → Act → World → Prop} {w : World} (hw : Region.wanted o (yielded ops a.tmps) = true) (s x : Operand) (tx : TypeId) (ho : o.op = .call { callee := .builtin .append, args := #[s, x], argTypes := #[30, tx] })
    (A : Option Addr) (n c : Nat) (hs' : a.eval s = .slice A n c) (olds : List Value) (hlo : olds.length = n * 6) (hold : 0 < n → ∃ b off, A = some ⟨b, off, none⟩ ∧ w.rangeAt b off olds) (hn1 : ∀ u ∈ olds, isU8 u = false)
    (xv : Value) (hx : a.eval x = xv) (m : Nat) (news : List Value) (hs : Src Tryd.prog 6 tx xv m news w) (hn2 : ∀ u ∈ news, isU8 u = false) (hg : c < n + m) (hsz : n + m ≤ 1000000000)
    (h : ∀ cap L w', Hid (Blk w' w.heap.size (n + m) cap L (olds ++ news)) → Hid (Below w.heap.size w w') → wpList Tryd.prog ops Q rest (a.put o.dst (.slice (some ⟨w.heap.size, 0, none⟩) (n + m) cap)) w') : wpList Tryd.prog ops Q (o :: rest) a w := by
  obtain ⟨cap, L, w', hr, h1, h2⟩ := run_growP w tx o.type A n c olds hlo hold hn1 xv m news hs hn2 hg hsz
  refine wpList_runx hw _ w' ?_ (h cap L w' (Lib.hid h1) (Lib.hid h2))
  unfold execOp
  simp only [ho, resolve, invoke, builtin, Sem.run_bind, Sem.run_pure, Result.andThen_ok, List.map_toArray, List.map_cons, List.map_nil, hs', hx, hr]

/-- append of nothing. -/
theorem wpList_appnoneP {ops : Array Oper} {rest : List Oper} {o : Oper} {a : Act} {Q : Exit → Act → World → Prop} {w : World} (hw : Region.wanted o (yielded ops a.tmps) = true) (s x : Operand) (ho : o.op = .call { callee := .builtin .append, args := #[s, x], argTypes := #[30, 30] })
    (A : Option Addr) (n c : Nat) (hs' : a.eval s = .slice A n c) (hnc : n ≤ c) (B : Option Addr) (d : Nat) (hx : a.eval x = .slice B 0 d) (h : wpList Tryd.prog ops Q rest (a.put o.dst (.slice A n c)) w) : wpList Tryd.prog ops Q (o :: rest) a w := by
  obtain ⟨i, hi, hz0, hz1, hz2⟩ := info_parts Tryd.ipair
  have hr := run_append_nosrc (P := Tryd.prog) w 30 o.type 38 i Tryd.underlying30 hi A n c hnc B d
  refine wpList_runx hw _ w ?_ h
  unfold execOp
  simp only [ho, resolve, invoke, builtin, Sem.run_bind, Sem.run_pure, Result.andThen_ok, List.map_toArray, List.map_cons, List.map_nil, hs', hx, hr]
theorem Blk.none (w : World) : Blk (w.alloc (.cells #[] 38)) w.heap.size 0 0 [] [] :=
  ⟨heap_alloc_new w _, rfl, Nat.le_refl _, Nat.zero_le _, rfl, fun u hu => by cases hu⟩
/-- A slice of the call's own that holds these pairs came back. -/
def Copied (l : List Pr) (w : World) (e : Ending) (w' : World) : Prop := ∃ v' es, e = .returned v' ∧ es.map (·.1) = l ∧ PO w' w.heap.size v' es ∧ Below w.heap.size w w'
/-- slices.Clone. -/
theorem cloneP_any (v : Value) (l : List Pr) (w : World) (hv : PS w v l) (hl : l.length ≤ 1000000) :
    Calls Tryd.prog 40 #[v] w (Copied l w) := by
  obtain ⟨A, c, rfl, h1, h2, h3, h4⟩ := id hv
  obtain ⟨es, he, hsv, hcells⟩ := hv.cells
  have hel : es.length = l.length := by rw [← he, List.length_map]
  cases A with
  | none =>
    have h0 : l = [] := List.eq_nil_of_length_eq_zero (by have := h3 rfl; omega)
    subst h0
    obtain rfl : c = 0 := h3 rfl
    have hnil := Lib.run_eql_slice_nil (P := Tryd.prog) w 30 38 none 0 0 0 0 Tryd.underlying30
    clear hv h4
    go_enter Tryd.func40, Tryd.ntmps40
    go_wp2
    go_ret
    exact ⟨_, [], rfl, rfl, PO.nil _ _, Below.refl _ _⟩
  | some ad =>
    have hnil := Lib.run_eql_slice_nil (P := Tryd.prog) w 30 38 (some ad) l.length c 0 0 Tryd.underlying30
    clear h4 h3
    by_cases h0 : l.length = 0
    · have hes : es = [] := List.eq_nil_of_length_eq_zero (by omega)
      obtain rfl := List.eq_nil_of_length_eq_zero h0
      clear hcells hsv hv hel he hnil
      have hnil := Lib.run_eql_slice_nil (P := Tryd.prog) w 30 38 (some ad) 0 c 0 0 Tryd.underlying30
      simp only [List.length_nil]
      go_enter Tryd.func40, Tryd.ntmps40
      go_wp2_with (show wpList _ _ _ (Oper.mk (some 7) (.call _) _ _ _ _ :: _) _ _; refine wpList_appnoneP rfl (.tmp 5) (.tmp 6) rfl (some ⟨w.heap.size, 0, none⟩) 0 0 rfl (Nat.le_refl _) (some ad) c rfl ?_)
      go_ret
      exact ⟨_, [], rfl, rfl, ⟨.inr ⟨w.heap.size, 0, [], rfl, Nat.le_refl _, Blk.none w⟩, fun x hx => by cases hx⟩, (Below.refl _ _).alloc (Nat.le_refl _) _⟩
    · obtain ⟨b, off, hb, hra⟩ := hcells (by omega)
      injection hb with hb
      subst hb
      have HS := Lib.hid hsv
      have HC := Lib.hid hra
      have he := Lib.hid he
      have HEL := Lib.hid hel
      have HL := Lib.hid hl
      clear hv hcells hsv hra hel h1 h2
      go_enter Tryd.func40, Tryd.ntmps40
      go_wp2_with (show wpList _ _ _ (Oper.mk (some 7) (.call _) _ _ _ _ :: _) _ _; refine wpList_growP rfl (.tmp 5) (.tmp 6) 30 rfl (some ⟨w.heap.size, 0, none⟩) 0 0 rfl [] rfl (fun h => by omega) (fun u hu => by cases hu) (.slice (some ⟨b, off, none⟩) l.length c) rfl l.length (flatP es) (Src.ofSlice _ Tryd.underlying30 ⟨b, off, none⟩ _ _ _ (by rw [flatP_len, HEL.out]) (fun j u hu => by rw [Addr.add_lit]; exact rangeAt_keep HC.out (Keeps.alloc _ _) j u hu) (flatP_one' HS.out)) (flatP_nu HS.out) (by omega) (by have := HL.out; omega) ?_; intro cap L w1 HB Hb)
      go_ret
      have hf : Blk w1 (w.heap.size + 1) es.length cap L (flatP es) := by
        have := HB.out
        simpa [HEL.out] using this
      refine ⟨.slice (some ⟨w.heap.size + 1, 0, none⟩) es.length cap, es, ?_, he.out, ⟨.inr ⟨_, cap, L, rfl, by omega, hf⟩, fun x hx => (HS.out x hx).keep ((Keeps.alloc w _).trans (Keeps.below Hb.out))⟩, ((Below.refl _ w).alloc (Nat.le_refl _) _).trans (Hb.out.mono (by simp))⟩
      rw [HEL.out]
      simp
/-- A cell is stored into a pair of a row. -/
theorem get_splice {α : Type} (L : List α) (o : Nat) (cs : List α) (h : o + cs.length ≤ L.length) (i : Nat) : (splice L o cs)[i]? = if i < o then L[i]? else if i < o + cs.length then cs[i - o]? else L[i]? := by
  unfold splice
  by_cases h1 : i < o
  · rw [if_pos h1, List.getElem?_append_left (by simp; omega), List.getElem?_take, if_pos h1]
  · rw [if_neg h1, List.getElem?_append_right (by simp; omega), List.length_take, Nat.min_eq_left (by omega)]
    by_cases h2 : i < o + cs.length
    · rw [if_pos h2, List.getElem?_append_left (by omega)]
    · rw [if_neg h2, List.getElem?_append_right (by omega), List.getElem?_drop]
      congr 1
      omega
def ccs (c : Cl) (D : Value) : List Value := [.int .i64 c.k, D, .int .i64 c.lo, .int .i64 c.hi, .int .i64 c.v]
theorem pcs_cons (p : Pr) (D : Value) : pcs p D = kst p.k :: ccs p.c D := rfl
theorem take_set {L : List Value} {es : List (Pr × Value)} {cap j : Nat} {x : Pr × Value} (hL : L.length = cap * 6) (hle : es.length ≤ cap) (ht : L.take (es.length * 6) = flatP es) (hj : es[j]? = some x) (E : Value) : (splice L (j * 6 + 1) (ccs x.1.c E)).take (es.length * 6) = flatP (es.set j (x.1, E)) := by
  have hjl := (List.getElem?_eq_some_iff.1 hj).1
  have hfit : j * 6 + 1 + (ccs x.1.c E).length ≤ L.length := by rw [hL]; show j * 6 + 1 + 5 ≤ _; omega
  apply List.ext_getElem?
  intro i
  by_cases hi : i < es.length * 6
  · rw [List.getElem?_take, if_pos hi, get_splice _ _ _ hfit]
    have hq : i / 6 < es.length := by omega
    have hr : i % 6 < 6 := Nat.mod_lt _ (by omega)
    have hold : L[i]? = (flatP es)[i]? := by rw [← ht, List.getElem?_take, if_pos hi]
    have hi6 : i = i / 6 * 6 + i % 6 := by omega
    by_cases hqj : i / 6 = j
    · have hnew : (es.set j (x.1, E))[i / 6]? = some (x.1, E) := by rw [hqj, List.getElem?_set_self hjl]
      have hR : (flatP (es.set j (x.1, E)))[i]? = (pcs x.1 E)[i % 6]? := by
        have := flatP_get _ _ _ hnew (i % 6) _ (List.getElem?_eq_getElem (by rw [pcs_len]; exact hr))
        rw [← hi6] at this
        rw [this, List.getElem?_eq_getElem (by rw [pcs_len]; exact hr)]
      rw [hR, pcs_cons]
      by_cases h0 : i % 6 = 0
      · rw [if_pos (by omega), hold, h0]
        have := flatP_get es j x hj 0 (kst x.1.k) rfl
        rw [show j * 6 + 0 = i by omega] at this
        rw [this]; rfl
      · rw [if_neg (by omega), if_pos (by show i < j * 6 + 1 + 5; omega)]
        obtain ⟨r, hr1⟩ : ∃ r, i % 6 = r + 1 := ⟨i % 6 - 1, by omega⟩
        rw [hr1, List.getElem?_cons_succ]
        congr 1
        omega
    · have hnew : (es.set j (x.1, E))[i / 6]? = es[i / 6]? := by rw [List.getElem?_set_ne (by omega)]
      have hR : (flatP (es.set j (x.1, E)))[i]? = (flatP es)[i]? := by
        have hx := List.getElem?_eq_getElem hq
        have hg : (pcs es[i / 6].1 es[i / 6].2)[i % 6]? = some (pcs es[i / 6].1 es[i / 6].2)[i % 6] := List.getElem?_eq_getElem (by rw [pcs_len]; exact hr)
        have h1 := flatP_get es _ _ hx _ _ hg
        have h2 := flatP_get (es.set j (x.1, E)) _ _ (hnew.trans hx) _ _ hg
        rw [← hi6] at h1 h2
        rw [h1, h2]
      rw [hR]
      by_cases hlt : i < j * 6 + 1
      · rw [if_pos hlt, hold]
      · rw [if_neg hlt, if_neg (by show ¬ i < j * 6 + 1 + 5; omega), hold]
  · rw [List.getElem?_eq_none (by simp; omega), List.getElem?_eq_none (by rw [flatP_len, List.length_set]; omega)]
theorem wpList_storeK {P : Program} {ops : Array Oper} {rest : List Oper} {o : Oper} {a : Act} {Q : Exit → Act → World → Prop} {w : World} (hw : Region.wanted o (yielded ops a.tmps) = true) (ty : TypeId) (x y : Operand) (ho : o.op = .store ty x y) (g f : Nat) (hx : a.eval x = .pointer (some ⟨g, f, none⟩)) (cs : List Value) (hy : a.eval y = .agg cs.toArray)
    (L : List Value) (t : TypeId) (hg : w.heap[g]? = some (.cells L.toArray t (0, 0))) (hi : (P.info? ty).map (·.size) = some cs.length) (hfit : f + cs.length ≤ L.length) (h1 : ∀ v ∈ cs, v.oneCell' = true)
    (h : ∀ w', Hid (w'.heap[g]? = some (.cells (splice L f cs).toArray t (0, 0))) → Hid (But g w w') → wpList P ops Q rest (a.put o.dst undef) w') : wpList P ops Q (o :: rest) a w :=
  wpList_step fun K hK => by
    rw [if_pos hw]
    obtain ⟨w', hst, h2, h3⟩ := run_storeRow (P := P) w g f t L cs hg hfit h1
    have hr : (storeVar ty ⟨g, f, none⟩ (.agg cs.toArray)).run P w = .ok () w' := by
      cases hq : P.info? ty with
      | none => simp [hq] at hi
      | some i =>
        have hs : i.size = cs.length := by simpa [hq] using hi
        simp [storeVar, sizeOf, typeInfo, hq, Value.cells, hs, hst]
    unfold Oper.wp execOp
    simp only [ho, hx, hy, Instr.storeAt, Instr.sureAddr, Sem.run_bind, Sem.run_pure, Result.andThen_ok, hr]
    exact hK _ _ (h w' (Lib.hid h2) (Lib.hid h3))
set_option maxHeartbeats 1000000 in
theorem copied_any (v : Value) (l : List Pr) (w : World) (hv : PS w v l) (hl : l.length ≤ 1000000) (hs : Small l) : Calls Tryd.prog 33 #[v] w (Copied l w) := by
  have CC := Lib.hid (cloneP_any v l w hv hl)
  have HS := Lib.hid hs
  clear hv hs
  go_enter Tryd.func33, Tryd.ntmps33
  go_wp2_with fail
  refine CC.out.mono ?_
  rintro e w1 ⟨v1, es, rfl, he, ho, b1⟩
  have hel : es.length = l.length := by rw [← he, List.length_map]
  clear CC
  rcases ho with ⟨⟨rfl, rfl⟩ | ⟨g, cap, L, rfl, hg, hb⟩, hsv⟩
  · obtain rfl : l = [] := he.symm
    clear hel he hsv
    replace b1 := Lib.hid b1
    go_wp2
    go_loopw [8] (fun i wr => i = .int .i64 0 ∧ wr = w1) (fun _ _ => 0)
    case atStart => exact ⟨rfl, rfl⟩
    case round =>
      obtain ⟨rfl, rfl⟩ := hrel
      go_wp2
      go_ret
      exact ⟨_, [], rfl, rfl, PO.nil _ _, b1.out⟩
  · have hmax := hb.max
    have hle := hb.le
    unfold maxLen at hmax
    replace he := Lib.hid he
    replace hg := Lib.hid hg
    have H0 := Lib.hid (show ∃ L es', es'.map (·.1) = l ∧ Blk w1 g l.length cap L (flatP es') ∧ ∀ x ∈ es', SV w1 x.2 (bys x.1.c.d) from ⟨L, es, he.out, hel ▸ hb, hsv⟩)
    replace b1 := Lib.hid b1
    clear hb hsv
    rw [hel] at hle ⊢
    clear hel
    go_wp2
    go_loopw [8] (fun i wr => ∃ j : Nat, j ≤ l.length ∧ i = .int .i64 j ∧ Hid (∃ L es', es'.map (·.1) = l ∧ Blk wr g l.length cap L (flatP es') ∧ ∀ x ∈ es', SV wr x.2 (bys x.1.c.d)) ∧ Hid (Below w.heap.size w wr)) (fun i _ => l.length - (intOf i).toNat)
    case atStart => exact ⟨0, by omega, rfl, H0, b1⟩
    case round =>
      obtain ⟨j, hj, rfl, HI, hB⟩ := hrel
      by_cases hlt : j < l.length
      · obtain ⟨L1, es1, hm, hk, hsv⟩ := HI.out
        have hel : es1.length = l.length := by rw [← hm, List.length_map]
        have hx : es1[j]? = some es1[j] := List.getElem?_eq_getElem (by omega)
        generalize es1[j] = x at hx
        obtain ⟨p, D⟩ := x
        have hD : SV wr D (bys p.c.d) := hsv _ (List.mem_of_getElem? hx)
        have hpl : p ∈ l := by rw [← hm]; exact List.mem_map.2 ⟨(p, D), List.mem_of_getElem? hx, rfl⟩
        obtain ⟨Ad, nd, cd, rfl⟩ := sv_sl hD
        have CC := Lib.hid (copiedCell_any Ad nd cd p.c wr hD (HS.out p hpl).1)
        have HR := Lib.hid (show wr.rangeAt g (j * 6 + 1) (ccs p.c (.slice Ad nd cd)) from fun i u hu => by rw [show j * 6 + 1 + i = j * 6 + (i + 1) by omega]; exact hk.get _ _ (flatP_get es1 j _ hx (i + 1) u (by rw [pcs_cons]; exact hu)))
        have HK := Lib.hid (⟨hm, hk, hsv, hx⟩ : es1.map (·.1) = l ∧ Blk wr g l.length cap L1 (flatP es1) ∧ (∀ x ∈ es1, SV wr x.2 (bys x.1.c.d)) ∧ es1[j]? = some (p, .slice Ad nd cd))
        clear HI hm hk hsv hx hD hpl
        unfold cv at CC
        go_wp2_with (show wpList _ _ _ (Oper.mk _ (.load _ (.tmp 16)) _ _ _ _ :: _) _ _; refine wpList_load_mid rfl 36 (.tmp 16) rfl _ _ rfl _ _ (HR.out) Tryd.underlying36 rfl (by kernel_rfl) ?_)
        refine CC.out.mono ?_
        rintro e w2 ⟨E, rfl, hE, b2⟩
        obtain ⟨Ae, ne, ce, rfl⟩ := sv_sl hE
        obtain ⟨hm, hk, hsv, hx⟩ := HK.out
        have hk2 := Lib.hid (hk.kept (b2.block g hk.lt))
        have hs2 := Lib.hid (show ∀ x ∈ es1, SV w2 x.2 (bys x.1.c.d) from fun x hx => (hsv x hx).keep (Keeps.below b2))
        have hE2 := Lib.hid hE
        have B2 := Lib.hid (hB.out.trans (b2.mono hB.out.size))
        have hfit := Lib.hid (show j * 6 + 1 + (ccs p.c (.slice Ae ne ce)).length ≤ L1.length by rw [hk.len]; have := hk.le; show j * 6 + 1 + 5 ≤ _; omega)
        have hone := Lib.hid (show ∀ v ∈ ccs p.c (.slice Ae ne ce), v.oneCell' = true from fun u hu => pcs_one (p := p) (show (Value.slice Ae ne ce).oneCell' = true from rfl) u (by rw [pcs_cons]; exact List.mem_cons_of_mem _ hu))
        have hnu := Lib.hid (show ∀ v ∈ ccs p.c (.slice Ae ne ce), isU8 v = false from fun u hu => pcs_nu (p := p) (show isU8 (Value.slice Ae ne ce) = false from rfl) u (by rw [pcs_cons]; exact List.mem_cons_of_mem _ hu))
        clear hE b2 hm hk hsv hx CC HR
        go_wp2_with (show wpList _ _ _ (Oper.mk _ (.store _ (.tmp 20) _) _ _ _ _ :: _) _ _; refine wpList_storeK rfl _ (.tmp 20) (.tmp 18) rfl g (j * 6 + 1) rfl (ccs p.c (.slice Ae ne ce)) rfl L1 _ hk2.out.cells (by kernel_rfl) hfit.out hone.out ?_; intro w3 HG HB3)
        go_roundw
        case rel =>
          obtain ⟨hm, hk, hsv, hx⟩ := HK.out
          refine ⟨j + 1, by omega, by go_num, Lib.hid ⟨splice L1 (j * 6 + 1) (ccs p.c (.slice Ae ne ce)), es1.set j (p, .slice Ae ne ce), ?_, ⟨HG.out, ?_, hk.le, hk.max, ?_, ?_⟩, ?_⟩, Lib.hid (But.below B2.out HB3.out hg.out B2.out.size)⟩
          · rw [List.map_set, hm]
            show l.set j p = l
            have : l[j]? = some p := by rw [← hm, List.getElem?_map, hx]; rfl
            obtain ⟨h1, h2⟩ := List.getElem?_eq_some_iff.1 this
            rw [← h2, List.set_getElem_self]
          · rw [length_splice _ _ _ hfit.out]; exact hk.len
          · have := take_set (E := .slice Ae ne ce) hk.len (by rw [hel]; exact hk.le) (by rw [hel]; exact hk.take) hx
            rw [hel] at this
            exact this
          · intro u hu
            rcases mem_splice hu with h | h
            · exact hk.nu u h
            · exact hnu.out u h
          · intro x hx'
            rcases List.mem_or_eq_of_mem_set hx' with h | rfl
            · exact sv_blk hk2.out HB3.out (hs2.out x h)
            · exact sv_blk hk2.out HB3.out hE2.out
        case measure => simp [intOf]; omega
      · obtain rfl : j = l.length := by omega
        go_wp2
        go_ret
        obtain ⟨L1, es1, hm, hk, hsv⟩ := HI.out
        have hel : es1.length = l.length := by rw [← hm, List.length_map]
        exact ⟨_, es1, rfl, hm, ⟨.inr ⟨g, cap, L1, by rw [hel]; rfl, hg.out, by rw [hel]; exact hk⟩, hsv⟩, hB.out⟩
theorem PO.lit (w : World) (p : Pr) (D : Value) (h : SV w D (bys p.c.d)) : PO (w.alloc (.cells (pcs p D).toArray 38)) w.heap.size (.slice (some ⟨w.heap.size, 0, none⟩) 1 1) [(p, D)] := by
  refine ⟨.inr ⟨w.heap.size, 1, pcs p D, rfl, Nat.le_refl _, ⟨heap_alloc_new w _, rfl, Nat.le_refl _, by decide, ?_, pcs_nu h.nu⟩⟩, fun x hx => ?_⟩
  · rw [flatP_one]; exact List.take_of_length_le (by show 6 ≤ 1 * 6; omega)
  · simp at hx; subst hx; exact h.keep (Keeps.alloc _ _)
/-- alone. -/
theorem alone_any (k : List UInt8) (A : Option Addr) (n m : Nat) (c : Cl) (w : World) (h : SV w (.slice A n m) (bys c.d)) (hl : c.d.length ≤ 1073741824) (hk : k.length ≤ 1073741824) : Calls Tryd.prog 47 #[kst k, cv (.slice A n m) c] w (Copied (one k c) w) := by
  by_cases h0 : c.k = 0
  · rw [show one k c = [] by simp [one, h0]]
    clear h
    unfold kst cv
    go_enter Tryd.func47, Tryd.ntmps47
    go_wp2
    go_ret
    exact ⟨_, [], rfl, rfl, PO.nil _ _, (Below.refl _ _).alloc (Nat.le_refl _) _⟩
  · rw [show one k c = [⟨k, c⟩] by simp [one, h0]]
    have CC : ∀ (w' : World) g, g = w'.heap.size → SV w' (.slice A n m) (bys c.d) → Calls Tryd.prog 33 #[.slice (some ⟨g, 0, none⟩) 1 1] (w'.alloc (.cells (pcs ⟨k, c⟩ (.slice A n m)).toArray 38)) (Copied [⟨k, c⟩] (w'.alloc (.cells (pcs ⟨k, c⟩ (.slice A n m)).toArray 38))) := by
      intro w' g hg hw
      subst hg
      exact copied_any (.slice (some ⟨w'.heap.size, 0, none⟩) 1 1) [⟨k, c⟩] (w'.alloc (.cells (pcs ⟨k, c⟩ (.slice A n m)).toArray 38)) (PO.lit w' ⟨k, c⟩ _ hw).ps (by simp) (fun p hp => by simp at hp; subst hp; exact ⟨hl, hk⟩)
    replace CC := Lib.hid CC
    have H := Lib.hid h
    clear h
    unfold kst cv
    unfold pcs kst at CC
    go_enter Tryd.func47, Tryd.ntmps47
    go_wp2_with fail
    refine Calls.mono (CC.out (w.alloc _) (w.heap.size + 1) (by simp) (H.out.keep (Keeps.alloc _ _))) ?_
    rintro e w1 ⟨v1, es, rfl, he, ho, b1⟩
    replace he := Lib.hid he
    replace ho := Lib.hid ho
    replace b1 := Lib.hid b1
    clear CC H
    go_wp2
    go_ret
    exact ⟨_, es, rfl, he.out, ho.out.low (by simp; omega), (two_more (Below.refl _ _) _ _).trans (b1.out.mono (by simp; omega))⟩
end Go.Proofs.YtlpgmmcdcjkkiaaDoor
