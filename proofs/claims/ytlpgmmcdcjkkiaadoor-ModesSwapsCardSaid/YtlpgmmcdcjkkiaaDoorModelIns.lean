/- slices.Insert at pairs: one pair into a row of the call's own. -/
import Derived.Test.YtlpgmmcdcjkkiaaDoorModelCopy
namespace Go.Proofs.YtlpgmmcdcjkkiaaDoor
set_option maxRecDepth 20000
open Go.RowKit Go.Sort

/-- The row of block g holds these cells; all else is as it was. -/
def RowAt (w : World) (g : Nat) (L : List Value) (w' : World) : Prop := w'.heap[g]? = some (.cells L.toArray 38 (0, 0)) ∧ But g w w'
theorem row_get {w : World} {g : Nat} {L : List Value} {t : TypeId} (hg : w.heap[g]? = some (.cells L.toArray t (0, 0))) (o n : Nat) (j : Nat) (u : Value) (h : ((L.drop o).take n)[j]? = some u) : w.cell? ((⟨g, o, none⟩ : Addr).add j) = some u := by
  rw [Addr.add_lit, cell_of_row w g (o + j) _ _ _ hg]
  rw [List.getElem?_take] at h
  split at h
  · rw [List.getElem?_drop] at h
    simpa using h
  · cases h
theorem apart_run (w : World) (g vb n c n' c' o o' : Nat) (L Lb : List Value) (hg : w.heap[g]? = some (.cells L.toArray 38 (0, 0))) (hb : w.heap[vb]? = some (.cells Lb.toArray 38 (0, 0))) (hne : vb ≠ g) (hL : L ≠ []) :
    (callFunc 74 #[.slice (some ⟨vb, o, none⟩) n c, .slice (some ⟨g, o', none⟩) n' c']).run Tryd.prog w = .ok (.value (.bool false)) w := by
  obtain ⟨i, hi, hz0, hz1, hz2⟩ := info_parts Tryd.ipair
  have hz : ∀ w, (Go.sizeOf 38).run Tryd.prog w = .ok 6 w := fun w => by simp [sizeOf, typeInfo, hi, hz1]
  rw [run_callFunc_extern Tryd.func74 (by kernel_rfl) (by kernel_rfl) (by kernel_rfl) (e := Extern.SlicesOverlaps.overlaps #[30, 30] #[4]) (by kernel_rfl),
    Lib.run_overlaps_apart w 30 4 38 Tryd.underlying30 6 hz ⟨vb, o, none⟩ ⟨g, o', none⟩ n c n' c' hne 38 38 Lb.length L.length (by simp [World.shape?, hb]) (by simp [World.shape?, hg]) (by simpa using hL) (by simp [World.frozen?, hb]) (by simp [World.frozen?, hb])]
  rfl
set_option maxHeartbeats 1000000 in
/-- In the middle, there is room. -/
theorem ins_mid (w : World) (g n cap i vb c : Nat) (L Lb X : List Value) (hg : w.heap[g]? = some (.cells L.toArray 38 (0, 0))) (hL : L.length = cap * 6) (hn : n < cap) (hi : i < n) (hmax : cap ≤ 9223372036854775807)
    (h1 : ∀ u ∈ L.take (n * 6), u.oneCell' = true) (hb : w.heap[vb]? = some (.cells Lb.toArray 38 (0, 0))) (hne : vb ≠ g) (hX : Lb.take 6 = X) (hXl : X.length = 6) (h2 : ∀ u ∈ X, u.oneCell' = true) :
    Calls Tryd.prog 73 #[.slice (some ⟨g, 0, none⟩) n cap, .int .i64 i, .slice (some ⟨vb, 0, none⟩) 1 c] w fun e w' => e = .returned (.slice (some ⟨g, 0, none⟩) (n + 1) cap) ∧ RowAt w g (splice (splice L ((i + 1) * 6) ((L.drop (i * 6)).take ((n - i) * 6))) (i * 6) X) w' := by
  have hov := fun o o' n' c' => apart_run w g vb 1 c n' c' o o' L Lb hg hb hne (by rintro rfl; simp at hL; omega)
  have hcs : ((L.drop (i * 6)).take ((n - i) * 6)).length = (n - i) * 6 := by simp; omega
  have hone : ∀ u ∈ (L.drop (i * 6)).take ((n - i) * 6), u.oneCell' = true := fun u hu => h1 u (by
    obtain ⟨j, hj⟩ := List.getElem?_of_mem hu
    have hjl := (List.getElem?_eq_some_iff.1 hj).1
    rw [hcs] at hjl
    rw [List.getElem?_take, if_pos hjl, List.getElem?_drop] at hj
    exact List.mem_of_getElem? (i := i * 6 + j) (by rw [List.getElem?_take, if_pos (by omega)]; exact hj))
  have G0 := Lib.hid hg
  have GB := Lib.hid hb
  have HC := Lib.hid hcs
  have H1 := Lib.hid hone
  have HX := Lib.hid hX
  have HXl := Lib.hid hXl
  have H2 := Lib.hid h2
  have HL := Lib.hid hL
  have HN := Lib.hid hne
  clear hg hb hcs hone hX hXl h2 hL h1 hne
  have hi2 : i ≤ n := by omega
  have hb2 : ¬ (cap = i + 1) := by omega
  have hb4 : ¬ (cap = i) := by omega
  have hz2 : ¬ ((i : Int) = (n : Int)) := by omega
  have hn2 : ¬ (cap < n + 1) := by omega
  go_enter Tryd.func73, Tryd.ntmps73
  go_wp2_with (simp only [hov])
  have hw1 : IntKind.i64.wrap ((i : Int) + 1) = (i : Int) + 1 := by rw [IntKind.wrap_i64]; omega
  have hb1 : (0 : Int) ≤ (i : Int) + 1 := by omega
  have htn : ((i : Int) + 1).toNat = i + 1 := by omega
  have hb3 : (i : Int) ≤ (n : Int) + 1 := by omega
  go_region_law (refine step_copyK rfl (.tmp 73) (.tmp 76) 30 rfl 38 6 Tryd.underlying30 (by kernel_rfl) (some ⟨g, (i + 1) * 6, none⟩) (some ⟨g, i * 6, none⟩) (n - i) (cap - (i + 1)) (n + 1 - i) (cap - i) (by simp [Act.eval, Act.put]) (by simp [Act.eval, Act.put]) g ((i + 1) * 6) L _ G0.out _ (by rw [HC.out]; congr 1; simp only [Nat.min_def]; split <;> omega) (fun _ => ⟨rfl, ⟨g, i * 6, none⟩, rfl, fun j u hu => row_get G0.out (i * 6) _ j u hu⟩) (by rw [HC.out, HL.out]; omega) H1.out ?_; intro v1 w1 HG HB)
  clear hw1 hb1 htn hb3 hov
  have HGB := Lib.hid (show w1.heap[vb]? = some (.cells Lb.toArray 38 (0, 0)) from (HB.out.block vb (Array.getElem?_eq_some_iff.1 GB.out).1 (fun e => HN.out (by injection e))).trans GB.out)
  have hmin := Lib.hid (show Nat.min 1 (n + 1 - i) = 1 from by simp only [Nat.min_def]; split <;> omega)
  go_wp2_with (show wpList _ _ _ (Oper.mk (some 82) (.call _) _ _ _ _ :: _) _ _; refine wpList_copyK rfl (.tmp 80) (.tmp 81) 30 rfl 38 6 Tryd.underlying30 (by kernel_rfl) (some ⟨g, i * 6, none⟩) (some ⟨vb, 0, none⟩) (n + 1 - i) (cap - i) 1 c rfl rfl g (i * 6) _ _ HG.out X (by rw [hmin.out, HXl.out]) (fun _ => ⟨rfl, ⟨vb, 0, none⟩, rfl, fun j u hu => row_get HGB.out 0 6 j u (by rw [List.drop_zero, HX.out]; exact hu)⟩) (by rw [length_splice _ _ _ (by rw [HC.out, HL.out]; omega), HL.out, HXl.out]; omega) H2.out ?_; intro v2 w2 HG2 HB2)
  go_ret
  exact ⟨rfl, HG2.out, ((But.of g (show Below w.heap.size w w.drew from ⟨rfl, rfl, rfl, Nat.le_refl _, fun _ _ => rfl⟩)).trans HB.out).trans HB2.out⟩
set_option maxHeartbeats 1000000 in
/-- At the end, there is room. -/
theorem ins_end (w : World) (g n cap vb c : Nat) (L Lb X : List Value) (hg : w.heap[g]? = some (.cells L.toArray 38 (0, 0))) (hL : L.length = cap * 6) (hn : n < cap)
    (hb : w.heap[vb]? = some (.cells Lb.toArray 38 (0, 0))) (hX : Lb.take 6 = X) (hXl : X.length = 6) (h2 : ∀ u ∈ X, u.oneCell' = true) :
    Calls Tryd.prog 73 #[.slice (some ⟨g, 0, none⟩) n cap, .int .i64 n, .slice (some ⟨vb, 0, none⟩) 1 c] w fun e w' => e = .returned (.slice (some ⟨g, 0, none⟩) (n + 1) cap) ∧ RowAt w g (splice L (n * 6) X) w' := by
  obtain ⟨i, hi, hz0, hz1, hz2⟩ := info_parts Tryd.ipair
  have HR := Lib.hid (fun ty => run_app_roomK (P := Tryd.prog) w 30 ty 38 i Tryd.underlying30 hi g n cap L _ hg ⟨vb, 0, none⟩ 1 c X (by rw [hz1, hXl]) (fun j u hu => row_get hb 0 6 j u (by rw [List.drop_zero, hX]; exact hu)) h2 (by omega) (by rw [hz1, hXl, hL]; omega))
  have HZ := Lib.hid hz1
  clear hi hz0 hz1 hz2 hg hb hX hXl h2 hL
  have hb4 : ¬ (cap = n) := by omega
  go_enter Tryd.func73, Tryd.ntmps73
  go_wp2_with (show wpList _ _ _ (Oper.mk (some 25) (.call _) _ _ _ _ :: _) _ _; obtain ⟨w1, hr, hG, hB⟩ := HR.out _; refine wpList_runx rfl _ w1 (by unfold execOp; simp only [resolve, invoke, builtin, Sem.run_bind, Sem.run_pure, Result.andThen_ok, List.map_toArray, List.map_cons, List.map_nil]; exact congrArg (fun r => Result.andThen r _) hr) ?_; rw [HZ.out] at hG; replace hG := Lib.hid hG; replace hB := Lib.hid hB; clear hr)
  go_ret
  exact ⟨rfl, hG.out, hB.out⟩
set_option maxHeartbeats 1000000 in
/-- At the end, there is no room. -/
theorem ins_end_grow (w : World) (A : Option Addr) (n cap vb c : Nat) (olds Lb X : List Value) (hlo : olds.length = n * 6) (hold : 0 < n → ∃ b off, A = some ⟨b, off, none⟩ ∧ w.rangeAt b off olds) (hn1 : ∀ u ∈ olds, isU8 u = false) (hA : A = none → n = 0 ∧ cap = 0) (hne : ∀ a, A = some a → a.spot = none) (hn : n = cap) (hmax : n ≤ 1000000)
    (hb : w.heap[vb]? = some (.cells Lb.toArray 38 (0, 0))) (hX : Lb.take 6 = X) (hXl : X.length = 6) (h2 : ∀ u ∈ X, u.oneCell' = true) (h3 : ∀ u ∈ X, isU8 u = false) :
    Calls Tryd.prog 73 #[.slice A n cap, .int .i64 n, .slice (some ⟨vb, 0, none⟩) 1 c] w fun e w' => ∃ cap' L', e = .returned (.slice (some ⟨w.heap.size, 0, none⟩) (n + 1) cap') ∧ Blk w' w.heap.size (n + 1) cap' L' (olds ++ X) ∧ Below w.heap.size w w' := by
  subst hn
  have HS := Lib.hid (Src.ofSlice (P := Tryd.prog) (size := 6) w Tryd.underlying30 ⟨vb, 0, none⟩ 1 c X (by rw [hXl]) (fun j u hu => row_get hb 0 6 j u (by rw [List.drop_zero, hX]; exact hu)) h2)
  have HO := Lib.hid hold
  have HLO := Lib.hid hlo
  have H1 := Lib.hid hn1
  have H3 := Lib.hid h3
  clear hb hX hXl h2 hold hlo hn1 h3
  cases A with
  | none =>
    obtain ⟨rfl, -⟩ := hA rfl
    clear hA hne
    go_enter Tryd.func73, Tryd.ntmps73
    go_wp2_with (show wpList _ _ _ (Oper.mk (some 25) (.call _) _ _ _ _ :: _) _ _; refine wpList_growP rfl (.tmp 23) (.tmp 24) 30 rfl none 0 0 rfl _ HLO.out HO.out H1.out _ rfl 1 X HS.out H3.out (by omega) (by omega) ?_; intro cap' L' w1 HB Hb)
    go_ret
    exact ⟨cap', L', rfl, HB.out, Hb.out⟩
  | some a =>
    obtain ⟨ab, ao, asp⟩ := a
    obtain rfl : asp = none := hne _ rfl
    clear hA hne
    go_enter Tryd.func73, Tryd.ntmps73
    go_wp2_with (show wpList _ _ _ (Oper.mk (some 25) (.call _) _ _ _ _ :: _) _ _; refine wpList_growP rfl (.tmp 23) (.tmp 24) 30 rfl (some ⟨ab, ao, none⟩) n n rfl _ HLO.out HO.out H1.out _ rfl 1 X HS.out H3.out (by omega) (by omega) ?_; intro cap' L' w1 HB Hb)
    go_ret
    exact ⟨cap', L', rfl, HB.out, Hb.out⟩
/-- append of zeros where there is no room. -/
theorem run_zerosP (w : World) (ty : TypeId) (g n c m : Nat) (L : List Value) (hg : w.heap[g]? = some (.cells L.toArray 38 (0, 0))) (hL : n * 6 ≤ L.length) (hnu : ∀ u ∈ L, isU8 u = false) (hm : 0 < m) (hc : c < n + m) (hsz : n + m ≤ 1000000000) :
    ∃ cap R w', (Builtin.append_ #[30, 3] ty #[.slice (some ⟨g, 0, none⟩) n c, .int .i64 m]).run Tryd.prog w = .ok (.slice (some ⟨w.heap.size, 0, none⟩) (n + m) cap) w' ∧ w'.heap[w.heap.size]? = some (.cells (L.take (n * 6) ++ R).toArray 38 (0, 0)) ∧ (L.take (n * 6) ++ R).length = cap * 6 ∧ n + m ≤ cap ∧ cap ≤ maxLen ∧ (∀ u ∈ L.take (n * 6) ++ R, isU8 u = false) ∧ Below w.heap.size w w' := by
  obtain ⟨i, hi, hz0, hz1, hz2⟩ := info_parts Tryd.ipair
  have hlt : (L.take (n * 6)).length = n * 6 := by simp; omega
  have hfc : (Builtin.firstCells 6 n (.slice (some ⟨g, 0, none⟩) n c)).run Tryd.prog w.drew = .ok (L.take (n * 6)).toArray w.drew :=
    run_firstCells_some w.drew 6 n ⟨g, 0, none⟩ n c (L.take (n * 6)) hlt (fun j v hj => row_get (w := w.drew) hg 0 (n * 6) j v (by rw [List.drop_zero]; exact hj))
  have hge := grownCap_ge w (n + m) c 38
  have hle := grownCap_le_maxLen w (n + m) c 38 (by unfold maxLen; omega)
  have hfit : Builtin.nextslicecap (n + m) c * 72 ≤ 281474976710656 := growslice_fits hc (by omega)
  have hn : n + m ≠ 0 := by omega
  have hw : IntKind.i64.wrap (m : Int) = m := by rw [IntKind.wrap_i64]; omega
  have h63' : ¬ (9223372036854775807 < ((n : Int) + (m : Int))) := by omega
  have h48' : ¬ (281474976710656 < Builtin.nextslicecap (n + m) c * 72) := by omega
  have h48i : ¬ (281474976710656 < (m : Int) * (72 : Int)) := by omega
  have hneg : ¬ ((m : Int) < 0) := by omega
  have hns : ¬ (m * 6 = 0) := by omega
  have hroom : ¬ n + m ≤ c := by omega
  have hrun : (Builtin.append_ #[30, 3] ty #[.slice (some ⟨g, 0, none⟩) n c, .int .i64 m]).run Tryd.prog w = .ok (.slice (some ⟨w.heap.size, 0, none⟩) (n + m) (grownCap w (n + m) c 38))
      (w.drew.alloc (.cells ((L.take (n * 6)).toArray ++ (Builtin.zeroCells zP m ++ Builtin.zeroCells zP (grownCap w (n + m) c 38 - (n + m)))) 38)) := by
    simp [Builtin.append_, run_underlying Tryd.underlying30, run_underlying Tryd.underlying3, sizeOf, typeInfo, zeroValue, hi, hz0, hz1, hz2, asInt, asIntOf, hw, hneg, hns, hroom, h63', h48', h48i, Question.forced, hfc, newRow, grownCap, Value.cells]
  generalize grownCap w (n + m) c 38 = cap at *
  refine ⟨cap, (Builtin.zeroCells zP m).toList ++ (Builtin.zeroCells zP (cap - (n + m))).toList, _, hrun, ?_, ?_, hge, hle, ?_, ?_⟩
  · have := heap_alloc_new w.drew (.cells ((L.take (n * 6)).toArray ++ (Builtin.zeroCells zP m ++ Builtin.zeroCells zP (cap - (n + m)))) 38)
    rw [show w.drew.heap.size = w.heap.size from rfl] at this
    refine this.trans ?_
    congr 2
    simp
  · rw [List.length_append, List.length_append, zP_len, zP_len, hlt]; omega
  · intro u hu
    rcases List.mem_append.1 hu with hu | hu
    · exact hnu u (List.mem_of_mem_take hu)
    · rcases List.mem_append.1 hu with hu | hu
      · exact (zP_mem _ u hu).1
      · exact (zP_mem _ u hu).1
  · exact ((Below.refl w.heap.size w).trans (show Below w.heap.size w w.drew from ⟨rfl, rfl, rfl, Nat.le_refl _, fun _ _ => rfl⟩)).alloc (Nat.le_refl _) _
theorem wpList_zerosP {ops : Array Oper} {rest : List Oper} {o : Oper} {a : Act} {Q : Exit → Act → World → Prop} {w : World} (hw : Region.wanted o (yielded ops a.tmps) = true) (s x : Operand) (ho : o.op = .call { callee := .builtin .append, args := #[s, x], argTypes := #[30, 3] })
    (g n c : Nat) (hs' : a.eval s = .slice (some ⟨g, 0, none⟩) n c) (z : Int) (hx : a.eval x = .int .i64 z) (m : Nat) (hz : z = m) (L : List Value) (hg : w.heap[g]? = some (.cells L.toArray 38 (0, 0))) (hL : n * 6 ≤ L.length) (hnu : ∀ u ∈ L, isU8 u = false) (hm : 0 < m) (hc : c < n + m) (hsz : n + m ≤ 1000000000)
    (h : ∀ cap R w', Hid (w'.heap[w.heap.size]? = some (.cells (L.take (n * 6) ++ R).toArray 38 (0, 0)) ∧ (L.take (n * 6) ++ R).length = cap * 6 ∧ n + m ≤ cap ∧ cap ≤ maxLen ∧ (∀ u ∈ L.take (n * 6) ++ R, isU8 u = false) ∧ Below w.heap.size w w') → n + m ≤ cap → wpList Tryd.prog ops Q rest (a.put o.dst (.slice (some ⟨w.heap.size, 0, none⟩) (n + m) cap)) w') : wpList Tryd.prog ops Q (o :: rest) a w := by
  subst hz
  obtain ⟨cap, R, w', hr, h1⟩ := run_zerosP w o.type g n c m L hg hL hnu hm hc hsz
  refine wpList_runx hw _ w' ?_ (h cap R w' (Lib.hid h1) h1.2.2.1)
  unfold execOp
  simp only [ho, resolve, invoke, builtin, Sem.run_bind, Sem.run_pure, Result.andThen_ok, List.map_toArray, List.map_cons, List.map_nil, hs', hx, hr]
theorem zz1 {i n cap : Nat} (hi : i < n) (h : i + (n + 1 - i) ≤ cap) : ¬ (cap = i) := by omega
theorem zz2 {i n cap : Nat} (hi : i < n) (h : i + (n + 1 - i) ≤ cap) : ¬ (cap = i + 1) := by omega
theorem zz3 {w w' : World} {k : Nat} {o : Obj} (h : Below w.heap.size w w') (hk : k < w.heap.size) (hg : w.heap[k]? = some o) : w'.heap[k]? = some o := (h.block k hk).trans hg
set_option maxHeartbeats 1000000 in
/-- In the middle, there is no room. -/
theorem ins_mid_grow (w : World) (g n i vb c : Nat) (L Lb X : List Value) (hg : w.heap[g]? = some (.cells L.toArray 38 (0, 0))) (hL : L.length = n * 6) (hi : i < n) (hmax : n ≤ 1000000) (hnu : ∀ u ∈ L, isU8 u = false)
    (h1 : ∀ u ∈ L, u.oneCell' = true) (hb : w.heap[vb]? = some (.cells Lb.toArray 38 (0, 0))) (hX : Lb.take 6 = X) (hXl : X.length = 6) (h2 : ∀ u ∈ X, u.oneCell' = true) :
    Calls Tryd.prog 73 #[.slice (some ⟨g, 0, none⟩) n n, .int .i64 i, .slice (some ⟨vb, 0, none⟩) 1 c] w fun e w' => ∃ cap' R, e = .returned (.slice (some ⟨w.heap.size, 0, none⟩) (n + 1) cap') ∧ n + 1 ≤ cap' ∧ cap' ≤ maxLen ∧ (L.take (i * 6) ++ R).length = cap' * 6 ∧ (∀ u ∈ L.take (i * 6) ++ R, isU8 u = false) ∧
      w'.heap[w.heap.size]? = some (.cells (splice (splice (L.take (i * 6) ++ R) (i * 6) X) ((i + 1) * 6) (L.drop (i * 6))).toArray 38 (0, 0)) ∧ Below w.heap.size w w' := by
  have hcs : (L.drop (i * 6)).length = (n - i) * 6 := by simp; omega
  have hone : ∀ u ∈ L.drop (i * 6), u.oneCell' = true := fun u hu => h1 u (List.mem_of_mem_drop hu)
  have G0 := Lib.hid hg
  have GB := Lib.hid hb
  have HC := Lib.hid hcs
  have H1 := Lib.hid hone
  have HX := Lib.hid hX
  have HXl := Lib.hid hXl
  have H2 := Lib.hid h2
  have HL := Lib.hid hL
  have HNU := Lib.hid hnu
  have hgs := Lib.hid (Array.getElem?_eq_some_iff.1 hg).1
  have hbs := Lib.hid (Array.getElem?_eq_some_iff.1 hb).1
  clear hg hb hcs hone hX hXl h2 hL h1 hnu
  have hi2 : i ≤ n := by omega
  have hb4 : ¬ (n = i) := by omega
  have hz2 : ¬ ((i : Int) = (n : Int)) := by omega
  go_enter Tryd.func73, Tryd.ntmps73
  have he := Lib.hid (show i + (n + 1 - i) = n + 1 from by omega)
  have hmin := Lib.hid (show Nat.min 1 (n + 1 - i) = 1 from by simp only [Nat.min_def]; split <;> omega)
  go_wp2_with (first
    | (show wpList _ _ _ (Oper.mk (some 40) (.call _) _ _ _ _ :: _) _ _; refine wpList_zerosP rfl (.tmp 34) (.tmp 39) rfl g i n rfl _ rfl (n + 1 - i) (by omega) L G0.out (by rw [HL.out]; omega) HNU.out (by omega) (by omega) (by omega) ?_; intro cap' R w1 HZ hcap; go_loud (have hb7 := zz1 hi hcap; have hb8 := zz2 hi hcap; have HGB := Lib.hid (zz3 HZ.out.2.2.2.2.2 hbs.out GB.out)))
    | (show wpList _ _ _ (Oper.mk (some 45) (.call _) _ _ _ _ :: _) _ _; refine wpList_copyK rfl (.tmp 43) (.tmp 44) 30 rfl 38 6 Tryd.underlying30 (by kernel_rfl) (some ⟨w.heap.size, i * 6, none⟩) (some ⟨vb, 0, none⟩) (n + 1 - i) (cap' - i) 1 c rfl rfl w.heap.size (i * 6) _ _ HZ.out.1 X (by rw [hmin.out, HXl.out]) (fun _ => ⟨rfl, ⟨vb, 0, none⟩, rfl, fun j u hu => row_get HGB.out 0 6 j u (by rw [List.drop_zero, HX.out]; exact hu)⟩) (by rw [HZ.out.2.1, HXl.out]; omega) H2.out ?_; intro v2 w2 HG2 HB2))
  have hG2 := Lib.hid (show w2.heap[g]? = some (.cells L.toArray 38 (0, 0)) from (HB2.out.block g (Nat.lt_of_lt_of_le hgs.out HZ.out.2.2.2.2.2.size) (fun e => by injection e with e; have := hgs.out; omega)).trans ((HZ.out.2.2.2.2.2.block g hgs.out).trans G0.out))
  have hw1 : IntKind.i64.wrap ((i : Int) + 1) = (i : Int) + 1 := by rw [IntKind.wrap_i64]; omega
  have hb1 : (0 : Int) ≤ (i : Int) + 1 := by omega
  have htn : ((i : Int) + 1).toNat = i + 1 := by omega
  have hb3 : (i : Int) ≤ (n : Int) + 1 := by omega
  have hb9 : (i : Int) ≤ (n : Int) := by omega
  have hb11 : (1 : Int) ≤ ((n + 1 - i : Nat) : Int) := by omega
  have hmin2 := Lib.hid (show Nat.min (n - i) (i + (n + 1 - i) - (i + 1)) = n - i from by simp only [Nat.min_def]; split <;> omega)
  go_region_law (refine step_copyK rfl (.tmp 50) (.tmp 53) 30 rfl 38 6 Tryd.underlying30 (by kernel_rfl) (some ⟨w.heap.size, (i + 1) * 6, none⟩) (some ⟨g, i * 6, none⟩) (i + (n + 1 - i) - (i + 1)) (cap' - (i + 1)) (n - i) (n - i) (by simp [Act.eval, Act.put]) (by simp [Act.eval, Act.put]) w.heap.size ((i + 1) * 6) _ _ HG2.out (L.drop (i * 6)) (by rw [HC.out, hmin2.out]) (fun _ => ⟨rfl, ⟨g, i * 6, none⟩, rfl, fun j u hu => row_get hG2.out (i * 6) ((n - i) * 6) j u (by rw [List.take_of_length_le (by rw [HC.out]; exact Nat.le_refl _)]; exact hu)⟩) (by rw [HC.out, length_splice _ _ _ (by rw [HZ.out.2.1, HXl.out]; omega), HZ.out.2.1]; omega) H1.out ?_; intro v3 w3 HG3 HB3)
  clear hw1 hb1 htn hb3 hb9 hb11
  go_wp2
  go_ret
  obtain ⟨z1, z2, z3, z4, z5, z6⟩ := HZ.out
  exact ⟨cap', R, (by show Ending.returned (.slice (some ⟨w.heap.size, 0, none⟩) (i + (n + 1 - i)) cap') = _; rw [he.out]), he.out ▸ z3, z4, z2, z5, HG3.out, But.below z6 ((HB2.out.trans (But.of _ (show Below w2.heap.size w2 w2.drew from ⟨rfl, rfl, rfl, Nat.le_refl _, fun _ _ => rfl⟩))).trans HB3.out) (Nat.le_refl _) z6.size⟩
end Go.Proofs.YtlpgmmcdcjkkiaaDoor
