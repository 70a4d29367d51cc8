/- slices.Replace at pairs: one pair by another, or by none, in a row of the call's own. -/
import Derived.Test.YtlpgmmcdcjkkiaaDoorModelIns
namespace Go.Proofs.YtlpgmmcdcjkkiaaDoor
set_option maxRecDepth 20000
open Go.RowKit Go.Sort

theorem Tryd.zpair : ∀ w, (zeroValue 38).run Tryd.prog w = .ok (.agg zP) w := by
  obtain ⟨i, hi, hz0, hz1, hz2⟩ := info_parts Tryd.ipair
  intro w
  simp [zeroValue, typeInfo, hi, hz0]
theorem but_drew (g : Nat) (w : World) : But g w w.drew := But.of g (show Below w.heap.size w w.drew from ⟨rfl, rfl, rfl, Nat.le_refl _, fun _ _ => rfl⟩)
theorem wpList_clear0 {P : Program} {ops : Array Oper} {rest : List Oper} {o : Oper} {a : Act} {Q : Exit → Act → World → Prop} {w : World} (hw : Region.wanted o (yielded ops a.tmps) = true) (d : Operand) (T : TypeId) (ho : o.op = .call { callee := .builtin .clear, args := #[d], argTypes := #[T] }) (e : TypeId) (hu : P.underlying T = some (.slice e))
    (dp : Option Addr) (n c : Nat) (hd : a.eval d = .slice dp n c) (h0 : n = 0) (h : wpList P ops Q rest (a.put o.dst (.tuple #[])) w) : wpList P ops Q (o :: rest) a w := by
  subst h0
  refine wpList_runx hw _ w ?_ h
  unfold execOp
  have hr : (Builtin.clear_ #[T] o.type #[.slice dp 0 c]).run P w = .ok (.tuple #[]) w := by cases dp <;> simp [Builtin.clear_, run_underlying hu]
  simp only [ho, resolve, invoke, builtin, Sem.run_bind, Sem.run_pure, Result.andThen_ok, List.map_toArray, List.map_cons, List.map_nil, hd, hr]
theorem mem_mid {L : List Value} {a k n : Nat} {u : Value} (h : a * 6 + k * 6 ≤ n * 6) (hu : u ∈ (L.drop (a * 6)).take (k * 6)) : u ∈ L.take (n * 6) := by
  obtain ⟨j, hj⟩ := List.getElem?_of_mem hu
  rw [List.getElem?_take] at hj
  split at hj
  · rw [List.getElem?_drop] at hj
    exact List.mem_of_getElem? (i := a * 6 + j) (by rw [List.getElem?_take, if_pos (by omega)]; exact hj)
  · cases hj
set_option maxHeartbeats 1000000 in
/-- The last one, by another. -/
theorem rep_end (w : World) (g i cap vb c : Nat) (L Lb X : List Value) (hg : w.heap[g]? = some (.cells L.toArray 38 (0, 0))) (hL : L.length = cap * 6) (hn : i < cap)
    (hb : w.heap[vb]? = some (.cells Lb.toArray 38 (0, 0))) (hX : Lb.take 6 = X) (hXl : X.length = 6) (h2 : ∀ u ∈ X, u.oneCell' = true) :
    Calls Tryd.prog 46 #[.slice (some ⟨g, 0, none⟩) (i + 1) cap, .int .i64 i, .int .i64 (i + 1), .slice (some ⟨vb, 0, none⟩) 1 c] w fun e w' => e = .returned (.slice (some ⟨g, 0, none⟩) (i + 1) cap) ∧ RowAt w g (splice L (i * 6) X) w' := by
  obtain ⟨i0, hi, hz0, hz1, hz2⟩ := info_parts Tryd.ipair
  have HR := Lib.hid (fun ty => run_app_roomK (P := Tryd.prog) w 30 ty 38 i0 Tryd.underlying30 hi g i cap L _ hg ⟨vb, 0, none⟩ 1 c X (by rw [hz1, hXl]) (fun j u hu => row_get hb 0 6 j u (by rw [List.drop_zero, hX]; exact hu)) h2 (by omega) (by rw [hz1, hXl, hL]; omega))
  have HZ := Lib.hid hz1
  clear hi hz0 hz1 hz2 hg hb hX hXl h2 hL
  have hb4 : ¬ (cap = i) := by omega
  go_enter Tryd.func46, Tryd.ntmps46
  go_wp2_with (show wpList _ _ _ (Oper.mk (some 34) (.call _) _ _ _ _ :: _) _ _; obtain ⟨w1, hr, hG, hB⟩ := HR.out _; refine wpList_runx rfl _ w1 (by unfold execOp; simp only [resolve, invoke, builtin, Sem.run_bind, Sem.run_pure, Result.andThen_ok, List.map_toArray, List.map_cons, List.map_nil]; exact congrArg (fun r => Result.andThen r _) hr) ?_; rw [HZ.out] at hG; replace hG := Lib.hid hG; replace hB := Lib.hid hB; clear hr)
  go_ret
  exact ⟨rfl, hG.out, hB.out⟩
set_option maxHeartbeats 1000000 in
/-- The last one, by none. -/
theorem rep_end_none (w : World) (g i cap : Nat) (L : List Value) (hg : w.heap[g]? = some (.cells L.toArray 38 (0, 0))) (hL : L.length = cap * 6) (hn : i < cap) :
    Calls Tryd.prog 46 #[.slice (some ⟨g, 0, none⟩) (i + 1) cap, .int .i64 i, .int .i64 (i + 1), .slice none 0 0] w fun e w' => e = .returned (.slice (some ⟨g, 0, none⟩) i cap) ∧ RowAt w g (splice L (i * 6) (Builtin.zeroCells zP 1).toList) w' := by
  have G0 := Lib.hid hg
  have HL := Lib.hid hL
  clear hg hL
  have hb4 : ¬ (cap = i) := by omega
  have he := Lib.hid (show i + 1 - i = 1 from by omega)
  go_enter Tryd.func46, Tryd.ntmps46
  go_wp2_with (first
    | (show wpList _ _ _ (Oper.mk (some 34) (.call _) _ _ _ _ :: _) _ _; refine wpList_appnoneP rfl (.tmp 32) (.tmp 33) rfl (some ⟨g, 0, none⟩) i cap rfl (Nat.le_of_lt hn) none 0 rfl ?_)
    | (show wpList _ _ _ (Oper.mk none (.call _) _ _ _ _ :: _) _ _; refine wpList_clearK rfl (.tmp 43) 30 rfl 38 (.agg zP) Tryd.underlying30 Tryd.zpair (some ⟨g, i * 6, none⟩) 1 (cap - i) rfl g (i * 6) L _ G0.out (fun _ => rfl) (by rw [HL.out]; show i * 6 + 1 * 6 ≤ _; omega) (fun u hu => (zP_mem 1 u hu).2) ?_; intro w1 HG HB))
  go_ret
  exact ⟨rfl, HG.out, HB.out⟩
set_option maxHeartbeats 1000000 in
/-- One in the middle, by another. -/
theorem rep_mid (w : World) (g n cap i vb c : Nat) (L Lb X : List Value) (hg : w.heap[g]? = some (.cells L.toArray 38 (0, 0))) (hL : L.length = cap * 6) (hn : n ≤ cap) (hi : i + 1 < n) (hmax : cap ≤ 9223372036854775807)
    (h1 : ∀ u ∈ L.take (n * 6), u.oneCell' = true) (hb : w.heap[vb]? = some (.cells Lb.toArray 38 (0, 0))) (hne : vb ≠ g) (hX : Lb.take 6 = X) (hXl : X.length = 6) (h2 : ∀ u ∈ X, u.oneCell' = true) :
    Calls Tryd.prog 46 #[.slice (some ⟨g, 0, none⟩) n cap, .int .i64 i, .int .i64 (i + 1), .slice (some ⟨vb, 0, none⟩) 1 c] w fun e w' => e = .returned (.slice (some ⟨g, 0, none⟩) n cap) ∧ RowAt w g (splice (splice L (i * 6) X) ((i + 1) * 6) (((splice L (i * 6) X).drop ((i + 1) * 6)).take ((n - (i + 1)) * 6))) w' := by
  have G0 := Lib.hid hg
  have GB := Lib.hid hb
  have HX := Lib.hid hX
  have HXl := Lib.hid hXl
  have H2 := Lib.hid h2
  have HL := Lib.hid hL
  have HN := Lib.hid hne
  have H1 := Lib.hid h1
  clear hg hb hX hXl h2 hL h1 hne
  have hi2 : i ≤ n := by omega
  have hb2 : ¬ (cap = i + 1) := by omega
  have hb4 : ¬ (cap = i) := by omega
  have hz2 : ¬ ((i : Int) + 1 = (n : Int)) := by omega
  go_enter Tryd.func46, Tryd.ntmps46
  go_wp2
  have hw1 : IntKind.i64.wrap ((i : Int) + 1) = (i : Int) + 1 := by rw [IntKind.wrap_i64]; omega
  have hw2 : IntKind.i64.wrap ((i : Int) + 1 + ((n - (i + 1) : Nat) : Int)) = (n : Int) := by rw [IntKind.wrap_i64]; omega
  have hb1 : (0 : Int) ≤ (i : Int) + 1 := by omega
  have htn : ((i : Int) + 1).toNat = i + 1 := by omega
  have hb3 : (i : Int) ≤ (n : Int) := by omega
  have hb5 : (i : Int) + 1 ≤ (n : Int) := by omega
  go_region
  clear hw2
  have hmin := Lib.hid (show Nat.min 1 (n - i) = 1 from by simp only [Nat.min_def]; split <;> omega)
  go_wp2_with (show wpList _ _ _ (Oper.mk (some 97) (.call _) _ _ _ _ :: _) _ _; refine wpList_copyK rfl (.tmp 95) (.tmp 96) 30 rfl 38 6 Tryd.underlying30 (by kernel_rfl) (some ⟨g, i * 6, none⟩) (some ⟨vb, 0, none⟩) (n - i) (cap - i) 1 c rfl rfl g (i * 6) _ _ G0.out X (by rw [hmin.out, HXl.out]) (fun _ => ⟨rfl, ⟨vb, 0, none⟩, rfl, fun j u hu => row_get GB.out 0 6 j u (by rw [List.drop_zero, HX.out]; exact hu)⟩) (by rw [HL.out, HXl.out]; omega) H2.out ?_; intro v1 w1 HG HB)
  have hl1 := Lib.hid (show (splice L (i * 6) X).length = cap * 6 from by rw [length_splice _ _ _ (by rw [HL.out, HXl.out]; omega), HL.out])
  have hcs := Lib.hid (show (((splice L (i * 6) X).drop ((i + 1) * 6)).take ((n - (i + 1)) * 6)).length = (n - (i + 1)) * 6 from by simp only [List.length_take, List.length_drop, hl1.out]; omega)
  have hone := Lib.hid (show ∀ u ∈ ((splice L (i * 6) X).drop ((i + 1) * 6)).take ((n - (i + 1)) * 6), u.oneCell' = true from fun u hu => by
    rw [drop_splice _ _ _ _ (by rw [HXl.out]; omega) (by rw [HL.out, HXl.out]; omega)] at hu
    exact H1.out u (mem_mid (by omega) hu))
  have hmin2 := Lib.hid (show Nat.min (n - (i + 1)) (n - (i + 1)) = n - (i + 1) from Nat.min_self _)
  go_region_law (refine step_copyK rfl (.tmp 103) (.tmp 106) 30 rfl 38 6 Tryd.underlying30 (by kernel_rfl) (some ⟨g, (i + 1) * 6, none⟩) (some ⟨g, (i + 1) * 6, none⟩) (n - (i + 1)) (cap - (i + 1)) (n - (i + 1)) (cap - (i + 1)) (by simp [Act.eval, Act.put]) (by simp [Act.eval, Act.put]) g ((i + 1) * 6) _ _ HG.out _ (by rw [hcs.out, hmin2.out]) (fun _ => ⟨rfl, ⟨g, (i + 1) * 6, none⟩, rfl, fun j u hu => row_get HG.out ((i + 1) * 6) _ j u hu⟩) (by rw [hcs.out, hl1.out]; omega) hone.out ?_; intro v2 w2 HG2 HB2)
  clear hw1 hb1 htn hb3 hb5
  go_wp2_with (show wpList _ _ _ (Oper.mk none (.call _) _ _ _ _ :: _) _ _; refine wpList_clear0 rfl (.tmp 110) 30 rfl 38 Tryd.underlying30 _ _ _ rfl (by omega) ?_)
  all_goals
    go_ret
    exact ⟨rfl, HG2.out, (((but_drew g w).trans HB.out).trans (but_drew g w1)).trans HB2.out⟩
set_option maxHeartbeats 1000000 in
/-- One in the middle, by none. -/
theorem rep_mid_none (w : World) (g m cap i : Nat) (L : List Value) (hg : w.heap[g]? = some (.cells L.toArray 38 (0, 0))) (hL : L.length = cap * 6) (hn : m + 1 ≤ cap) (hi : i < m) (hmax : cap ≤ 9223372036854775807)
    (h1 : ∀ u ∈ L.take ((m + 1) * 6), u.oneCell' = true) :
    Calls Tryd.prog 46 #[.slice (some ⟨g, 0, none⟩) (m + 1) cap, .int .i64 i, .int .i64 (i + 1), .slice none 0 0] w fun e w' => e = .returned (.slice (some ⟨g, 0, none⟩) m cap) ∧ RowAt w g (splice (splice L (i * 6) ((L.drop ((i + 1) * 6)).take ((m - i) * 6))) (m * 6) (Builtin.zeroCells zP 1).toList) w' := by
  have G0 := Lib.hid hg
  have HL := Lib.hid hL
  have hcs := Lib.hid (show ((L.drop ((i + 1) * 6)).take ((m - i) * 6)).length = (m - i) * 6 from by simp only [List.length_take, List.length_drop, hL]; omega)
  have hone := Lib.hid (show ∀ u ∈ (L.drop ((i + 1) * 6)).take ((m - i) * 6), u.oneCell' = true from fun u hu => h1 u (mem_mid (by omega) hu))
  clear hg hL h1
  have hi2 : i ≤ m + 1 := by omega
  have hb2 : ¬ (cap = i + 1) := by omega
  have hb4 : ¬ (cap = i) := by omega
  have hb6 : ¬ (cap = m) := by omega
  have hz2 : ¬ ((i : Int) + 1 = (m : Int) + 1) := by omega
  go_enter Tryd.func46, Tryd.ntmps46
  go_wp2
  have hw1 : IntKind.i64.wrap ((i : Int) + 0) = (i : Int) := by rw [IntKind.wrap_i64]; omega
  have hw2 : IntKind.i64.wrap ((i : Int) + ((m + 1 - (i + 1) : Nat) : Int)) = (m : Int) := by rw [IntKind.wrap_i64]; omega
  have hw3 : IntKind.i64.wrap ((i : Int) + ((m - i : Nat) : Int)) = (m : Int) := by rw [IntKind.wrap_i64]; omega
  have hw4 : IntKind.i64.wrap (i : Int) = (i : Int) := by rw [IntKind.wrap_i64]; omega
  have hb1 : (0 : Int) ≤ (i : Int) + 1 := by omega
  have htn : ((i : Int) + 1).toNat = i + 1 := by omega
  have hb3 : (i : Int) ≤ (m : Int) + 1 := by omega
  have hb5 : (i : Int) ≤ (m : Int) := by omega
  go_region
  clear hw2 hw3
  have hfit := Lib.hid (show i * 6 + ((L.drop ((i + 1) * 6)).take ((m - i) * 6)).length ≤ L.length from by rw [hcs.out, HL.out]; omega)
  have hl1 := Lib.hid (show (splice L (i * 6) ((L.drop ((i + 1) * 6)).take ((m - i) * 6))).length = cap * 6 from by rw [length_splice _ _ _ hfit.out, HL.out])
  go_wp2_with (show wpList _ _ _ (Oper.mk (some 97) (.call _) _ _ _ _ :: _) _ _; refine wpList_copyK rfl (.tmp 95) (.tmp 96) 30 rfl 38 6 Tryd.underlying30 (by kernel_rfl) (some ⟨g, i * 6, none⟩) none (m - i) (cap - i) 0 0 rfl rfl g (i * 6) _ _ G0.out [] (by rw [show Nat.min 0 (m - i) = 0 from Nat.zero_min _]; rfl) (fun h => by simp at h) (by rw [HL.out]; simp; omega) (fun u hu => by cases hu) ?_; intro v1 w1 HG HB; rw [splice_nil] at HG)
  have hmin := Lib.hid (show Nat.min (m - i) (m - i) = m - i from Nat.min_self _)
  go_region_law (refine step_copyK rfl (.tmp 103) (.tmp 106) 30 rfl 38 6 Tryd.underlying30 (by kernel_rfl) (some ⟨g, i * 6, none⟩) (some ⟨g, (i + 1) * 6, none⟩) (m - i) (cap - i) (m - i) (cap - (i + 1)) (by simp [Act.eval, Act.put]) (by simp [Act.eval, Act.put]) g (i * 6) _ _ HG.out _ (by rw [hcs.out, hmin.out]) (fun _ => ⟨rfl, ⟨g, (i + 1) * 6, none⟩, rfl, fun j u hu => row_get HG.out ((i + 1) * 6) _ j u hu⟩) hfit.out hone.out ?_; intro v2 w2 HG2 HB2)
  clear hw1 hw4 hb1 htn hb3 hb5
  have he := Lib.hid (show m + 1 - m = 1 from by omega)
  go_wp2_with (show wpList _ _ _ (Oper.mk none (.call _) _ _ _ _ :: _) _ _; refine wpList_clearK rfl (.tmp 110) 30 rfl 38 (.agg zP) Tryd.underlying30 Tryd.zpair (some ⟨g, m * 6, none⟩) 1 (cap - m) rfl g (m * 6) _ _ HG2.out (fun _ => rfl) (by rw [hl1.out]; show m * 6 + 1 * 6 ≤ _; omega) (fun u hu => (zP_mem 1 u hu).2) ?_; intro w3 HG3 HB3)
  go_ret
  exact ⟨rfl, HG3.out, ((((but_drew g w).trans HB.out).trans (but_drew g w1)).trans HB2.out).trans HB3.out⟩
end Go.Proofs.YtlpgmmcdcjkkiaaDoor
