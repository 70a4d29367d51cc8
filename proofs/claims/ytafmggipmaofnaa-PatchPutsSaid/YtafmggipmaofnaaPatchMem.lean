/- Slices of runs in memory: what one reads as; one that is of the call's own, run by run; a literal of one element, a struct put together, in a region that draws its order; one operation in a fence, by its equation. -/
import Derived.Test.YtafmggipmaofnaaPatchMath
import Derived.Test.YtafmggipmaofnaaRound
import Derived.Test.YtafmggipmaofnaaPageArr
import Derived.Great.BuildSlice
namespace Go.Proofs.Ytafmggipmaofnaa
set_option maxRecDepth 20000
open Go.RowKit Go.Sort

/-- The slice value v reads as these runs. -/
def RS (w : World) (v : Value) (l : List Rn) : Prop :=
  ∃ A c, v = .slice A l.length c ∧ l.length ≤ c ∧ c ≤ maxLen ∧ (A = none → c = 0) ∧
    (l ≠ [] → ∃ b off, A = some ⟨b, off, none⟩ ∧ ∀ k r, l[k]? = some r → ∃ D, w.cell? ⟨b, off + k * 2, none⟩ = some (.int .i64 r.p) ∧ w.cell? ⟨b, off + k * 2 + 1, none⟩ = some D ∧ SV w D (bys r.d))
theorem RS.keep {w w' : World} {v : Value} {l : List Rn} (h : RS w v l) (k : Keeps w w') : RS w' v l := by
  obtain ⟨A, c, h1, h2, h3, h4, h5⟩ := h
  refine ⟨A, c, h1, h2, h3, h4, fun hne => ?_⟩
  obtain ⟨b, off, hA, hc⟩ := h5 hne
  refine ⟨b, off, hA, fun j r hr => ?_⟩
  obtain ⟨D, g1, g2, g3⟩ := hc j r hr
  exact ⟨D, k _ _ g1, k _ _ g2, g3.keep k⟩
theorem RS.on {w w' : World} {v : Value} {l : List Rn} (h : RS w v l) (k : Below w.heap.size w w') : RS w' v l := h.keep (Keeps.below k)
theorem RS.nil (w : World) : RS w (.slice none 0 0) [] := ⟨none, 0, rfl, Nat.le_refl _, by simp [maxLen], fun _ => rfl, fun h => (h rfl).elim⟩
theorem RS.bd {w : World} {A : Option Addr} {n c : Nat} {l : List Rn} (h : RS w (.slice A n c) l) : n = l.length ∧ n ≤ c ∧ c ≤ 9223372036854775807 := by
  obtain ⟨A', c', e, h1, h2, h3, h4⟩ := h
  injection e with e1 e2 e3
  subst e1 e2 e3
  exact ⟨rfl, h1, h2⟩
/-- One of them: where it lies, and what it is. -/
theorem RS.at {w : World} {A : Option Addr} {n c : Nat} {l : List Rn} (h : RS w (.slice A n c) l) {k : Nat} (hk : k < n) : ∃ b off r D, A = some ⟨b, off, none⟩ ∧ l[k]? = some r ∧ w.cell? ⟨b, off + k * 2, none⟩ = some (.int .i64 r.p) ∧ w.cell? ⟨b, off + k * 2 + 1, none⟩ = some D ∧ SV w D (bys r.d) := by
  obtain ⟨A', c', e, h1, h2, h3, h4⟩ := h
  injection e with e1 e2 e3
  subst e1 e2 e3
  obtain ⟨b, off, hA, hc⟩ := h4 (by rintro rfl; simp at hk)
  obtain ⟨D, g⟩ := hc k _ (List.getElem?_eq_getElem hk)
  exact ⟨b, off, l[k], D, hA, List.getElem?_eq_getElem hk, g⟩
theorem range2 {w : World} {b o : Nat} {u v : Value} (h1 : w.cell? ⟨b, o, none⟩ = some u) (h2 : w.cell? ⟨b, o + 1, none⟩ = some v) : w.rangeAt b o [u, v] := by
  intro j x hx
  match j with
  | 0 => simp at hx; subst hx; exact h1
  | 1 => simp at hx; subst hx; exact h2
  | j + 2 => simp at hx

/-! Runs of the call's own -/
def flat (es : List (Rn × Value)) : List Value := es.flatMap fun x => [.int .i64 x.1.p, x.2]
theorem flat_app (a b : List (Rn × Value)) : flat (a ++ b) = flat a ++ flat b := by simp [flat]
theorem flat_one (x : Rn × Value) : flat [x] = [.int .i64 x.1.p, x.2] := by simp [flat]
theorem flat_len : ∀ es : List (Rn × Value), (flat es).length = es.length * 2
  | [] => rfl
  | x :: es => by have := flat_len es; simp [flat] at this ⊢; omega
theorem flat_get : ∀ (es : List (Rn × Value)) (k : Nat) (x : Rn × Value), es[k]? = some x → (flat es)[k * 2]? = some (.int .i64 x.1.p) ∧ (flat es)[k * 2 + 1]? = some x.2
  | [], k, x, h => by simp at h
  | y :: es, 0, x, h => by simp at h; subst h; simp [flat]
  | y :: es, k + 1, x, h => by
    have := flat_get es k x (by simpa using h)
    rw [show (k + 1) * 2 = k * 2 + 2 by omega, show flat (y :: es) = .int .i64 y.1.p :: y.2 :: flat es by simp [flat]]
    simpa using this
structure ROwn (W : World) (M : Nat) (v : Value) (es : List (Rn × Value)) : Prop where
  row : W.ownsRow M 56 2 v es.length (flat es)
  each : ∀ x ∈ es, W.ownsRow M 5 1 x.2 x.1.d.length (bys x.1.d)
theorem ROwn.rs {W : World} {M : Nat} {v : Value} {es : List (Rn × Value)} (h : ROwn W M v es) : RS W v (es.map (·.1)) := by
  obtain ⟨hrow, heach⟩ := h
  have hrow' := hrow
  rcases hrow.2 with ⟨rfl, h0⟩ | ⟨g, cap, cur, rfl, hb, hg, hn, hm, hs, ht⟩
  · have : es = [] := List.eq_nil_of_length_eq_zero h0
    subst this
    exact RS.nil W
  · refine ⟨some ⟨g, 0, none⟩, cap, by rw [List.length_map], by rw [List.length_map]; exact hn, hm, (fun h => by cases h), fun _ => ⟨g, 0, rfl, fun k r hr => ?_⟩⟩
    rw [List.getElem?_map] at hr
    obtain ⟨x, hx, rfl⟩ := Option.map_eq_some_iff.1 hr
    obtain ⟨f1, f2⟩ := flat_get es k x hx
    have c1 := hrow'.cells (g := g) rfl _ _ f1
    have c2 := hrow'.cells (g := g) rfl _ _ f2
    rw [Addr.add_lit] at c1 c2
    refine ⟨x.2, by simpa using c1, by simpa using c2, ?_⟩
    exact SV.own (heach x (List.mem_of_getElem? hx))
theorem ROwn.nil (W : World) (M : Nat) : ROwn W M (.slice none 0 0) [] := ⟨World.ownsRow_nil _ _ _ _, fun x h => by cases h⟩
theorem ROwn.kept {W W' : World} {M : Nat} {v : Value} {es : List (Rn × Value)} {row : Option Nat} (h : ROwn W M v es) (hg : W.grownBy W' row) (h1 : v.ownBlock = none ∨ v.ownBlock ≠ row) (h2 : ∀ x ∈ es, x.2.ownBlock = none ∨ x.2.ownBlock ≠ row) : ROwn W' M v es :=
  ⟨h.row.kept hg h1, fun x hx => (h.each x hx).kept hg (h2 x hx)⟩
theorem grown_of {w w' : World} (hb : Below w.heap.size w w') : w.grownBy w' none := ⟨hb.os, hb.tape, hb.output, hb.size, fun k hk _ => hb.block k hk⟩
theorem ROwn.on {W W' : World} {M : Nat} {v : Value} {es : List (Rn × Value)} (h : ROwn W M v es) (hb : Below W.heap.size W W') : ROwn W' M v es :=
  h.kept (row := none) (grown_of hb) (by cases v.ownBlock <;> simp) (fun x _ => by cases x.2.ownBlock <;> simp)
/-- A row of a type lies in no block of another. -/
theorem own_types {W : World} {M M' : Nat} {t t' : TypeId} {s s' : Nat} {v v' : Value} {n n' : Nat} {xs xs' : List Value} (h : W.ownsRow M t s v n xs) (h' : W.ownsRow M' t' s' v' n' xs') (hne : t ≠ t') : v.ownBlock = none ∨ v.ownBlock ≠ v'.ownBlock := by
  rcases h.2 with ⟨rfl, _⟩ | ⟨g, _, cur, rfl, _, hg, _⟩
  · exact .inl rfl
  · rcases h'.2 with ⟨rfl, _⟩ | ⟨g', _, cur', rfl, _, hg', _⟩
    · exact .inr (by simp [Value.ownBlock])
    · refine .inr fun e => hne ?_
      simp only [Value.ownBlock, Option.some.injEq] at e
      subst e
      rw [hg] at hg'
      injection hg' with hg'
      injection hg'

section
variable {P : Program}
/-- One struct of two cells appended onto a row of the call's own. -/
theorem run_app2 (w : World) (base : Nat) (t ty e : TypeId) (i : TypeInfo) (z : Value) (bytes : Nat) (ht : P.underlying t = some (.slice e)) (hi : P.info? e = some i) (hz : i.zero = some z)
    (hsize : i.size = 2) (hby : i.bytes = bytes) (hzs : z.cells.size = 2) (v : Value) (n : Nat) (xs : List Value) (hown : w.ownsRow base e 2 v n xs) (g c : Nat) (x y : Value)
    (hc : w.rangeAt g 0 [x, y]) (h1 : x.oneCell' = true) (h2 : y.oneCell' = true) (hn : n ≤ 1000) (hb : bytes ≤ 1000) (hbase : base ≤ w.heap.size) :
    ∃ v' w', (Builtin.append_ #[t, t] ty #[v, .slice (some ⟨g, 0, none⟩) 1 c]).run P w = .ok v' w' ∧ w'.ownsRow base e 2 v' (n + 1) (xs ++ [x, y]) ∧ w.grownBy w' v.ownBlock ∧ (v'.ownBlock = v.ownBlock ∨ v'.ownBlock = some w.heap.size) := by
  obtain ⟨v', w', hr, g1, g2, _, g4⟩ := run_append_own_at (P := P) w base t ty e i z 2 bytes ht hi hz hsize hby hzs (by decide) v n xs hown ⟨g, 0, none⟩ 1 c [x, y] rfl
    (fun j u hu => by rw [Addr.add_lit]; exact hc j u hu) (fun u hu => by simp at hu; rcases hu with rfl | rfl <;> assumption) (by unfold maxLen; omega) (by
      have : (n + 1) * bytes ≤ 1001 * 1000 := Nat.mul_le_mul (by omega) hb
      omega) hbase
  exact ⟨v', w', hr, g1, g2, g4⟩

/-- Bytes appended onto a row of the call's own that is not empty: the row is there as before, too. -/
theorem run_app_both (w : World) (base : Nat) (t ty e : TypeId) (i : TypeInfo) (z : Value) (bytes : Nat) (ht : P.underlying t = some (.slice e)) (hi : P.info? e = some i) (hz : i.zero = some z)
    (hsize : i.size = 1) (hby : i.bytes = bytes) (hzs : z.cells.size = 1) (g cap n : Nat) (xs : List Value) (hown : w.ownsRow base e 1 (.slice (some ⟨g, 0, none⟩) n cap) n xs)
    (ad : Addr) (m c : Nat) (news : List Value) (hl : news.length = m) (hnews : ∀ j u, news[j]? = some u → w.cell? (ad.add j) = some u) (h1 : ∀ u ∈ news, u.oneCell' = true)
    (h63 : n + m ≤ maxLen) (hbytes : (n + m) * bytes ≤ 140737488355328) (hbase : base ≤ w.heap.size) :
    ∃ v' w', (Builtin.append_ #[t, t] ty #[.slice (some ⟨g, 0, none⟩) n cap, .slice (some ad) m c]).run P w = .ok v' w' ∧ w'.ownsRow base e 1 v' (n + m) (xs ++ news) ∧ w'.ownsRow base e 1 (.slice (some ⟨g, 0, none⟩) n cap) n xs ∧ w.grownBy w' (some g) ∧
      (v'.ownBlock = some g ∨ ∃ k, v'.ownBlock = some k ∧ w.heap.size ≤ k) := by
  have hown' := hown
  rcases hown.2 with ⟨h, _⟩ | ⟨g', cap', cur, he, hbg, hg, hnc, hcm, hcs, htake⟩
  · cases h
  · simp only [Value.slice.injEq, Option.some.injEq, Addr.mk.injEq, and_true, true_and] at he
    obtain ⟨rfl, rfl⟩ := he
    have hxl : xs.length = n := by simpa using hown.1
    have hlen : (xs ++ news).length = n + m := by rw [List.length_append, hxl, hl]
    by_cases hroom : n + m ≤ cap
    · have hfit : n * i.size + news.length ≤ cur.size := by rw [hsize, hl, hcs]; omega
      have hr := run_append_room (P := P) w t ty e i ht hi g n cap cur hg ad m c news (by rw [hsize, hl]; omega) hnews h1 hroom hfit
      have hset := setRow_heap w g cur (cur.toList.take (n * i.size) ++ news ++ cur.toList.drop (n * i.size + news.length)).toArray e (0, 0) hg
      have hsz : (cur.toList.take (n * i.size) ++ news ++ cur.toList.drop (n * i.size + news.length)).toArray.size = cap * 1 := by
        simp only [List.size_toArray, List.length_append, List.length_take, List.length_drop, Array.length_toList]
        rw [hsize] at hfit ⊢
        omega
      have htk : cur.toList.take (n * i.size) = xs := by rw [hsize]; exact htake
      refine ⟨_, _, hr, ⟨by rw [hlen]; omega, .inr ⟨g, cap, _, rfl, hbg, hset, hroom, hcm, hsz, ?_⟩⟩, ⟨hown.1, .inr ⟨g, cap, _, rfl, hbg, hset, hnc, hcm, hsz, ?_⟩⟩, ⟨rfl, rfl, rfl, by simp, fun k _ hk => setRow_other w g k _ (fun e => hk (by simp [e]))⟩, .inl rfl⟩
      · rw [htk, Nat.mul_one, ← hlen]
        exact List.take_left
      · rw [htk, Nat.mul_one, ← hxl, List.append_assoc]
        exact List.take_left
    · have holds : ∀ j u, xs[j]? = some u → w.cell? ((⟨g, 0, none⟩ : Addr).add j) = some u := hown'.cells (g := g) rfl
      obtain ⟨v', w', hr, h2, h3⟩ := run_append_arg_grows (P := P) w t ty e i z 1 bytes ht hi hz hsize hby hzs (by decide) ⟨g, 0, none⟩ n cap xs (by rw [hxl]; omega) holds ad m c news (by omega) hnews (by omega) h63 hbytes
      refine ⟨v', w', hr, own_lower h2 hbase, hown'.kept h3 (by simp [Value.ownBlock]), ⟨h3.os, h3.tape, h3.output, h3.size, fun k hk _ => h3.block k hk (by simp)⟩, ?_⟩
      rcases h2.2 with ⟨hv, h0⟩ | ⟨k, _, _, rfl, hk, _⟩
      · by_cases hn : n + m = 0
        · omega
        · exact absurd h0 hn
      · exact .inr ⟨k, rfl, hk⟩

/-- The address of a place of an array. -/
theorem run_ix_arr {t e : TypeId} {n g k s : Nat} {kd : IntKind} {j : Int} (ht : P.underlying t = some (.array n e)) (hs : (P.info? e).map (·.size) = some s) (hj : j = k) (hk : k < n) (w : World) :
    (Instr.indexAt t (.pointer (some ⟨g, 0, none⟩)) (.int kd j)).run P w = .ok (.pointer (some ⟨g, k * s, none⟩)) w := by
  subst hj
  cases hq : P.info? e with
  | none => simp [hq] at hs
  | some inf =>
    have hs' : inf.size = s := by simpa [hq] using hs
    have h1 : (0 : Int) ≤ k ∧ (k : Int) < n := by omega
    have h2 : (sizeOf e).run P w = .ok s w := by simp [sizeOf, typeInfo, hq, hs']
    simp [Instr.indexAt, asIntOf, run_underlying ht, Instr.sureAddr, h1, h2, Addr.add_lit]
    omega
/-- The address of a place of a slice. -/
theorem run_ix_sl {t e : TypeId} {b off n c k s : Nat} {kd : IntKind} {j : Int} (ht : P.underlying t = some (.slice e)) (hs : (P.info? e).map (·.size) = some s) (hj : j = k) (hk : k < n) (w : World) :
    (Instr.indexAt t (.slice (some ⟨b, off, none⟩) n c) (.int kd j)).run P w = .ok (.pointer (some ⟨b, off + k * s, none⟩)) w := by
  subst hj
  cases hq : P.info? e with
  | none => simp [hq] at hs
  | some inf =>
    have hs' : inf.size = s := by simpa [hq] using hs
    have h1 : (0 : Int) ≤ k ∧ (k : Int) < n := by omega
    have h2 : (sizeOf e).run P w = .ok s w := by simp [sizeOf, typeInfo, hq, hs']
    simp only [Instr.indexAt, asIntOf, Sem.run_bind, Sem.run_pure, Result.andThen_ok, run_underlying ht, h1, and_self, if_true, h2, Int.toNat_natCast, Addr.add_lit]
/-- x[i:j] of an array. -/
theorem run_mid_arr {t e : TypeId} {n a b g : Nat} {k1 k2 : IntKind} {i j : Int} (ht : P.underlying t = some (.array n e)) (hs : (P.info? e).map (·.size) = some 1) (hi : i = a) (hj : j = b) (hab : a ≤ b) (hb : b ≤ n) (ha : a < n) (w : World) :
    (Instr.sliceAt t (.pointer (some ⟨g, 0, none⟩)) (some (.int k1 i)) (some (.int k2 j)) none).run P w = .ok (.slice (some ⟨g, a, none⟩) (b - a) (n - a)) w := by
  subst hi hj
  cases hq : P.info? e with
  | none => simp [hq] at hs
  | some inf =>
    have hs' : inf.size = 1 := by simpa [hq] using hs
    have h0 : (0 : Int) ≤ b ∧ (b : Int) ≤ n := by omega
    have h1 : (0 : Int) ≤ a ∧ (a : Int) ≤ b := by omega
    have h2 : (sizeOf e).run P w = .ok 1 w := by simp [sizeOf, typeInfo, hq, hs']
    have h3 : n ≠ a := by omega
    simp [Instr.sliceAt, Instr.sureAddr, run_underlying ht, Instr.sliceBounds, Instr.sliceBound, asIntOf, h0, h1, h2, h3, hab, hb, Addr.add_lit]

/-! One operation in a fence -/
variable {F : Fence} {m : Nat} {ops : Array Oper} {Q : Exit → Act → World → Prop} {a : Act} {w w' : World} {rest : List Oper} {o : Oper} {v : Value}
theorem wpListIn_run (hF : WideF F) (hw : Region.wanted o (yielded ops a.tmps) = true) (hno : ∀ c, o.op ≠ .defer c) (hrun : (execOp a.eval o).run P w = .ok (.value v) w') (h : wpListIn F m P ops Q rest (a.put o.dst v) w') : wpListIn F m P ops Q (o :: rest) a w :=
  wpListIn_step fun K hK => by
    rw [if_pos hw]
    exact wpIn_of_to hF hno (R := fun u w'' => u = v ∧ w'' = w') (to_run hrun ⟨rfl, rfl⟩) fun _ _ ⟨h1, h2⟩ => by subst h1 h2; exact hK _ _ h
/-- A struct in the middle of a block is read. -/
theorem wpListIn_mid (hF : WideF F) (hw : Region.wanted o (yielded ops a.tmps) = true) (ty : TypeId) (x : Operand) (ho : o.op = .load ty x) (b off : Nat) (hx : a.eval x = .pointer (some ⟨b, off, none⟩)) (cs : List Value) (d : TypeDesc) (hc : w.rangeAt b off cs)
    (hu : P.underlying ty = some d) (hd : d.isRow = true) (hi : (P.info? ty).map (·.size) = some cs.length) (h : wpListIn F m P ops Q rest (a.put o.dst (.agg cs.toArray)) w) : wpListIn F m P ops Q (o :: rest) a w :=
  wpListIn_run hF hw (by rw [ho]; intro c hc; cases hc) (by
    unfold execOp
    simp only [ho, hx, Instr.loadAt, Instr.sureAddr, Sem.run_bind, Sem.run_pure, Result.andThen_ok, run_loadVar_mid w b off ty cs d hc hu hd hi]) h
/-- An array of bytes is read as a whole. -/
theorem wpListIn_load_ab (hF : WideF F) (hw : Region.wanted o (yielded ops a.tmps) = true) (ty : TypeId) (x : Operand) (ho : o.op = .load ty x) (g : Nat) (hx : a.eval x = .pointer (some ⟨g, 0, none⟩)) (t e : TypeId) (n : Nat) (l : List UInt8) (hl : l.length = n) (hg : Whole w g t (ab l))
    (hu : P.underlying ty = some (.array n e)) (hi : (P.info? ty).map (·.size) = some n) (h : wpListIn F m P ops Q rest (a.put o.dst (.agg (ab l))) w) : wpListIn F m P ops Q (o :: rest) a w :=
  wpListIn_run hF hw (by rw [ho]; intro c hc; cases hc) (by
    unfold execOp
    simp only [ho, hx, Instr.loadAt, Instr.sureAddr, Sem.run_bind, Sem.run_pure, Result.andThen_ok, run_loadVar_row w g t ty (ab l) (0, 0) _ hg hu rfl (by rw [ab_size, hl]; exact hi)]) h
/-- The address of a place of a slice. -/
theorem wpListIn_ix (hF : WideF F) (hw : Region.wanted o (yielded ops a.tmps) = true) (ty : TypeId) (x y : Operand) (ho : o.op = .indexAddr ty x y) (b off n c : Nat) (hx : a.eval x = .slice (some ⟨b, off, none⟩) n c) (e : TypeId) (s k : Nat) (kd : IntKind) (j : Int) (hy : a.eval y = .int kd j)
    (hu : P.underlying ty = some (.slice e)) (hs : (P.info? e).map (·.size) = some s) (hj : j = k) (hk : k < n) (h : wpListIn F m P ops Q rest (a.put o.dst (.pointer (some ⟨b, off + k * s, none⟩))) w) : wpListIn F m P ops Q (o :: rest) a w :=
  wpListIn_run hF hw (by rw [ho]; intro c hc; cases hc) (by
    unfold execOp
    simp only [ho, hx, hy, run_ix_sl hu hs hj hk w, Sem.run_bind, Sem.run_pure, Result.andThen_ok]) h
/-- One struct appended. -/
theorem wpListIn_app2 (hF : WideF F) (hw : Region.wanted o (yielded ops a.tmps) = true) (s x : Operand) (t : TypeId) (ho : o.op = .call { callee := .builtin .append, args := #[s, x], argTypes := #[t, t] })
    (base : Nat) (e : TypeId) (i : TypeInfo) (z : Value) (bytes : Nat) (ht : P.underlying t = some (.slice e)) (hi : P.info? e = some i) (hz : i.zero = some z)
    (hsize : i.size = 2) (hby : i.bytes = bytes) (hzs : z.cells.size = 2) (v : Value) (n : Nat) (xs : List Value) (hs : a.eval s = v) (hown : w.ownsRow base e 2 v n xs) (g c : Nat) (hx : a.eval x = .slice (some ⟨g, 0, none⟩) 1 c) (y z' : Value)
    (hc : w.rangeAt g 0 [y, z']) (h1 : y.oneCell' = true) (h2 : z'.oneCell' = true) (hn : n ≤ 1000) (hb : bytes ≤ 1000) (hbase : base ≤ w.heap.size)
    (h : ∀ v' w', Hid (w'.ownsRow base e 2 v' (n + 1) (xs ++ [y, z'])) → Hid (w.grownBy w' v.ownBlock) → Hid (v'.ownBlock = v.ownBlock ∨ v'.ownBlock = some w.heap.size) → wpListIn F m P ops Q rest (a.put o.dst v') w') : wpListIn F m P ops Q (o :: rest) a w := by
  obtain ⟨v', w', hr, g1, g2, g3⟩ := run_app2 (P := P) w base t o.type e i z bytes ht hi hz hsize hby hzs v n xs hown g c y z' hc h1 h2 hn hb hbase
  refine wpListIn_run hF hw (by rw [ho]; intro c hc; cases hc) (v := v') (w' := w') ?_ (h v' w' (Lib.hid g1) (Lib.hid g2) (Lib.hid g3))
  unfold execOp
  simp only [ho, resolve, invoke, builtin, Sem.run_bind, Sem.run_pure, Result.andThen_ok, List.map_toArray, List.map_cons, List.map_nil, hs, hx, hr]
end

/-- One struct appended, where there is no fence. -/
theorem wpList_app2 {P : Program} {ops : Array Oper} {Q : Exit → Act → World → Prop} {a : Act} {w : World} {rest : List Oper} {o : Oper} (hw : Region.wanted o (yielded ops a.tmps) = true) (s x : Operand) (t : TypeId) (ho : o.op = .call { callee := .builtin .append, args := #[s, x], argTypes := #[t, t] })
    (base : Nat) (e : TypeId) (i : TypeInfo) (z : Value) (bytes : Nat) (ht : P.underlying t = some (.slice e)) (hi : P.info? e = some i) (hz : i.zero = some z)
    (hsize : i.size = 2) (hby : i.bytes = bytes) (hzs : z.cells.size = 2) (v : Value) (n : Nat) (xs : List Value) (hs : a.eval s = v) (hown : w.ownsRow base e 2 v n xs) (g c : Nat) (hx : a.eval x = .slice (some ⟨g, 0, none⟩) 1 c) (y z' : Value)
    (hc : w.rangeAt g 0 [y, z']) (h1 : y.oneCell' = true) (h2 : z'.oneCell' = true) (hn : n ≤ 1000) (hb : bytes ≤ 1000) (hbase : base ≤ w.heap.size)
    (h : ∀ v' w', Hid (w'.ownsRow base e 2 v' (n + 1) (xs ++ [y, z'])) → Hid (w.grownBy w' v.ownBlock) → Hid (v'.ownBlock = v.ownBlock ∨ v'.ownBlock = some w.heap.size) → wpList P ops Q rest (a.put o.dst v') w') : wpList P ops Q (o :: rest) a w :=
  wpList_step fun K hK => by
    rw [if_pos hw]
    obtain ⟨v', w', hr, g1, g2, g3⟩ := run_app2 (P := P) w base t o.type e i z bytes ht hi hz hsize hby hzs v n xs hown g c y z' hc h1 h2 hn hb hbase
    unfold Oper.wp execOp
    simp only [ho, resolve, invoke, builtin, Sem.run_bind, Sem.run_pure, Result.andThen_ok, List.map_toArray, List.map_cons, List.map_nil, hs, hx, hr]
    exact hK _ _ (h v' w' (Lib.hid g1) (Lib.hid g2) (Lib.hid g3))

/-! In a region that draws its order -/
section
variable {P : Program} {ops : Array Oper} {W : World} {C : World → Prop} {D : List Tmp} {bars : List Nat} {Q : Act → World → Prop} {o : Oper} {i : Nat} {rest : List (Oper × Nat)} {Fr : (Nat → Value) → Act} {kn : Kn}
/-- All but block g is as it was. -/
def ButC (W : World) (g : Nat) : World → Prop := fun w => But g W w
theorem cls_butC (W : World) (g : Nat) : Cls (ButC W g) := ⟨fun _ _ h hb => But.trans h (But.of g hb)⟩
theorem butC_draw (W : World) (g : Nat) : ButC W g { W with drawn := W.drawn + 1 } := ⟨rfl, rfl, rfl, Nat.le_refl _, fun _ _ _ => rfl⟩
/-- A slice literal of one element, of one cell. -/
def fLit (B : Nat) (e : TypeId) (cs : Value → World → List Value → Prop) : Value → World → Prop := fun v w => ∃ g xs, v = .slice (some ⟨g, 0, none⟩) 1 1 ∧ B ≤ g ∧ Whole w g e xs.toArray ∧ cs v w xs
theorem f_lit1 (hcl : Cls C) (t e : TypeId) (x : Operand) (ho : o.op = .buildSlice t 1 #[(0, x)]) (hw : ∀ V, Region.wanted o (yielded ops (Fr V).tmps) = true) (hD : keyOf (o, i) ∈ D) (B : Nat) (hB : ∀ w, C w → B ≤ w.heap.size)
    (u : Value) (hx : ∀ V, (Fr V).eval x = u) (hrun : ∀ w, (Instr.buildSlice t 1 #[(0, u)]).run P w = .ok (.slice (some ⟨w.heap.size, 0, none⟩) 1 1) (w.alloc (.cells #[u] e)))
    (hr : wpF P ops C bars D Q rest (fun V => (Fr V).put o.dst (V i)) ((keyOf (o, i), fun V => fOwn B e [u] (V i)) :: kn)) : wpF P ops C bars D Q ((o, i) :: rest) Fr kn :=
  f_fact hcl _ hw hD (stays_own _ _ _) (fun V w hb _ => by
    refine to_run (v := .slice (some ⟨w.heap.size, 0, none⟩) 1 1) (w' := w.alloc (.cells #[u] e)) ?_ ⟨own_lower (World.ownsRow_lit w #[u] 1 (Nat.le_refl _) (by decide) rfl) (hB w hb), (Below.refl _ w).alloc (Nat.le_refl _) _⟩
    unfold execOp
    have : (#[(0, x)] : Array (Nat × Operand)).map (fun (i, x) => (i, (Fr V).eval x)) = #[(0, u)] := by simp [hx]
    simp only [ho, this, Sem.run_bind, Result.andThen_ok, Sem.run_pure, hrun]) hr
/-- A run as it is built: its bytes are of the region's own. -/
def fRun (B : Nat) (u : Value) (xs : List Value) : Value → World → Prop := fun v w => ∃ E, v = .agg #[u, E] ∧ fOwn B 5 xs E w ∧ E.oneCell' = true
theorem stays_run (B : Nat) (u : Value) (xs : List Value) : Stays (fRun B u xs) := fun _ _ _ ⟨E, h1, h2, h3⟩ hb => ⟨E, h1, stays_own _ _ _ _ _ _ h2 hb, h3⟩
theorem own_one {w : World} {B : Nat} {e : TypeId} {s : Nat} {v : Value} {n : Nat} {xs : List Value} (h : w.ownsRow B e s v n xs) : v.oneCell' = true := by
  rcases h.2 with ⟨rfl, _⟩ | ⟨g, cap, cur, rfl, _⟩ <;> rfl
theorem own_slice {w : World} {B : Nat} {e : TypeId} {s : Nat} {v : Value} {n : Nat} {xs : List Value} (h : w.ownsRow B e s v n xs) : ∃ A n c, v = .slice A n c := by
  rcases h.2 with ⟨rfl, _⟩ | ⟨g, cap, cur, rfl, _⟩ <;> exact ⟨_, _, _, rfl⟩
theorem f_build2 (hcl : Cls C) (t : TypeId) (x y : Operand) (ho : o.op = .build t #[(0, x), (1, y)]) (hw : ∀ V, Region.wanted o (yielded ops (Fr V).tmps) = true) (hD : keyOf (o, i) ∈ D) (B : Nat)
    (u : Value) (xs : List Value) (yv : (Nat → Value) → Value) (hx : ∀ V, (Fr V).eval x = u) (hy : ∀ V, (Fr V).eval y = yv V) (hrun : ∀ A n c w, (Instr.build t #[(0, u), (1, .slice A n c)]).run P w = .ok (.agg #[u, .slice A n c]) w)
    (hk : ∀ V w, C w → knows ops o kn V w → fOwn B 5 xs (yv V) w)
    (hr : wpF P ops C bars D Q rest (fun V => (Fr V).put o.dst (V i)) ((keyOf (o, i), fun V => fRun B u xs (V i)) :: kn)) : wpF P ops C bars D Q ((o, i) :: rest) Fr kn :=
  f_fact hcl _ hw hD (stays_run _ _ _) (fun V w hb hkn => by
    have h1 := hk V w hb hkn
    refine to_run (v := .agg #[u, yv V]) (w' := w) ?_ ⟨⟨_, rfl, h1, own_one h1⟩, Below.refl _ _⟩
    obtain ⟨A, n, c, he⟩ := own_slice h1
    have hrun := hrun A n c
    rw [← he] at hrun
    unfold execOp
    have : (#[(0, x), (1, y)] : Array (Nat × Operand)).map (fun (i, x) => (i, (Fr V).eval x)) = #[(0, u), (1, yv V)] := by simp [hx, hy]
    simp only [ho, this, Sem.run_bind, Result.andThen_ok, Sem.run_pure, hrun]) hr
/-- A slice literal of one such run. -/
def fRuns (B : Nat) (u : Value) (xs : List Value) : Value → World → Prop := fun v w => ∃ E g, v = .slice (some ⟨g, 0, none⟩) 1 1 ∧ Whole w g 56 #[u, E] ∧ B ≤ g ∧ fOwn B 5 xs E w ∧ E.oneCell' = true
theorem stays_runs (B : Nat) (u : Value) (xs : List Value) : Stays (fRuns B u xs) := fun _ _ _ ⟨E, g, h1, h2, h3, h4, h5⟩ hb => ⟨E, g, h1, h2.on hb, h3, stays_own _ _ _ _ _ _ h4 hb, h5⟩
theorem f_lit2 (hcl : Cls C) (t : TypeId) (x : Operand) (ho : o.op = .buildSlice t 1 #[(0, x)]) (hw : ∀ V, Region.wanted o (yielded ops (Fr V).tmps) = true) (hD : keyOf (o, i) ∈ D) (B : Nat) (hB : ∀ w, C w → B ≤ w.heap.size)
    (u : Value) (xs : List Value) (xv : (Nat → Value) → Value) (hx : ∀ V, (Fr V).eval x = xv V) (hrun : ∀ A n c w, (Instr.buildSlice t 1 #[(0, .agg #[u, .slice A n c])]).run P w = .ok (.slice (some ⟨w.heap.size, 0, none⟩) 1 1) (w.alloc (.cells #[u, .slice A n c] 56)))
    (hk : ∀ V w, C w → knows ops o kn V w → fRun B u xs (xv V) w)
    (hr : wpF P ops C bars D Q rest (fun V => (Fr V).put o.dst (V i)) ((keyOf (o, i), fun V => fRuns B u xs (V i)) :: kn)) : wpF P ops C bars D Q ((o, i) :: rest) Fr kn :=
  f_fact hcl _ hw hD (stays_runs _ _ _) (fun V w hb hkn => by
    obtain ⟨E, h1, h2, h3⟩ := hk V w hb hkn
    obtain ⟨A, n, c, he⟩ := own_slice h2
    have hrun := hrun A n c
    rw [← he] at hrun
    refine to_run (v := .slice (some ⟨w.heap.size, 0, none⟩) 1 1) (w' := w.alloc (.cells #[u, E] 56)) ?_ ⟨⟨E, _, rfl, Whole.made w _ _, hB w hb, World.ownsRow.alloc h2 _, h3⟩, (Below.refl _ w).alloc (Nat.le_refl _) _⟩
    unfold execOp
    have : (#[(0, x)] : Array (Nat × Operand)).map (fun (i, x) => (i, (Fr V).eval x)) = #[(0, .agg #[u, E])] := by simp [hx, h1]
    simp only [ho, this, Sem.run_bind, Result.andThen_ok, Sem.run_pure, hrun]) hr
/-- One cell is read, of which more is known than its value. -/
theorem f_load_fact (hcl : Cls C) (F : Value → World → Prop) (hs : Stays F) (hw : ∀ V, Region.wanted o (yielded ops (Fr V).tmps) = true) (hD : keyOf (o, i) ∈ D) (ty : TypeId) (x : Operand) (ho : o.op = .load ty x) (p : Addr) (hx : ∀ V, (Fr V).eval x = .pointer (some p)) (v : Value)
    (hc : ∀ w, C w → w.cell? p = some v) (d : TypeDesc) (hu : P.underlying ty = some d) (hd : (match d with | .struct _ | .array _ _ => true | _ => false) = false) (hf : ∀ V w, C w → knows ops o kn V w → F v w)
    (hr : wpF P ops C bars D Q rest (fun V => (Fr V).put o.dst (V i)) ((keyOf (o, i), fun V => F (V i)) :: kn)) : wpF P ops C bars D Q ((o, i) :: rest) Fr kn :=
  f_fact hcl _ hw hD hs (fun V w hb hk => by
    have hc' := hc w hb
    have h1 := run_isAgg_plain (P := P) hu hd w
    refine to_run (v := v) (w' := w) ?_ ⟨hf V w hb hk, Below.refl _ _⟩
    unfold execOp
    simp only [ho, hx, Instr.loadAt, Instr.sureAddr, Sem.run_bind, Sem.run_pure, Result.andThen_ok, loadVar, h1, run_load, hc', Bool.false_eq_true, if_false]) hr
/-- An operation by its equation, in every world of the class. -/
theorem f_run (hcl : Cls C) (hw : ∀ V, Region.wanted o (yielded ops (Fr V).tmps) = true) (c : Value) (hrun : ∀ V w, C w → knows ops o kn V w → (execOp (Fr V).eval o).run P w = .ok (.value c) w) (hr : wpF P ops C bars D Q rest (fun V => (Fr V).put o.dst c) kn) : wpF P ops C bars D Q ((o, i) :: rest) Fr kn :=
  f_is hcl hw c (fun V w hb hk => to_run (hrun V w hb hk) ⟨rfl, Below.refl _ _⟩) hr
theorem f_ix_arr (hcl : Cls C) (hw : ∀ V, Region.wanted o (yielded ops (Fr V).tmps) = true) (ty : TypeId) (x y : Operand) (ho : o.op = .indexAddr ty x y) (g : Nat) (hx : ∀ V, (Fr V).eval x = .pointer (some ⟨g, 0, none⟩)) (e : TypeId) (n s k : Nat) (kd : IntKind) (j : Int) (hy : ∀ V, (Fr V).eval y = .int kd j)
    (hu : P.underlying ty = some (.array n e)) (hs : (P.info? e).map (·.size) = some s) (hj : j = k) (hk : k < n) (hr : wpF P ops C bars D Q rest (fun V => (Fr V).put o.dst (.pointer (some ⟨g, k * s, none⟩))) kn) : wpF P ops C bars D Q ((o, i) :: rest) Fr kn :=
  f_run hcl hw _ (fun V w _ _ => by
    unfold execOp
    simp only [ho, hx, hy, run_ix_arr hu hs hj hk w, Sem.run_bind, Sem.run_pure, Result.andThen_ok]) hr
theorem f_ix_sl (hcl : Cls C) (hw : ∀ V, Region.wanted o (yielded ops (Fr V).tmps) = true) (ty : TypeId) (x y : Operand) (ho : o.op = .indexAddr ty x y) (b off n c : Nat) (hx : ∀ V, (Fr V).eval x = .slice (some ⟨b, off, none⟩) n c) (e : TypeId) (s k : Nat) (kd : IntKind) (j : Int) (hy : ∀ V, (Fr V).eval y = .int kd j)
    (hu : P.underlying ty = some (.slice e)) (hs : (P.info? e).map (·.size) = some s) (hj : j = k) (hk : k < n) (hr : wpF P ops C bars D Q rest (fun V => (Fr V).put o.dst (.pointer (some ⟨b, off + k * s, none⟩))) kn) : wpF P ops C bars D Q ((o, i) :: rest) Fr kn :=
  f_run hcl hw _ (fun V w _ _ => by
    unfold execOp
    simp only [ho, hx, hy, run_ix_sl hu hs hj hk w, Sem.run_bind, Sem.run_pure, Result.andThen_ok]) hr
theorem f_mid_arr (hcl : Cls C) (hw : ∀ V, Region.wanted o (yielded ops (Fr V).tmps) = true) (ty : TypeId) (x y z : Operand) (ho : o.op = .slice ty x (some y) (some z) none) (g : Nat) (hx : ∀ V, (Fr V).eval x = .pointer (some ⟨g, 0, none⟩)) (e : TypeId) (n : Nat) (hu : P.underlying ty = some (.array n e)) (hs : (P.info? e).map (·.size) = some 1)
    (k1 k2 : IntKind) (j1 j2 : Int) (a b : Nat) (hy : ∀ V, (Fr V).eval y = .int k1 j1) (hz : ∀ V, (Fr V).eval z = .int k2 j2) (h1 : j1 = a) (h2 : j2 = b) (hab : a ≤ b) (hb : b ≤ n) (ha : a < n)
    (hr : wpF P ops C bars D Q rest (fun V => (Fr V).put o.dst (.slice (some ⟨g, a, none⟩) (b - a) (n - a))) kn) : wpF P ops C bars D Q ((o, i) :: rest) Fr kn :=
  f_run hcl hw _ (fun V w _ _ => by
    unfold execOp
    simp only [ho, hx, hy, hz, Option.map_some, Option.map_none, run_mid_arr hu hs h1 h2 hab hb ha w, Sem.run_bind, Sem.run_pure, Result.andThen_ok]) hr
/-- All but block gd is as it was, and a row of the call's own that lies there reads as before. -/
def ButD (W : World) (M : Nat) (e : TypeId) (gd cap n : Nat) (xs : List Value) : World → Prop := fun w => But gd W w ∧ w.ownsRow M e 1 (.slice (some ⟨gd, 0, none⟩) n cap) n xs
theorem cls_butD (W : World) (M : Nat) (e : TypeId) (gd cap n : Nat) (xs : List Value) : Cls (ButD W M e gd cap n xs) := ⟨fun _ _ ⟨h, h1⟩ hb => ⟨h.trans (But.of gd hb), ownsRow_later h1 hb⟩⟩
theorem butD_draw {W : World} {M : Nat} {e : TypeId} {gd cap n : Nat} {xs : List Value} (h : W.ownsRow M e 1 (.slice (some ⟨gd, 0, none⟩) n cap) n xs) : ButD W M e gd cap n xs { W with drawn := W.drawn + 1 } := ⟨⟨rfl, rfl, rfl, Nat.le_refl _, fun _ _ _ => rfl⟩, h⟩
def fApp (W : World) (M : Nat) (e : TypeId) (gd : Nat) (xs : List Value) : Value → World → Prop := fun v w => w.ownsRow M e 1 v xs.length xs ∧ (v.ownBlock = some gd ∨ ∃ k, v.ownBlock = some k ∧ W.heap.size ≤ k)
theorem stays_app (W : World) (M : Nat) (e : TypeId) (gd : Nat) (xs : List Value) : Stays (fApp W M e gd xs) := fun _ _ _ ⟨h, h1⟩ hb => ⟨ownsRow_later h hb, h1⟩
/-- Append onto that row: a bar. -/
theorem f_app_both {M : Nat} {e : TypeId} {gd cap n : Nat} {xs : List Value} (s x : Operand) (t : TypeId) (ho : o.op = .call { callee := .builtin .append, args := #[s, x], argTypes := #[t, t] }) (i0 : TypeInfo) (z : Value) (bytes : Nat) (ht : P.underlying t = some (.slice e)) (hi0 : P.info? e = some i0) (hz : i0.zero = some z)
    (hsize : i0.size = 1) (hby : i0.bytes = bytes) (hzs : z.cells.size = 1) (hw : ∀ V, Region.wanted o (yielded ops (Fr V).tmps) = true) (hi : i ∈ bars) (hD : keyOf (o, i) ∈ D) (hM : M ≤ W.heap.size)
    (hs : ∀ V, (Fr V).eval s = .slice (some ⟨gd, 0, none⟩) n cap) (ad : Addr) (m c : Nat) (hx : ∀ V, (Fr V).eval x = .slice (some ad) m c) (news : List Value) (hl : news.length = m) (hnews : ∀ w, But gd W w → ∀ j u, news[j]? = some u → w.cell? (ad.add j) = some u) (h1 : ∀ u ∈ news, u.oneCell' = true)
    (h63 : n + m ≤ maxLen) (hbytes : (n + m) * bytes ≤ 140737488355328)
    (hr : wpF P ops (ButD W M e gd cap n xs) bars D Q rest (fun V => (Fr V).put o.dst (V i)) [(keyOf (o, i), fun V => fApp W M e gd (xs ++ news) (V i))]) : wpF P ops (ButD W M e gd cap n xs) bars D Q ((o, i) :: rest) Fr kn :=
  f_bar _ hw hi hD (stays_app _ _ _ _ _) (fun V w ⟨hb, hown⟩ _ => by
    have hsz : W.heap.size ≤ w.heap.size := hb.size
    obtain ⟨v', w', hrun, g1, g2, g3, g4⟩ := run_app_both (P := P) w M t o.type e i0 z bytes ht hi0 hz hsize hby hzs gd cap n xs hown ad m c news hl (hnews w hb) h1 h63 hbytes (by omega)
    have hlen : (xs ++ news).length = n + m := by rw [List.length_append, hl]; have := hown.1; omega
    refine to_run (v := v') (w' := w') ?_ ⟨⟨by rw [hlen]; exact g1, g4.imp id fun ⟨k, h2, h3⟩ => ⟨k, h2, by omega⟩⟩, hb.trans g3, g2⟩
    unfold execOp
    simp only [ho, resolve, invoke, builtin, Sem.run_bind, Sem.run_pure, Result.andThen_ok, List.map_toArray, List.map_cons, List.map_nil, hs, hx, hrun]) hr
end
end Go.Proofs.Ytafmggipmaofnaa
