/- Arrays of bytes by value: what one is, a slice of all of it, whether two are the same; a struct in the middle of a block; what a region that draws its order makes by 'new'. Nothing here speaks of the program. -/
import Derived.Deep.MidRow
import Derived.ChangeKeysEq
import Derived.Deep.WholeRow
import Derived.Lib.AppendStr
import Derived.Test.YtlpgmmcdcjkkiaaDoorFacts
import Derived.Test.YtlpgmmcdcjkkiaaDoorOpen
namespace Go.Proofs.YtlpgmmcdcjkkiaaDoor
set_option maxRecDepth 20000
open Go.RowKit Go.ChangeShapes Go.WideShapes

/-- The cells of an array of bytes. -/
def ab (l : List UInt8) : Array Value := (bys l).toArray
theorem ab_size (l : List UInt8) : (ab l).size = l.length := by simp [ab, bys]
theorem ab_one (l : List UInt8) : (ab l).all (·.oneCell') = true := by
  simp only [ab, Array.all_eq_true_iff_forall_mem]
  intro u hu
  exact bys_one l u (by simpa using hu)
theorem ab_get (l : List UInt8) (i : Nat) (h : i < l.length) : (ab l)[i]? = some (.int .u8 l[i].toNat) := by simp [ab, bys, h]
theorem ab_list (l : List UInt8) : (ab l).toList = bys l := by simp [ab]

theorem But.row (g : Nat) (w : World) (cs : Array Value) : But g w (w.setRow g cs) := ⟨rfl, rfl, rfl, by simp [World.setRow], fun j _ hne => setRow_other w g j _ (fun hj => hne (by rw [hj]))⟩
/-- A slice of all of an array. -/
theorem sv_ab {w : World} {g : Nat} {t : TypeId} {l : List UInt8} (h : Whole w g t (ab l)) (n : Nat) (hn : l.length = n) (hm : n ≤ 1073741824) : SV w (.slice (some ⟨g, 0, none⟩) n n) (bys l) := by
  refine ⟨some ⟨g, 0, none⟩, n, by rw [bys_len, hn], by rw [bys_len, hn]; exact Nat.le_refl _, by unfold maxLen; omega, (fun h => by cases h), fun _ => ⟨g, 0, rfl, fun j u hu => ?_⟩⟩
  rw [h.cell, ← hu]
  simp [ab]
theorem sv_ab_take {w : World} {g : Nat} {t : TypeId} {l : List UInt8} (h : Whole w g t (ab l)) (n : Nat) (hn : l.length = n) (hm : n ≤ 1073741824) (k : Nat) (hk : k ≤ n) : SV w (.slice (some ⟨g, 0, none⟩) k n) (bys (l.take k)) := by
  have := (sv_ab h n hn hm).takev k hk
  rwa [show (bys l).take k = bys (l.take k) by simp [bys]] at this

section
variable {P : Program}
theorem run_eqItems_ab (w : World) (d : Nat) {e : TypeId} (he : P.underlying e = some (.int .u8)) (l m : List UInt8) : ∀ (is : List Nat), (∀ i ∈ is, i < l.length ∧ i < m.length) →
    (Op.eqItems (d + 1) e 1 (ab l) (ab m) is).run P w = .ok (is.all fun i => l[i]? == m[i]?) w
  | [], _ => by simp [Op.eqItems]
  | i :: is, h => by
    obtain ⟨h1, h2⟩ := h i (by simp)
    have hp : P.plainKey e = true := by simp [Program.plainKey, he]
    have p1 := run_part_plain (P := P) w hp (off := i * 1) (by rw [Nat.mul_one]; exact ab_get l i h1)
    have p2 := run_part_plain (P := P) w hp (off := i * 1) (by rw [Nat.mul_one]; exact ab_get m i h2)
    have p3 := run_equalIn_int (P := P) w d e .u8 .u8 (l[i].toNat : Int) (m[i].toNat : Int) he
    have ih := run_eqItems_ab w d he l m is fun j hj => h j (List.mem_cons_of_mem _ hj)
    have e1 : ((l[i].toNat : Int) == (m[i].toNat : Int)) = (l[i]? == m[i]?) := by
      rw [List.getElem?_eq_getElem h1, List.getElem?_eq_getElem h2]
      rw [Bool.eq_iff_iff]
      simp only [beq_iff_eq, Option.some.injEq]
      constructor
      · intro h; exact UInt8.toNat_inj.1 (by omega)
      · intro h; rw [h]
    simp only [Op.eqItems, Sem.run_bind, p1, p2, p3, Result.andThen_ok, List.all_cons, e1]
    cases (l[i]? == m[i]?)
    · simp
    · simpa using ih
theorem all_eq {n : Nat} {l m : List UInt8} (hl : l.length = n) (hm : m.length = n) : ((List.range n).all fun i => l[i]? == m[i]?) = (l == m) := by
  rw [Bool.eq_iff_iff]
  simp only [List.all_eq_true, List.mem_range, beq_iff_eq]
  constructor
  · intro h
    apply List.ext_getElem?
    intro i
    by_cases hi : i < n
    · exact h i hi
    · rw [List.getElem?_eq_none (by omega), List.getElem?_eq_none (by omega)]
  · rintro rfl i _; rfl
/-- Two arrays of bytes: the same? -/
theorem run_eq_ab {t e : TypeId} {n : Nat} (ht : P.underlying t = some (.array n e)) (he : P.underlying e = some (.int .u8)) (hc : P.cellsOf e = 1) (l m : List UInt8) (hl : l.length = n) (hm : m.length = n) (w : World) :
    (Op.equalIn 10000 t (.agg (ab l)) (.agg (ab m))).run P w = .ok (l == m) w := by
  obtain ⟨i, hi⟩ := info_of_underlying he
  rw [show (10000 : Nat) = 9998 + 1 + 1 from rfl, run_equalIn_array w _ (ab l) (ab m) ht hi, hc, run_eqItems_ab w 9998 he l m _ (fun i hi => by simp at hi; omega), all_eq hl hm]
theorem run_eql_ab {t e : TypeId} {n : Nat} (ht : P.underlying t = some (.array n e)) (he : P.underlying e = some (.int .u8)) (hc : P.cellsOf e = 1) (l m : List UInt8) (hl : l.length = n) (hm : m.length = n) (w : World) :
    (binOp .eql t (.agg (ab l)) (.agg (ab m))).run P w = .ok (.bool (l == m)) w := by
  rw [run_eql_struct, run_eq_ab ht he hc l m hl hm]; rfl
theorem run_neq_ab {t e : TypeId} {n : Nat} (ht : P.underlying t = some (.array n e)) (he : P.underlying e = some (.int .u8)) (hc : P.cellsOf e = 1) (l m : List UInt8) (hl : l.length = n) (hm : m.length = n) (w : World) :
    (binOp .neq t (.agg (ab l)) (.agg (ab m))).run P w = .ok (.bool (!(l == m))) w := by
  rw [run_neq_struct, run_eq_ab ht he hc l m hl hm]; rfl

/-- x[i:j] of a slice of one-cell elements. -/
theorem run_mid {t e : TypeId} {A : Option Addr} {n c a b : Nat} {k1 k2 : IntKind} {i j : Int} (ht : P.underlying t = some (.slice e)) (hs : (P.info? e).map (·.size) = some 1) (hi : i = a) (hj : j = b) (hab : a ≤ b) (hb : b ≤ c) (w : World) :
    (Instr.sliceAt t (.slice A n c) (some (.int k1 i)) (some (.int k2 j)) none).run P w = .ok (.slice (if c = a then A else A.map (·.add a)) (b - a) (c - a)) w := by
  subst hi hj
  cases hq : P.info? e with
  | none => simp [hq] at hs
  | some inf =>
    have hs' : inf.size = 1 := by simpa [hq] using hs
    have h0 : (0 : Int) ≤ b ∧ (b : Int) ≤ c := by omega
    have h1 : (0 : Int) ≤ a ∧ (a : Int) ≤ b := by omega
    have h2 : (sizeOf e).run P w = .ok 1 w := by simp [sizeOf, typeInfo, hq, hs']
    simp [Instr.sliceAt, run_underlying ht, Instr.slice, Instr.sliceBounds, Instr.sliceBound, asIntOf, h0, h1, h2, hb, hab]
theorem SV.mid8 {w : World} {A : Option Addr} {n c : Nat} {l : List UInt8} (h : SV w (.slice A n c) (bys l)) (a b : Nat) (hab : a ≤ b) (hb : b ≤ n) : SV w (.slice (if c = a then A else A.map (·.add a)) (b - a) (c - a)) (bys ((l.drop a).take (b - a))) := by
  have hn := h.bd.1
  rw [bys_len] at hn
  have h1 := (h.cut a (by omega)).takev (b - a) (by omega)
  rwa [show (bys (l.drop a)).take (b - a) = bys ((l.drop a).take (b - a)) by simp [bys]] at h1

/-! A struct in the middle of a block -/
theorem Whole.mid {w : World} {g : Nat} {t : TypeId} {cs : Array Value} (h : Whole w g t cs) (o n : Nat) {l : List Value} (hl : (cs.toList.drop o).take n = l) : w.rangeAt g o l := by
  intro j v hv
  rw [h.cell]
  subst hl
  rw [List.getElem?_take] at hv
  split at hv
  · rw [List.getElem?_drop] at hv
    simpa using hv
  · cases hv
theorem wpList_load_midg {ops : Array Oper} {rest : List Oper} {o : Oper} {a : Act} {w : World} {Q : Exit → Act → World → Prop} (hw : Region.wanted o (yielded ops a.tmps) = true) (ty : TypeId) (x : Operand) (ho : o.op = .load ty x)
    (b off : Nat) (hx : a.eval x = .pointer (some ⟨b, off, none⟩)) (cs : List Value) (d : TypeDesc) (hc : w.rangeAt b off cs)
    (hu : P.underlying ty = some d) (hd : d.isRow = true) (hi : (P.info? ty).map (·.size) = some cs.length)
    (h : wpList P ops Q rest (a.put o.dst (.agg cs.toArray)) w) : wpList P ops Q (o :: rest) a w :=
  wpList_step fun K hK => by
    rw [if_pos hw]
    exact wp_load_mid ty x ho b off hx cs d hc hu hd hi (hK _ _ h)

/-! An array of bytes loaded, stored, handed back -/
theorem wpList_load_ab {ops : Array Oper} {rest : List Oper} {o : Oper} {a : Act} {w : World} {Q : Exit → Act → World → Prop} (hw : Region.wanted o (yielded ops a.tmps) = true) (ty : TypeId) (x : Operand) (ho : o.op = .load ty x)
    (g : Nat) (hx : a.eval x = .pointer (some ⟨g, 0, none⟩)) (t e : TypeId) (n : Nat) (l : List UInt8) (hl : l.length = n) (hg : Whole w g t (ab l))
    (hu : P.underlying ty = some (.array n e)) (hi : (P.info? ty).map (·.size) = some n)
    (h : wpList P ops Q rest (a.put o.dst (.agg (ab l))) w) : wpList P ops Q (o :: rest) a w :=
  wpList_step fun K hK => by
    rw [if_pos hw]
    exact wp_load_row ty x ho g hx t (ab l) (0, 0) _ hg hu rfl (by rw [ab_size, hl]; exact hi) (hK _ _ h)
theorem wpList_store_ab {ops : Array Oper} {rest : List Oper} {o : Oper} {a : Act} {w : World} {Q : Exit → Act → World → Prop} (hgd : o.guard = none) (ty : TypeId) (x y : Operand) (ho : o.op = .store ty x y)
    (g : Nat) (hx : a.eval x = .pointer (some ⟨g, 0, none⟩)) (l : List UInt8) (hy : a.eval y = .agg (ab l)) (t : TypeId) (n : Nat) (hl : l.length = n) (l0 : List UInt8) (hl0 : l0.length = n) (hg : Whole w g t (ab l0))
    (hi : (P.info? ty).map (·.size) = some n)
    (h : ∀ w', Hid (Whole w' g t (ab l)) → w' = w.setRow g (ab l) → wpList P ops Q rest (a.put o.dst undef) w') : wpList P ops Q (o :: rest) a w :=
  wpList_store_row hgd ty x y ho g (ab l) hx hy t (ab l0) hg (by rw [ab_size, hl]; exact hi) (by rw [ab_size, ab_size, hl, hl0]) (ab_one l) (h _ (Lib.hid (setRow_heap _ _ _ _ _ _ hg)) rfl)
theorem results_ab {fn : Func} {p : Tmp} {ty : TypeId} (h : fn.results = #[.cell p ty]) (tmps : Array Value) (w : World) (g : Nat) (t e : TypeId) (n : Nat) (l : List UInt8) (hl : l.length = n)
    (hp : tmps.getD p undef = .pointer (some ⟨g, 0, none⟩)) (hg : Whole w g t (ab l)) (hu : P.underlying ty = some (.array n e)) (hi : (P.info? ty).map (·.size) = some n) :
    (results fn tmps).run P w = .ok (.agg (ab l)) w :=
  results_cell_row h tmps w g t (ab l) (0, 0) _ hp hg hu rfl (by rw [ab_size, hl]; exact hi)

/-! Bytes appended onto bytes of the call's own: of a string, of a slice -/
theorem wpList_apps {ops : Array Oper} {rest : List Oper} {o : Oper} {a : Act} {w : World} {Q : Exit → Act → World → Prop} (hgd : o.guard = none) (sl x : Operand) (t u : TypeId)
    (ho : o.op = .call { callee := .builtin .append, args := #[sl, x], argTypes := #[t, u] })
    (base : Nat) (e : TypeId) (i : TypeInfo) (ht : P.underlying t = some (.slice e)) (hu : P.underlying u = some .string) (hi : P.info? e = some i) (hz : i.zero = some (.int .u8 0))
    (hsize : i.size = 1) (hby : i.bytes = 1)
    (v : Value) (l k : List UInt8) (hs : a.eval sl = v) (hx : a.eval x = .string ⟨k.toArray⟩) (hown : fOwn base e (bys l) v w)
    (hlen : l.length + k.length ≤ 1073741824) (hbase : base ≤ w.heap.size)
    (h : ∀ v' w', Hid (fOwn base e (bys (l ++ k)) v' w') → Hid (Below base w w') → wpList P ops Q rest (a.put o.dst v') w') : wpList P ops Q (o :: rest) a w := by
  have e2 : (⟨k.toArray⟩ : ByteArray).size = k.length := by simp [ByteArray.size]
  refine Lib.wpList_append_own_string _ hgd sl x t u ho base e i ht hu hi hz hsize hby v _ (bys l) hs hown ⟨k.toArray⟩ hx (by rw [bys_len, e2]; unfold maxLen; omega) (by rw [bys_len, e2]; omega) hbase fun v' w' h1 h2 _ => ?_
  refine h v' w' (Lib.hid ?_) (Lib.hid ((Below.refl base w).grown h2 hbase fun j hj => (hown.lt j hj).1))
  have e1 : bys l ++ Lib.strCells ⟨k.toArray⟩ = bys (l ++ k) := by simp [bys, Lib.strCells]
  rw [e1, e2] at h1
  unfold fOwn
  rw [bys_len] at h1 ⊢
  rwa [List.length_append]
theorem wpList_appo {ops : Array Oper} {rest : List Oper} {o : Oper} {a : Act} {w : World} {Q : Exit → Act → World → Prop} (hw : Region.wanted o (yielded ops a.tmps) = true) (sl x : Operand) (t : TypeId)
    (ho : o.op = .call { callee := .builtin .append, args := #[sl, x], argTypes := #[t, t] })
    (base : Nat) (e : TypeId) (i : TypeInfo) (ht : P.underlying t = some (.slice e)) (hi : P.info? e = some i) (hz : i.zero = some (.int .u8 0))
    (hsize : i.size = 1) (hby : i.bytes = 1)
    (v xv : Value) (l k : List UInt8) (hs : a.eval sl = v) (hx : a.eval x = xv) (hown : fOwn base e (bys l) v w) (hsv : SV w xv (bys k))
    (hlen : l.length + k.length ≤ 1073741824) (hbase : base ≤ w.heap.size)
    (h : ∀ v' w', Hid (fOwn base e (bys (l ++ k)) v' w') → Hid (Below base w w') → wpList P ops Q rest (a.put o.dst v') w') : wpList P ops Q (o :: rest) a w := by
  refine wpList_app w hw sl x t ho base e i (.int .u8 0) 1 ht hi hz hsize hby rfl v (bys l) hs (.inl hown) xv (bys k) hx hsv (bys_one _) (by rw [bys_len, bys_len]; unfold maxLen; omega) (by rw [bys_len, bys_len]; omega) hbase fun v' w' happ => ?_
  refine h v' w' (Lib.hid ?_) (Lib.hid (happ.below hbase))
  have := happ.own (.inr hown)
  unfold fOwn
  rwa [bys_app]

/-- Bytes copied to the head of an array. -/
theorem run_copy_ab (w : World) (dT sT ty e : TypeId) (hu : P.underlying dT = some (.slice e)) (hsz : (P.info? e).map (·.size) = some 1)
    (g n : Nat) (t : TypeId) (xv : Value) (l0 k : List UInt8) (hl0 : l0.length = n) (hk : k.length ≤ n) (hg : Whole w g t (ab l0)) (hsv : SV w xv (bys k)) :
    ∃ w', (Builtin.copy_ #[dT, sT] ty #[.slice (some ⟨g, 0, none⟩) n n, xv]).run P w = .ok (goInt k.length) w' ∧ Whole w' g t (ab (k ++ l0.drop k.length)) ∧ But g w w' := by
  obtain ⟨A, c, rfl, h1, h2, h3, h4⟩ := hsv
  rw [bys_len] at h1 ⊢
  have hlen : (bys k).length = Nat.min k.length n := by rw [bys_len]; exact (Nat.min_eq_left hk).symm
  by_cases h0 : k = []
  · subst h0
    exact ⟨w, run_copy_none (P := P) w dT sT ty e _ _ _ _ _ _ hu hsz (by simp), by simpa using hg, But.refl g w⟩
  · have hpos := List.length_pos_iff.2 h0
    obtain ⟨b, off, rfl, hc⟩ := h4 (bys_ne hpos)
    have hrun := run_copy_row (P := P) w dT sT ty e g 0 n n ⟨b, off, none⟩ k.length c (ab l0) t (bys k) hu hsz hg hlen (fun j v hv => by rw [Addr.add_lit]; exact hc j v hv) (by rw [bys_len, ab_size]; omega) (bys_one k)
    rw [bys_len k] at hrun
    refine ⟨_, hrun, ?_, ⟨rfl, rfl, rfl, by simp [World.setRow], fun j _ hne => setRow_other w g j _ (fun hj => hne (by rw [hj]))⟩⟩
    have := setRow_heap w g (ab l0) ((ab l0).toList.take 0 ++ bys k ++ (ab l0).toList.drop (0 + k.length)).toArray t (0, 0) hg
    have e1 : ((ab l0).toList.take 0 ++ bys k ++ (ab l0).toList.drop (0 + k.length)).toArray = ab (k ++ l0.drop k.length) := by
      rw [ab_list, List.take_zero, List.nil_append, Nat.zero_add]
      unfold ab
      rw [bys_app]
      simp [bys]
    rw [e1] at this ⊢
    exact this
theorem wpList_copy_ab {ops : Array Oper} {rest : List Oper} {o : Oper} {a : Act} {w : World} {Q : Exit → Act → World → Prop} (hw : Region.wanted o (yielded ops a.tmps) = true) (d s : Operand) (dT sT : TypeId)
    (ho : o.op = .call { callee := .builtin .copy, args := #[d, s], argTypes := #[dT, sT] }) (e : TypeId) (hu : P.underlying dT = some (.slice e)) (hsz : (P.info? e).map (·.size) = some 1)
    (g n : Nat) (t : TypeId) (hd : a.eval d = .slice (some ⟨g, 0, none⟩) n n) (xv : Value) (hs : a.eval s = xv) (l0 k : List UInt8) (hl0 : l0.length = n) (hk : k.length ≤ n) (hg : Whole w g t (ab l0)) (hsv : SV w xv (bys k))
    (h : ∀ w', Hid (Whole w' g t (ab (k ++ l0.drop k.length))) → Hid (But g w w') → wpList P ops Q rest (a.put o.dst (goInt k.length)) w') : wpList P ops Q (o :: rest) a w :=
  wpList_step fun K hK => by
    rw [if_pos hw]
    obtain ⟨w', hr, h1, h2⟩ := run_copy_ab (P := P) w dT sT o.type e hu hsz g n t xv l0 k hl0 hk hg hsv
    unfold Oper.wp execOp
    simp only [ho, resolve, invoke, builtin, Sem.run_bind, Sem.run_pure, Result.andThen_ok, List.map_toArray, List.map_cons, List.map_nil, hs, hd, hr]
    exact hK _ _ (h w' (Lib.hid h1) (Lib.hid h2))

/-! In a region that draws its order -/
variable {ops : Array Oper} {W : World} {C : World → Prop} {D : List Tmp} {bars : List Nat} {Q : Act → World → Prop} {o : Oper} {i : Nat} {rest : List (Oper × Nat)} {Fr : (Nat → Value) → Act} {kn : Kn}
theorem f_load_mid (hcl : Cls C) (hw : ∀ V, Region.wanted o (yielded ops (Fr V).tmps) = true) (ty : TypeId) (x : Operand) (ho : o.op = .load ty x) (b off : Nat) (hx : ∀ V, (Fr V).eval x = .pointer (some ⟨b, off, none⟩)) (cs : List Value) (d : TypeDesc)
    (hc : ∀ w, C w → w.rangeAt b off cs) (hu : P.underlying ty = some d) (hd : d.isRow = true) (hi : (P.info? ty).map (·.size) = some cs.length)
    (hr : wpF P ops C bars D Q rest (fun V => (Fr V).put o.dst (.agg cs.toArray)) kn) : wpF P ops C bars D Q ((o, i) :: rest) Fr kn :=
  f_is hcl hw (.agg cs.toArray) (fun V w hb _ => by
    refine to_run (v := .agg cs.toArray) (w' := w) ?_ ⟨rfl, Below.refl _ _⟩
    unfold execOp
    simp only [ho, hx, Instr.loadAt, Instr.sureAddr, Sem.run_bind, Sem.run_pure, Result.andThen_ok, run_loadVar_mid w b off ty cs d (hc w hb) hu hd hi]) hr
/-- An array of bytes is read as a whole. -/
theorem f_load_ab (hcl : Cls C) (hw : ∀ V, Region.wanted o (yielded ops (Fr V).tmps) = true) (ty : TypeId) (x : Operand) (ho : o.op = .load ty x) (g : Nat) (hx : ∀ V, (Fr V).eval x = .pointer (some ⟨g, 0, none⟩)) (t e : TypeId) (n : Nat) (l : List UInt8) (hl : l.length = n)
    (hg : ∀ w, C w → Whole w g t (ab l)) (hu : P.underlying ty = some (.array n e)) (hi : (P.info? ty).map (·.size) = some n)
    (hr : wpF P ops C bars D Q rest (fun V => (Fr V).put o.dst (.agg (ab l))) kn) : wpF P ops C bars D Q ((o, i) :: rest) Fr kn :=
  f_load_row hcl hw ty x ho g hx t (ab l) _ hg hu rfl (by rw [ab_size, hl]; exact hi) hr
/-- An operation of two values, by an equation on each of its two parts. -/
theorem f_binop (hcl : Cls C) (hw : ∀ V, Region.wanted o (yielded ops (Fr V).tmps) = true) (op : BinOp) (t r : TypeId) (s u : Operand) (ho : o.op = .binOp op t s u r) (x y v : Value) (hv : ∀ w, (binOp op t x y).run P w = .ok v w) (hg : ∀ w, (eqGuard op t s u x y).run P w = .ok () w)
    (hx : ∀ V, (Fr V).eval s = x) (hy : ∀ V, (Fr V).eval u = y) (hr : wpF P ops C bars D Q rest (fun V => (Fr V).put o.dst v) kn) : wpF P ops C bars D Q ((o, i) :: rest) Fr kn :=
  f_is hcl hw v (fun V w hb _ => by
    refine to_run (v := v) (w' := w) ?_ ⟨rfl, Below.refl _ _⟩
    have h1 := hv w
    have h2 := hg w
    simp [execOp, ho, hx, hy, h1, h2]) hr
/-- Bytes that stay as they are, turned into a string. -/
theorem f_str (hcl : Cls C) (hw : ∀ V, Region.wanted o (yielded ops (Fr V).tmps) = true) (src e dst : TypeId) (s : Operand) (ho : o.op = .convert src dst s) (hs : P.underlying src = some (.slice e)) (he : P.underlying e = some (.int .u8)) (hd : P.underlying dst = some .string)
    (v : Value) (l : List UInt8) (hx : ∀ V, (Fr V).eval s = v) (hsv : ∀ w, C w → SV w v (bys l))
    (hr : wpF P ops C bars D Q rest (fun V => (Fr V).put o.dst (.string ⟨l.toArray⟩)) kn) : wpF P ops C bars D Q ((o, i) :: rest) Fr kn :=
  f_is hcl hw (.string ⟨l.toArray⟩) (fun V w hb _ => by
    refine to_run (v := .string ⟨l.toArray⟩) (w' := w) ?_ ⟨rfl, Below.refl _ _⟩
    have := run_bytes_string (P := P) (hsv w hb) src e hs he dst hd
    unfold execOp
    simp only [ho, hx, Sem.run_bind, Sem.run_pure, Result.andThen_ok, this]) hr
/-- A new variable of several cells: which block it is, is not known. -/
def fNew (B : Nat) (t : TypeId) (cs : Array Value) : Value → World → Prop := fun v w => ∃ g, v = .pointer (some ⟨g, 0, none⟩) ∧ Whole w g t cs ∧ B ≤ g
theorem stays_new (B : Nat) (t : TypeId) (cs : Array Value) : Stays (fNew B t cs) := fun _ _ _ ⟨g, h1, h2, h3⟩ hb => ⟨g, h1, h2.on hb, h3⟩
theorem run_alloc_new {t : TypeId} {z : Value} (hz : ∀ w, (zeroValue t).run P w = .ok z w) (w : World) : (Instr.alloc t true (.tuple #[])).run P w = .ok (.pointer (some ⟨w.heap.size, 0, none⟩)) (w.alloc (.cells z.cells t)) := by
  simp [Instr.alloc, hz, newVar, newRow]
theorem f_alloc (hcl : Cls C) (t : TypeId) (ho : o.op = .alloc t) (hw : ∀ V, Region.wanted o (yielded ops (Fr V).tmps) = true) (hD : keyOf (o, i) ∈ D) (B : Nat) (hB : ∀ w, C w → B ≤ w.heap.size) (cs : Array Value)
    (hz : ∀ w, (zeroValue t).run P w = .ok (.agg cs) w)
    (hr : wpF P ops C bars D Q rest (fun V => (Fr V).put o.dst (V i)) ((keyOf (o, i), fun V => fNew B t cs (V i)) :: kn)) : wpF P ops C bars D Q ((o, i) :: rest) Fr kn :=
  f_fact hcl _ hw hD (stays_new _ _ _) (fun V w hb _ => by
    refine to_run (v := .pointer (some ⟨w.heap.size, 0, none⟩)) (w' := w.alloc (.cells cs t)) ?_ ⟨⟨_, rfl, Whole.made w t cs, hB w hb⟩, (Below.refl _ w).alloc (Nat.le_refl _) _⟩
    unfold execOp
    simp only [ho, Sem.run_bind, Result.andThen_ok, Sem.run_pure, run_alloc_new hz, Value.cells]) hr
/-- A row of the call's own stays while a block that was there ahead of it is written. -/
theorem fOwn.but {B g : Nat} {e : TypeId} {xs : List Value} {v : Value} {w w' : World} (h : fOwn B e xs v w) (hb : But g w w') (hg : g < B) : fOwn B e xs v w' :=
  World.ownsRow.kept h hb (by
    cases hv : v.ownBlock with
    | none => simp
    | some k => have := (World.ownsRow.lt h k hv).1; simp; omega)
/-- What was there is as it was, but for an array that holds l0, or l1. -/
def Fill (W : World) (g : Nat) (t : TypeId) (l0 l1 : List UInt8) : World → Prop := fun w => But g W w ∧ (Whole w g t (ab l0) ∨ Whole w g t (ab l1))
theorem cls_fill (W : World) (g : Nat) (t : TypeId) (l0 l1 : List UInt8) : Cls (Fill W g t l0 l1) := ⟨fun _ _ ⟨h, h1⟩ hb => ⟨h.trans (But.of g hb), h1.imp (·.on hb) (·.on hb)⟩⟩
theorem fill_draw {W : World} {g : Nat} {t : TypeId} {l0 : List UInt8} (h : Whole W g t (ab l0)) (l1 : List UInt8) : Fill W g t l0 l1 { W with drawn := W.drawn + 1 } := ⟨⟨rfl, rfl, rfl, Nat.le_refl _, fun _ _ _ => rfl⟩, .inl h⟩
/-- Bytes copied to the head of the class's array: a bar. -/
theorem f_copy {g : Nat} {t : TypeId} {l0 l1 : List UInt8} (hw : ∀ V, Region.wanted o (yielded ops (Fr V).tmps) = true) (hi : i ∈ bars) (hD : keyOf (o, i) ∈ D) (d s : Operand) (dT sT : TypeId)
    (ho : o.op = .call { callee := .builtin .copy, args := #[d, s], argTypes := #[dT, sT] }) (e : TypeId) (hu : P.underlying dT = some (.slice e)) (hsz : (P.info? e).map (·.size) = some 1)
    (n : Nat) (hd : ∀ V, (Fr V).eval d = .slice (some ⟨g, 0, none⟩) n n) (sv : (Nat → Value) → Value) (hs : ∀ V, (Fr V).eval s = sv V) (k : List UInt8) (hl0 : l0.length = n) (hk : k.length ≤ n) (hl1 : l1 = k ++ l0.drop k.length)
    (hsv : ∀ V w, Fill W g t l0 l1 w → knows ops o kn V w → SV w (sv V) (bys k))
    (hr : wpF P ops (Fill W g t l0 l1) bars D Q rest (fun V => (Fr V).put o.dst (V i)) [(keyOf (o, i), fun _ w => Whole w g t (ab l1))]) : wpF P ops (Fill W g t l0 l1) bars D Q ((o, i) :: rest) Fr kn :=
  f_bar (fun _ w => Whole w g t (ab l1)) hw hi hD (fun _ _ _ h hb => h.on hb) (fun V w ⟨hb, hh⟩ hk' => by
    have hl : l1.length = n := by rw [hl1]; simp; omega
    have hx := hsv V w ⟨hb, hh⟩ hk'
    have : ∃ w', (Builtin.copy_ #[dT, sT] o.type #[.slice (some ⟨g, 0, none⟩) n n, sv V]).run P w = .ok (goInt k.length) w' ∧ Whole w' g t (ab l1) ∧ But g w w' := by
      rcases hh with hh | hh
      · rw [hl1]
        exact run_copy_ab (P := P) w dT sT o.type e hu hsz g n t (sv V) l0 k hl0 hk hh hx
      · have h2 := run_copy_ab (P := P) w dT sT o.type e hu hsz g n t (sv V) l1 k hl hk hh hx
        have e1 : k ++ l1.drop k.length = l1 := by rw [hl1, List.drop_left]
        rwa [e1] at h2
    obtain ⟨w', hrun, h1, h2⟩ := this
    refine to_run (v := goInt k.length) (w' := w') ?_ ⟨h1, hb.trans h2, .inr h1⟩
    unfold execOp
    simp only [ho, resolve, invoke, builtin, Sem.run_bind, Sem.run_pure, Result.andThen_ok, List.map_toArray, List.map_cons, List.map_nil, hs, hd, hrun]) hr
end

/-- An argument that is an array of bytes. -/
theorem arg_ab {H : Type} {enc : TypeId × Value → H} {P : Program} {w : World} {t e : TypeId} {n : Nat} {v : Value} {d : DataW H} {p : List MemPlace} {r : Reach} {b0 : Nat} (ht : P.underlying t = some (.array n e)) (he : P.underlying e = some (.int .u8)) (hc : P.cellsOf e = 1) (hcn : P.cellsOf t = n)
    (hv : Value.okWide P w r b0 t v) (h : DataW.Trod enc P w 0 (fun _ => true) true t v d p) : ∃ x : List UInt8, v = .agg (ab x) ∧ x.length = n := by
  simp only [Value.okWide, ht] at hv
  obtain ⟨cs, rfl, hsz, _⟩ := hv
  obtain ⟨hlen, hf⟩ := (Rd.of h).array ht
  rw [hc] at hf
  obtain ⟨V, hV⟩ := Go.Deep.choose_lt (α := UInt8) (n := n) (p := fun i b => cs.toList[i]? = some (.int .u8 b.toNat)) (fun i hi => by
    have h1 := hf i hi
    rw [hcn] at hlen
    simp only [Value.cells] at h1 hlen
    have hi' : i < cs.toList.length := by omega
    have e1 : (cs.toList.drop (i * 1)).take 1 = [cs.toList[i]] := by
      rw [Nat.mul_one, List.drop_eq_getElem_cons hi', List.take_succ_cons, List.take_zero]
    rw [e1] at h1
    obtain ⟨m, h2, h3⟩ := h1.int he
    obtain ⟨b, rfl⟩ := u8_wf h3
    exact ⟨b, by rw [List.getElem?_eq_getElem hi']; congr 1; simpa using h2⟩)
  refine ⟨(List.range n).map V, ?_, by simp⟩
  congr 1
  rw [hcn] at hlen
  simp only [Value.cells] at hlen
  apply Array.toList_inj.1
  rw [ab_list]
  apply List.ext_getElem?
  intro i
  by_cases hi : i < n
  · rw [hV i hi]; simp [bys, hi]
  · rw [List.getElem?_eq_none (by omega), List.getElem?_eq_none (by simp [bys]; omega)]
end Go.Proofs.YtlpgmmcdcjkkiaaDoor
