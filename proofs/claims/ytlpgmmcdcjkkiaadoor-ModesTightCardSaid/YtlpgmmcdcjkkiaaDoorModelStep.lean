/- One operation done to a state that is the call's own: step. -/
import Derived.Test.YtlpgmmcdcjkkiaaDoorModelPut
import Derived.Test.YtlpgmmcdcjkkiaaDoorModelSpot
import Derived.Test.YtlpgmmcdcjkkiaaDoorModelCheck
import Derived.Test.YtlpgmmcdcjkkiaaDoorModelLook
namespace Go.Proofs.YtlpgmmcdcjkkiaaDoor
set_option maxRecDepth 20000
open Go.RowKit Go.Sort

section
variable {P : Program} {c : Code} {Q : Exit → Act → World → Prop} {a : Act} {w : World}
/-- A piece of code whose ways all lead to one frame, but for a block's number (and a slice's three words). -/
theorem wp_cut1 (F : Nat → World → Prop) (h : ∃ fr : Nat → Act, c.wp P (Exit.then (fun a' w' => ∃ b, a' = fr b ∧ F b w') (fun _ _ _ => False)) a w ∧ ∀ b w', F b w' → Q .normal (fr b) w') : c.wp P Q a w := by
  obtain ⟨fr, h1, h2⟩ := h
  refine wp_mono h1 ?_
  intro e a' w' hq
  cases e <;> first | exact hq.elim | skip
  obtain ⟨b, rfl, hf⟩ := hq
  exact h2 b w' hf
theorem wp_cut4 (F : Nat → Option Addr → Nat → Nat → World → Prop) (h : ∃ fr : Nat → Option Addr → Nat → Nat → Act, c.wp P (Exit.then (fun a' w' => ∃ b A n d, a' = fr b A n d ∧ F b A n d w') (fun _ _ _ => False)) a w ∧ ∀ b A n d w', F b A n d w' → Q .normal (fr b A n d) w') : c.wp P Q a w := by
  obtain ⟨fr, h1, h2⟩ := h
  refine wp_mono h1 ?_
  intro e a' w' hq
  cases e <;> first | exact hq.elim | skip
  obtain ⟨b, A, n, d, rfl, hf⟩ := hq
  exact h2 b A n d w' hf
/-- Results of which the second lies in a variable of several cells. -/
theorem results_tmp_cell {fn : Func} {p q : Tmp} {ty : TypeId} (h : fn.results = #[.tmp q, .cell p ty]) (tmps : Array Value) (w : World) (g : Nat) (t : TypeId) (cs : Array Value) (fr : Nat × Nat) (d : TypeDesc)
    (hp : tmps.getD p undef = .pointer (some ⟨g, 0, none⟩)) (hg : w.heap[g]? = some (.cells cs t fr))
    (hu : P.underlying ty = some d) (hd : (match d with | .struct _ | .array _ _ => true | _ => false) = true) (hi : (P.info? ty).map (·.size) = some cs.size) (v : Value) (hv : tmps.getD q undef = v) :
    (results fn tmps).run P w = .ok (.tuple #[v, .agg cs]) w := by
  have hp' : tmps[p]?.getD undef = .pointer (some ⟨g, 0, none⟩) := by simpa using hp
  have hv' : tmps[q]?.getD undef = v := by simpa using hv
  simp [results, h, hp', hv', asAddr, run_loadVar_row w g t ty cs fr d hg hu hd hi]
end
/-- What a step comes to. -/
def Stepped (M : Nat) (v : Value) (s : List Pr) (x : Ox) (w : World) (e : Ending) (w' : World) : Prop :=
  ∃ v' es' D, e = .returned (.tuple #[v', av D (stepX s x).2]) ∧ es'.map (·.1) = (stepX s x).1 ∧ PO w' M v' es' ∧ SV w' D (bys (stepX s x).2.c.d) ∧ w.grownBy w' v.ownBlock ∧ (v'.ownBlock = v.ownBlock ∨ ∃ k, v'.ownBlock = some k ∧ w.heap.size ≤ k)
theorem PO.sl {w : World} {M : Nat} {v : Value} {es : List (Pr × Value)} (h : PO w M v es) : ∃ A c, v = .slice A es.length c ∧ (∀ a, A = some a → a.spot = none ∧ a.off = 0) ∧ es.length ≤ c ∧ c ≤ 9223372036854775807 := by
  obtain ⟨⟨rfl, rfl⟩ | ⟨g, cap, L, rfl, _, hk⟩, _⟩ := h
  · exact ⟨none, 0, rfl, (fun a h => by cases h), Nat.le_refl _, by omega⟩
  · have := hk.max
    unfold maxLen at this
    exact ⟨_, cap, rfl, (fun a h => by injection h with h; rw [← h]; exact ⟨rfl, rfl⟩), hk.le, by omega⟩
/-- The fields of the variable of an operation. -/
def oc (D : Value) (x : Ox) : Array Value := #[.int .i64 x.d, .string ⟨x.k.toArray⟩, D, .int .i64 x.lo, .int .i64 x.hi, .int .i64 x.n]
def zA : Array Value := #[.int .i64 0, .int .i64 0, .slice none 0 0, .int .i64 0, .int .i64 0, .int .i64 0]
set_option maxHeartbeats 2000000 in
/-- An operation that may not be. -/
theorem step_no (w : World) (M : Nat) (v : Value) (es : List (Pr × Value)) (s : List Pr) (A : Option Addr) (n c : Nat) (x : Ox) (h : PO w M v es) (hs : es.map (·.1) = s) (hn : n = x.b.length) (hm : n ≤ 9223372036854775807) (hk : x.k.length ≤ 9223372036854775807) (hg : goodX x = false) :
    Calls Tryd.prog 34 #[v, ov (.slice A n c) x] w (Stepped M v s x w) := by
  have CK := Lib.hid (fun w => check9_any A n c x w hn hm hk)
  have e1 : stepX s x = (s, ⟨1, zeroC⟩) := by unfold stepX; rw [hg]; rfl
  have e2 : ckX x = 1 := by simp [ckX, hg]
  rw [e2] at CK
  have HP := Lib.hid h
  obtain ⟨Av, cv', rfl, _⟩ := h.sl
  replace hs := Lib.hid hs
  replace e1 := Lib.hid e1
  clear h hn hm hk hg e2
  unfold ov kst at CK ⊢
  go_enter Tryd.func34, Tryd.ntmps34
  go_wp2_with (first
    | (go_at_call 42; refine (CK.out _).mono ?_; rintro e w1 ⟨rfl, b1⟩; have p5 := Lib.hid ((Whole.second w _ _ _).on b1); have B1 := Lib.hid (bthen (two_more (Below.refl _ w) _ _) b1); clear b1)
    | (show wpList _ _ _ (Oper.mk _ (.load _ (.tmp 3)) _ _ _ _ :: _) _ _; refine wpList_load_row rfl 24 (.tmp 3) rfl (w.heap.size) rfl _ _ _ _ ((Whole.made w _ _).later _) Tryd.underlying24 rfl (by kernel_rfl) ?_)
    | (show wpList _ _ _ (Oper.mk _ (.store _ (.tmp 5) _) _ _ _ _ :: _) _ _; refine wpList_store_row rfl _ (.tmp 5) (.tmp 21) rfl (w.heap.size + 1) _ rfl rfl _ _ (p5.out) (by kernel_rfl) rfl (by simp [Value.oneCell']) ?_))
  refine bodyPost_ret (v := .tuple #[.slice Av es.length cv', .agg #[.int .i64 1, .int .i64 0, .slice none 0 0, .int .i64 0, .int .i64 0, .int .i64 0]]) ?_ rfl ?_
  · exact results_tmp_cell rfl _ _ (w.heap.size + 1) _ _ (0, 0) _ rfl (setRow_heap _ _ _ _ _ _ p5.out) Tryd.underlying56 rfl (by kernel_rfl) _ rfl
  · have hb := below_setRow B1.out (show w.heap.size ≤ w.heap.size + 1 by omega) #[.int .i64 1, .int .i64 0, .slice none 0 0, .int .i64 0, .int .i64 0, .int .i64 0]
    exact ⟨_, es, .slice none 0 0, by rw [e1.out]; rfl, by rw [e1.out]; exact hs.out, HP.out.on hb, by rw [e1.out]; exact SV.nil _, grown_none hb _, .inl rfl⟩
/-- A cut of a slice of pairs. -/
theorem run_midK {P : Program} {t e : TypeId} {A : Option Addr} {n c a b K : Nat} {k1 k2 : IntKind} {i j : Int} (ht : P.underlying t = some (.slice e)) (hs : (P.info? e).map (·.size) = some K) (hi : i = a) (hj : j = b) (hab : a ≤ b) (hb : b ≤ c) (w : World) :
    (Instr.sliceAt t (.slice A n c) (some (.int k1 i)) (some (.int k2 j)) none).run P w = .ok (.slice (if c = a then A else A.map (·.add (a * K))) (b - a) (c - a)) w := by
  subst hi hj
  cases hq : P.info? e with
  | none => simp [hq] at hs
  | some inf =>
    have hs' : inf.size = K := by simpa [hq] using hs
    have h0 : (0 : Int) ≤ b ∧ (b : Int) ≤ c := by omega
    have h1 : (0 : Int) ≤ a ∧ (a : Int) ≤ b := by omega
    have h2 : (sizeOf e).run P w = .ok K w := by simp [sizeOf, typeInfo, hq, hs']
    simp [Instr.sliceAt, run_underlying ht, Instr.slice, Instr.sliceBounds, Instr.sliceBound, asIntOf, h0, h1, h2, hb, hab]
theorem PS.mid {w : World} {A : Option Addr} {n c : Nat} {l : List Pr} (h : PS w (.slice A n c) l) (a b : Nat) (hab : a ≤ b) (hb : b ≤ n) : PS w (.slice (if c = a then A else A.map (·.add (a * 6))) (b - a) (c - a)) ((l.drop a).take (b - a)) := by
  obtain ⟨A', c', e, h1, h2, h3, h4⟩ := h
  injection e with e1 e2 e3
  subst e1 e2 e3
  have hl : ((l.drop a).take (b - a)).length = b - a := by simp; omega
  refine ⟨_, c - a, by rw [hl], by rw [hl]; omega, by omega, ?_, fun hne => ?_⟩
  · intro hn
    by_cases hca : c = a
    · omega
    · rw [if_neg hca] at hn
      cases A with
      | none => have := h3 rfl; omega
      | some x => cases hn
  · have hlt : a < l.length := by
      rcases Nat.lt_or_ge a l.length with h | h
      · exact h
      · rw [List.drop_of_length_le h] at hne; exact (hne (by simp)).elim
    obtain ⟨bl, off, rfl, hc⟩ := h4 (by rintro rfl; simp at hlt)
    rw [if_neg (by omega)]
    refine ⟨bl, off + a * 6, by simp [Addr.add_lit], fun k p hp => ?_⟩
    rw [List.getElem?_take] at hp
    split at hp
    · rw [List.getElem?_drop] at hp
      have := hc (a + k) p hp
      rw [Nat.add_mul, ← Nat.add_assoc] at this
      exact this
    · cases hp
theorem fnd_mid {s : List Pr} {k : List UInt8} (h : UpP s) : fnd ((s.drop (lowP s k)).take (endP s k - lowP s k)) k = fnd s k := by
  rw [fnd_low h]
  unfold endP
  cases hh : hasP s k with
  | false => simp [fnd]
  | true =>
    have hlt := hasP_lt hh
    simp only [if_true, show lowP s k + 1 - lowP s k = 1 by omega]
    have : (s[lowP s k]).k = k := by
      unfold hasP at hh
      rw [List.getElem?_eq_getElem hlt] at hh
      simpa using hh
    rw [List.drop_eq_getElem_cons hlt, List.take_succ_cons, List.take_zero, fnd, if_pos this, List.getElem?_eq_getElem hlt]
    rfl
/-- What takes a key out takes out one that is there. -/
theorem drop_has {s : List Pr} {x : Ox} (hst : St s) (hg : goodX x = true) (h1 : (mkX (fndC s x.k) x).1.k = 0) (h2 : (mkX (fndC s x.k) x).2 = 0) (hd : x.d ≠ 0) : endP s x.k = lowP s x.k + 1 := by
  have hk : (fndC s x.k).k ≠ 0 := by
    intro h0
    have h05 : 0 ≤ x.d ∧ x.d ≤ 5 := by simp [goodX] at hg; exact hg.1.1
    unfold mkX movX at h1 h2
    rw [if_neg hd] at h1 h2
    by_cases d1 : x.d = 1
    · rw [if_pos d1, h0] at h1; simp [recC] at h1
    · rw [if_neg d1] at h1 h2
      by_cases d2 : x.d = 2
      · rw [if_pos d2, h0] at h1; simp [cntC] at h1
      · rw [if_neg d2] at h1 h2
        by_cases d3 : x.d = 3
        · rw [if_pos d3, if_pos h0] at h2; simp at h2
        · rw [if_neg d3, if_pos h0] at h2; simp at h2
  unfold endP
  cases hh : hasP s x.k with
  | true => simp
  | false =>
    exfalso
    apply hk
    unfold fndC
    rw [fnd_low hst.up, hh]
    rfl
theorem po_but {w w' : World} {g M : Nat} {t : TypeId} {cs : Array Value} (hk : Whole w g t cs) (hn : ∀ u ∈ cs.toList, isU8 u = false) (hb : But g w w') {v : Value} {es : List (Pr × Value)} (h : PO w M v es) (hne : v.ownBlock ≠ some g) : PO w' M v es := by
  obtain ⟨h1, h2⟩ := h
  refine ⟨h1.imp id fun ⟨g', cap', L', e, hM, hk'⟩ => ⟨g', cap', L', e, hM, hk'.kept (hb.block g' hk'.lt fun e' => hne ?_)⟩, fun x hx => sv_blk' hk hn (h2 x hx) hb⟩
  rw [e]; exact e'
theorem zA_nu : ∀ u ∈ (#[.int .i64 0, .int .i64 0, .slice none 0 0, .int .i64 0, .int .i64 0, .int .i64 0] : Array Value).toList, isU8 u = false := by
  intro u hu
  simp at hu
  rcases hu with rfl | rfl | rfl <;> rfl
theorem grown3 {w w9 w10 w11 : World} {row : Option Nat} {g : Nat} (hb : Below w.heap.size w w9) (hg : w9.grownBy w10 row) (hs : But g w10 w11) (hw : w.heap.size ≤ g) : w.grownBy w11 row :=
  ⟨hs.os.trans (hg.os.trans hb.os), hs.tape.trans (hg.tape.trans hb.tape), hs.output.trans (hg.output.trans hb.output), Nat.le_trans hb.size (Nat.le_trans hg.size hs.size), fun k hk hne =>
    (hs.block k (Nat.lt_of_lt_of_le hk (Nat.le_trans hb.size hg.size)) (fun e => by injection e with e; omega)).trans ((hg.block k (Nat.lt_of_lt_of_le hk hb.size) hne).trans (hb.block k hk))⟩
theorem alone_none (k : List UInt8) (A : Option Addr) (n m : Nat) (c : Cl) (w : World) (h0 : c.k = 0) : Calls Tryd.prog 47 #[kst k, cv (.slice A n m) c] w fun e w' => e = .returned (.slice none 0 0) ∧ Below w.heap.size w w' := by
  unfold kst cv
  go_enter Tryd.func47, Tryd.ntmps47
  go_wp2
  go_ret
  exact ⟨rfl, (Below.refl _ _).alloc (Nat.le_refl _) _⟩
/-- What is left to tell behind a Replace. -/
theorem step_end {w w9 w10 : World} {M : Nat} {v v' : Value} {es es' : List (Pr × Value)} {s : List Pr} {x : Ox} {cs : Array Value} (hP : PO w M v es) (hb : Below w.heap.size w w9) (h9 : w.heap.size + 1 < w9.heap.size) (hp : PO w10 M v' es') (hg : w9.grownBy w10 v.ownBlock) (ho : v'.ownBlock = v.ownBlock ∨ ∃ k, v'.ownBlock = some k ∧ w9.heap.size ≤ k) (h5 : Whole w9 (w.heap.size + 1) 56 cs)
    (hn : ∀ u ∈ cs.toList, isU8 u = false) (e : stepX s x = (es'.map (·.1), ⟨0, zeroC⟩)) (l : Array Value) : Stepped M v s x w (.returned (.tuple #[v', .agg #[.int .i64 0, .int .i64 0, .slice none 0 0, .int .i64 0, .int .i64 0, .int .i64 0]])) (w10.setRow (w.heap.size + 1) l) := by
  have hv : ∀ g, v.ownBlock = some g → g < w.heap.size := fun g h => (hP.lt h).2
  have h10 : Whole w10 (w.heap.size + 1) 56 cs := (hg.block _ h9 (fun e => by have := hv _ e.symm; omega)).trans h5
  refine ⟨v', es', .slice none 0 0, by rw [e]; rfl, by rw [e], po_but h10 hn (but_setRow _ _ _) hp ?_, by rw [e]; exact SV.nil _, grown3 hb hg (but_setRow _ _ _) (by omega), ho.imp id fun ⟨k, h1, h2⟩ => ⟨k, h1, by omega⟩⟩
  intro h
  rcases ho with h1 | ⟨k, h1, h2⟩
  · rw [h1] at h; have := hv _ h; omega
  · rw [h1] at h; injection h with h; omega
theorem map_one {es : List (Pr × Value)} {p : Pr} (h : es.map (·.1) = [p]) : ∃ x, es = [x] ∧ x.1 = p := by
  cases es with
  | nil => cases h
  | cons y l =>
    cases l with
    | nil => exact ⟨y, rfl, by simpa using h⟩
    | cons z l => simp at h
theorem found_as {l s : List Pr} {k : List UInt8} (h : fnd l k = fnd s k) {f : FuncId} {args : Array Value} {w : World} (hc : Calls Tryd.prog f args w (Found l k w)) : Calls Tryd.prog f args w (Found s k w) := by
  refine hc.mono ?_
  intro e w' hf
  unfold Found fndC at hf ⊢
  rw [h] at hf
  exact hf
theorem set5 {w : World} {g : Nat} {t : TypeId} {z0 z1 z2 z3 z4 : Value} (h : Whole w g t #[z0, z1, z2, z3, z4]) (a b c d e : Value) :
    Whole (((((w.setCell ⟨g, 0, none⟩ a).setCell ⟨g, 1, none⟩ b).setCell ⟨g, 2, none⟩ c).setCell ⟨g, 3, none⟩ d).setCell ⟨g, 4, none⟩ e) g t #[a, b, c, d, e] ∧ But g w (((((w.setCell ⟨g, 0, none⟩ a).setCell ⟨g, 1, none⟩ b).setCell ⟨g, 2, none⟩ c).setCell ⟨g, 3, none⟩ d).setCell ⟨g, 4, none⟩ e) :=
  ⟨((((h.put 0 a).put 1 b).put 2 c).put 3 d).put 4 e, ((((But.set g w 0 a).trans (But.set g _ 1 b)).trans (But.set g _ 2 c)).trans (But.set g _ 3 d)).trans (But.set g _ 4 e)⟩
theorem set6 {w : World} {g : Nat} {t : TypeId} {z0 z1 z2 z3 z4 z5 : Value} (h : Whole w g t #[z0, z1, z2, z3, z4, z5]) (a b c d e f : Value) :
    Whole ((((((w.setCell ⟨g, 0, none⟩ a).setCell ⟨g, 1, none⟩ b).setCell ⟨g, 2, none⟩ c).setCell ⟨g, 3, none⟩ d).setCell ⟨g, 4, none⟩ e).setCell ⟨g, 5, none⟩ f) g t #[a, b, c, d, e, f] ∧ But g w ((((((w.setCell ⟨g, 0, none⟩ a).setCell ⟨g, 1, none⟩ b).setCell ⟨g, 2, none⟩ c).setCell ⟨g, 3, none⟩ d).setCell ⟨g, 4, none⟩ e).setCell ⟨g, 5, none⟩ f) :=
  ⟨(((((h.put 0 a).put 1 b).put 2 c).put 3 d).put 4 e).put 5 f, (((((But.set g w 0 a).trans (But.set g _ 1 b)).trans (But.set g _ 2 c)).trans (But.set g _ 3 d)).trans (But.set g _ 4 e)).trans (But.set g _ 5 f)⟩
/-- A variable that was made ahead of a call is stored into behind it. -/
theorem made_on {w w5 : World} (b5 : Below ((w.alloc (.cells #[.int .i64 0, .slice none 0 0, .int .i64 0, .int .i64 0, .int .i64 0] 36)).drew).heap.size (w.alloc (.cells #[.int .i64 0, .slice none 0 0, .int .i64 0, .int .i64 0, .int .i64 0] 36)).drew w5) :
    Whole w5 w.heap.size 36 #[.int .i64 0, .slice none 0 0, .int .i64 0, .int .i64 0, .int .i64 0] ∧ Below w.heap.size w w5 := by
  refine ⟨(show Whole (w.alloc _).drew w.heap.size 36 _ from Whole.made w _ _).on b5, ?_⟩
  exact (((Below.refl w.heap.size w).alloc (Nat.le_refl _) _).trans (show Below w.heap.size (w.alloc _) (w.alloc _).drew from ⟨rfl, rfl, rfl, Nat.le_refl _, fun _ _ => rfl⟩)).trans (b5.mono (by simp))
end Go.Proofs.YtlpgmmcdcjkkiaaDoor
