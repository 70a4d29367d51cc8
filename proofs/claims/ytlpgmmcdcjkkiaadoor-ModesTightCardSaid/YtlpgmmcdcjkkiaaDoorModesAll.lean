/- Joined: ModelRunL ModelRunA ModesMath ModesVar ModesRef Modes ModesLaws. -/
import Derived.Test.YtlpgmmcdcjkkiaaDoorModelRun
import Derived.Test.YtlpgmmcdcjkkiaaDoorModelOps
import Derived.Laws.MakeOwn
import Derived.Test.YtlpgmmcdcjkkiaaDoorModelMath
import Derived.Test.YtlpgmmcdcjkkiaaDoorCell
import Derived.LaidLaws
import Derived.ChangeArms
import Derived.FnData
import Derived.Test.YtlpgmmcdcjkkiaaDoorModelRef3
import Derived.Test.YtlpgmmcdcjkkiaaDoorModelRStep
import Derived.Test.YtlpgmmcdcjkkiaaDoorModelLook
/- Run: many steps, one behind the other; the program's. -/
namespace Go.Proofs.YtlpgmmcdcjkkiaaDoor
set_option maxRecDepth 20000
open Go.RowKit Go.Sort

theorem num_1 : -9223372036854775808 ≤ (1 : Int) ∧ (1 : Int) ≤ 9223372036854775807 := ⟨by decide, by decide⟩
theorem num_2 : -9223372036854775808 ≤ (2 : Int) ∧ (2 : Int) ≤ 9223372036854775807 := ⟨by decide, by decide⟩
theorem mov_in64 {c : Cl} {v : Int} (hc : in64c c) : in64c (movX c v).1 := by
  have hz : in64c zeroC := by refine ⟨?_, ?_, ?_, ?_⟩ <;> exact ⟨by decide, by decide⟩
  unfold movX
  split
  · exact hz
  · split
    · exact hz
    · split
      · rename_i h
        have h2 := inB_yes h
        obtain ⟨h3, h4, h5, h6⟩ := hc
        have h7 : -9223372036854775808 ≤ v ∧ v ≤ 9223372036854775807 := ⟨by omega, by omega⟩
        exact ⟨num_2, h4, h5, h7⟩
      · exact hz
theorem mk_in64 {c : Cl} {x : Ox} (hc : in64c c) (hx : in64x x) : in64c (mkX c x).1 := by
  have hz : in64c zeroC := by refine ⟨?_, ?_, ?_, ?_⟩ <;> exact ⟨by decide, by decide⟩
  unfold mkX
  split
  · split
    · exact hz
    · exact hc
  · split
    · split
      · exact hz
      · exact ⟨num_1, hz.2.1, hz.2.2.1, hz.2.2.2⟩
    · split
      · split
        · exact ⟨num_2, hx.2.1, hx.2.2.1, hx.2.2.2⟩
        · exact hz
      · split
        · split
          · exact hz
          · exact hz
        · exact mov_in64 hc
theorem fnd_in64 {s : List Pr} (h : ∀ p ∈ s, in64c p.c) (k : List UInt8) : in64c (fndC s k) := by
  unfold fndC
  cases hf : fnd s k with
  | none => refine ⟨?_, ?_, ?_, ?_⟩ <;> exact ⟨by decide, by decide⟩
  | some c => exact h _ (fnd_mem hf)
theorem step_in64 {s : List Pr} {x : Ox} (h : ∀ p ∈ s, in64c p.c) (hx : in64x x) : ∀ p ∈ (stepX s x).1, in64c p.c := by
  unfold stepX
  split
  · split
    · exact h
    · split
      · exact h
      · intro p hp
        simp only [putS] at hp
        rcases List.mem_append.1 hp with hp | hp
        · exact h p (List.mem_of_mem_take hp)
        · rcases List.mem_append.1 hp with hp | hp
          · unfold one at hp
            split at hp
            · cases hp
            · simp at hp
              subst hp
              exact mk_in64 (fnd_in64 h _) hx
          · exact h p (List.mem_of_mem_drop hp)
  · exact h
theorem run_in64 : ∀ (l : List Ox) {s : List Pr}, (∀ p ∈ s, in64c p.c) → (∀ x ∈ l, in64x x) → ∀ p ∈ runX s l, in64c p.c
  | [], _, h, _ => h
  | x :: l, _, h, hl => run_in64 l (step_in64 h (hl x List.mem_cons_self)) fun y hy => hl y (List.mem_cons_of_mem _ hy)

/-! ### Rows of answers -/
def zAns : Array Value := #[.int .i64 0, .int .i64 0, .slice none 0 0, .int .i64 0, .int .i64 0, .int .i64 0]
theorem Tryd.ians : (Tryd.prog.info? 56).map (fun i => (i.zero, i.size, i.bytes)) = some (some (.agg zAns), 6, 64) := by kernel_rfl
theorem zAns_get (i : Nat) (h : i < 6) : isU8 zAns[i]! = false := by
  have : i = 0 ∨ i = 1 ∨ i = 2 ∨ i = 3 ∨ i = 4 ∨ i = 5 := by omega
  rcases this with rfl | rfl | rfl | rfl | rfl | rfl <;> rfl
/-- A row of n answers, without bytes. -/
def Told (w : World) (g n : Nat) : Prop := ∃ L : List Value, w.heap[g]? = some (.cells L.toArray 56 (0, 0)) ∧ L.length = n * 6 ∧ ∀ u ∈ L, isU8 u = false
theorem Told.lt {w : World} {g n : Nat} (h : Told w g n) : g < w.heap.size := by
  obtain ⟨L, h1, _⟩ := h
  exact (Array.getElem?_eq_some_iff.1 h1).1
theorem Told.kept {w w' : World} {g n : Nat} (h : Told w g n) (hb : w'.heap[g]? = w.heap[g]?) : Told w' g n := by
  obtain ⟨L, h1, h2⟩ := h
  exact ⟨L, hb.trans h1, h2⟩
theorem Told.on {w w' : World} {g n : Nat} (h : Told w g n) (hb : Below w.heap.size w w') : Told w' g n := h.kept (hb.block g h.lt)
theorem wpList_told {ops : Array Oper} {rest : List Oper} {o : Oper} {a : Act} {Q : Exit → Act → World → Prop} {w : World} (hw : Region.wanted o (yielded ops a.tmps) = true) (x y : Operand) (ho : o.op = .makeSlice 49 x y) (n : Nat) (kl kc : IntKind) (hx : a.eval x = .int kl (n : Int)) (hy : a.eval y = .int kc (n : Int)) (hn : n ≤ 1000000)
    (h : ∀ w', Hid (Told w' w.heap.size n) → Hid (Below w.heap.size w w') → wpList Tryd.prog ops Q rest (a.put o.dst (.slice (some ⟨w.heap.size, 0, none⟩) n n)) w') : wpList Tryd.prog ops Q (o :: rest) a w := by
  obtain ⟨i, hi, hz0, hz1, hz2⟩ := info_parts Tryd.ians
  have hr := run_makeSlice (P := Tryd.prog) w 49 56 i (.agg zAns) Tryd.underlying49 hi hz0 kl kc n n (by omega) (Int.le_refl _) (by rw [hz1]; simp; omega) (by rw [hz2]; omega) (by omega)
  rw [Int.toNat_natCast, hz1] at hr
  refine wpList_runx hw _ _ ?_ (h (w.alloc (.cells (madeCells zAns (n * 6)) 56)) (Lib.hid ?_) (Lib.hid ((Below.refl _ _).alloc (Nat.le_refl _) _)))
  · unfold execOp
    simp only [ho, hx, hy, hr, Sem.run_bind, Sem.run_pure, Result.andThen_ok]
    rfl
  · refine ⟨(madeCells zAns (n * 6)).toList, ?_, by rw [Array.length_toList, size_madeCells], fun u hu => ?_⟩
    · have := heap_alloc_new w (.cells (madeCells zAns (n * 6)) 56)
      simpa using this
    · simp only [madeCells, Array.toList_map, List.mem_map] at hu
      obtain ⟨j, _, rfl⟩ := hu
      exact zAns_get _ (Nat.mod_lt _ (by decide))
theorem wpList_tell {P : Program} {ops : Array Oper} {rest : List Oper} {o : Oper} {a : Act} {w : World} {Q : Exit → Act → World → Prop} (hgd : o.guard = none) (ty : TypeId) (x y : Operand) (ho : o.op = .store ty x y)
    (g n k off : Nat) (cs : List Value) (hx : a.eval x = .pointer (some ⟨g, off, none⟩)) (hy : a.eval y = .agg cs.toArray) (hoff : off = k * 6) (hk : k < n) (hl : cs.length = 6) (hg : Told w g n) (hs : (P.info? ty).map (·.size) = some 6) (h1 : ∀ v ∈ cs, v.oneCell' = true) (h2 : ∀ v ∈ cs, isU8 v = false)
    (h : ∀ w', Hid (Told w' g n) → Hid (But g w w') → wpList P ops Q rest (a.put o.dst undef) w') : wpList P ops Q (o :: rest) a w :=
  wpList_plain hgd fun K hK => by
    obtain ⟨L, q1, q2, q3⟩ := hg
    subst hoff
    have hfit : k * 6 + cs.length ≤ L.length := by rw [hl, q2]; omega
    obtain ⟨w', hst, g2, g3⟩ := run_storeRow (P := P) w g (k * 6) _ L cs q1 hfit h1
    have hT : Told w' g n := ⟨_, g2, (length_splice _ _ _ hfit).trans q2, fun u hu => (mem_splice hu).elim (q3 u) (h2 u)⟩
    have h5 := hK _ _ (h w' (Lib.hid hT) (Lib.hid g3))
    cases hq : P.info? ty with
    | none => simp [hq] at hs
    | some inf =>
      have hs' : inf.size = 6 := by simpa [hq] using hs
      have h3 : (sizeOf ty).run P w = .ok 6 w := by simp [sizeOf, typeInfo, hq, hs']
      unfold Oper.wp execOp
      simp only [ho, hx, hy, Instr.storeAt, Instr.sureAddr, Sem.run_bind, Sem.run_pure, Result.andThen_ok, storeVar, h3, Value.cells, List.size_toArray, hl, ne_eq, not_true_eq_false, if_false, hst]
      exact h5
/-- A slice of pairs of the call's own, and a row of answers. -/
theorem po_told {w w' : World} {g n M : Nat} (hk : Told w g n) (hb : But g w w') {v : Value} {es : List (Pr × Value)} (h : PO w M v es) (hne : v.ownBlock ≠ some g) : PO w' M v es := by
  obtain ⟨L, q1, q2, q3⟩ := hk
  exact po_but (t := 56) (cs := L.toArray) q1 (fun u hu => q3 u (by simpa using hu)) hb h hne
/-- What Run comes to. -/
def Ran (s : List Pr) (l : List Ox) (w : World) (e : Ending) (w' : World) : Prop :=
  ∃ v' T, e = .returned (.tuple #[v', .slice T l.length l.length]) ∧ PS w' v' (runX s l) ∧ Below w.heap.size w w'
theorem ans_one (a b : Int) (A : Option Addr) (n c : Nat) (d e f : Int) : ∀ v ∈ [Value.int .i64 a, .int .i64 b, .slice A n c, .int .i64 d, .int .i64 e, .int .i64 f], v.oneCell' = true := by
  intro v hv
  simp at hv
  rcases hv with rfl | rfl | rfl | rfl | rfl | rfl <;> rfl
theorem ans_nu (a b : Int) (A : Option Addr) (n c : Nat) (d e f : Int) : ∀ v ∈ [Value.int .i64 a, .int .i64 b, .slice A n c, .int .i64 d, .int .i64 e, .int .i64 f], isU8 v = false := by
  intro v hv
  simp at hv
  rcases hv with rfl | rfl | rfl | rfl | rfl | rfl <;> rfl
theorem own_far {w : World} {v v' : Value} {g : Nat} (h : v.ownBlock ≠ some g) (ho : v'.ownBlock = v.ownBlock ∨ ∃ k, v'.ownBlock = some k ∧ w.heap.size ≤ k) (hg : g < w.heap.size) : v'.ownBlock ≠ some g := by
  rcases ho with ho | ⟨k, ho, hk⟩
  · rw [ho]; exact h
  · rw [ho]
    intro e
    injection e with e
    omega
/-- What a state's step asks of it. -/
theorem run_facts {s : List Pr} {l : List Ox} (hst : St s) (h64 : ∀ p ∈ s, in64c p.c) (hl : l.length ≤ 60) (hs : s.length ≤ 60) (hlx : ∀ x ∈ l, in64x x) (j : Nat) : St (runX s (l.take j)) ∧ (∀ p ∈ runX s (l.take j), in64c p.c) ∧ (runX s (l.take j)).length ≤ 100000 := by
  refine ⟨run_st _ hst, run_in64 _ h64 fun x hx => hlx x (List.mem_of_mem_take hx), ?_⟩
  have := run_len (l.take j) s
  have h2 : (l.take j).length ≤ l.length := by simp; omega
  omega
set_option maxHeartbeats 2000000 in
theorem run9_any (w : World) (v u : Value) (s : List Pr) (l : List Ox) (hv : PS w v s) (hu : OS w u l) (hst : St s) (h64 : ∀ p ∈ s, in64c p.c) (hl : l.length ≤ 60) (hs : s.length ≤ 60) (hlx : ∀ x ∈ l, in64x x) (hlb : ∀ x ∈ l, x.k.length ≤ 300 ∧ x.b.length ≤ 300) :
    Calls Tryd.prog 27 #[v, u] w (Ran s l w) := by
  obtain ⟨Av, cv', rfl⟩ := hv.slice
  obtain ⟨Au, cu, rfl⟩ := hu.slice
  have l3 := hu.bd.2
  have CC := Lib.hid (copied_any _ s w hv (by omega) (st_small hst))
  have CS := fun j x A n c (hx : l[j]? = some x) w' M v1 es (hp : PO w' M v1 es) (he : es.map (·.1) = runX s (l.take j)) (hsv : SV w' (.slice A n c) (bys x.b)) (hM : M ≤ w'.heap.size) => step9_any w' M v1 es (runX s (l.take j)) A n c x hp he (run_facts hst h64 hl hs hlx j).1 (run_facts hst h64 hl hs hlx j).2.1 hsv (by have := (hlb x (List.mem_of_getElem? hx)).2; omega) (by have := (hlb x (List.mem_of_getElem? hx)).1; omega) (hlx x (List.mem_of_getElem? hx)) (run_facts hst h64 hl hs hlx j).2.2 hM
  unfold Stepped at CS
  unfold ov kst at CS
  replace CS := Lib.hid CS
  have HU := Lib.hid hu
  have HL := Lib.hid (show l.length ≤ 1000000 by omega)
  clear hv hu hst h64 hs hlx hlb
  go_enter Tryd.func27, Tryd.ntmps27
  go_wp2_with fail
  refine CC.out.mono ?_
  rintro e w1 ⟨v1, es1, rfl, he1, hp1, b1⟩
  have hne1 := Lib.hid (show v1.ownBlock ≠ some w1.heap.size from fun h => by have := (hp1.lt h).2; omega)
  have hwg := Lib.hid b1.size
  replace he1 := Lib.hid he1
  replace hp1 := Lib.hid hp1
  replace b1 := Lib.hid b1
  clear CC
  go_wp2_with (show wpList _ _ _ (Oper.mk _ (.makeSlice _ _ _) _ _ _ _ :: _) _ _; refine wpList_told rfl (.tmp 12) (.tmp 12) rfl l.length _ _ rfl rfl HL.out ?_; intro w2 hT b2; replace hp1 := Lib.hid (hp1.out.on b2.out); replace b1 := Lib.hid (b1.out.trans (b2.out.mono b1.out.size)); clear b2)
  generalize w1.heap.size = g at *
  go_loopw [0, 16] (fun vs i wr => ∃ (j : Nat) (es : List (Pr × Value)), j ≤ l.length ∧ i = .int .i64 j ∧ Hid (es.map (·.1) = runX s (l.take j)) ∧ Hid (PO wr w.heap.size vs es) ∧ Hid (vs.ownBlock ≠ some g) ∧ Hid (Told wr g l.length) ∧ Hid (Below w.heap.size w wr)) (fun _ i _ => l.length - (intOf i).toNat)
  case atStart => exact ⟨0, es1, by omega, rfl, he1, hp1, hne1, hT, b1⟩
  case round =>
    clear he1 hp1 hne1 hT b1
    obtain ⟨j, es, hj, rfl, he, hp, hne, hT, hB⟩ := hrel
    by_cases hlt : j < l.length
    · obtain ⟨b, off, x, Ad, cd, rfl, hx, c0, c1, c2, c3, c4, c5, hd⟩ := OS.at6 (HU.out.keep (Keeps.below hB.out)) hlt
      have CJ := Lib.hid (CS.out j x Ad x.b.length cd hx)
      have hnx := Lib.hid (run_next l s j x hx)
      replace hd := Lib.hid hd
      clear hx CS
      generalize stepX (runX s (l.take j)) x = r at *
      go_wp2_with (first
        | (show wpList _ _ _ (Oper.mk _ (.store _ (.tmp 8) _) _ _ _ _ :: _) _ _; refine wpList_store_row rfl _ (.tmp 8) (.tmp 20) rfl (wr).heap.size _ rfl rfl _ _ (Whole.made (wr) _ _) (by kernel_rfl) rfl (by simp [Value.oneCell']) ?_; rw [World.setRow_alloc_new]; generalize hW : World.alloc _ _ = w4; have p8 := Lib.hid (made_eq hW).1; have b4 := Lib.hid (made_eq hW).2; clear hW; replace hp := Lib.hid (hp.out.on b4.out); replace hd := Lib.hid (hd.out.keep (Keeps.below b4.out)); replace hT := Lib.hid (hT.out.on b4.out); have B4 := Lib.hid (hB.out.trans (b4.out.mono hB.out.size)); clear b4)
        | (show wpList _ _ _ (Oper.mk _ (.load _ (.tmp 8)) _ _ _ _ :: _) _ _; refine wpList_load_row rfl 24 (.tmp 8) rfl (wr.heap.size) rfl _ _ _ _ (p8.out) Tryd.underlying24 rfl (by kernel_rfl) ?_))
      refine (CJ.out w4 _ _ es hp.out he.out hd.out B4.out.size).mono ?_
      rintro e w5 ⟨v5, es5, D5, rfl, he5, hp5, hd5, hg5, ho5⟩
      obtain ⟨A1, n1, d1, rfl⟩ := sv_sl hd5
      have hT5 := Lib.hid (hT.out.kept (hg5.block g hT.out.lt (fun e => hne.out e.symm)))
      have B5 := Lib.hid (B4.out.grown hg5 B4.out.size fun k hk => (hp.out.lt hk).1)
      have hne5 := Lib.hid (own_far hne.out ho5 hT.out.lt)
      replace he5 := Lib.hid he5
      replace hp5 := Lib.hid hp5
      clear hd5 hg5 ho5 hT hp hd hne B4 CJ c0 c1 c2 c3 c4 c5
      unfold av
      go_wp2_with (show wpList _ _ _ (Oper.mk _ (.store _ (.tmp 29) _) _ _ _ _ :: _) _ _; refine wpList_tell rfl _ (.tmp 29) (.tmp 28) rfl g l.length j _ [.int .i64 r.2.e, .int .i64 r.2.c.k, .slice A1 n1 d1, .int .i64 r.2.c.lo, .int .i64 r.2.c.hi, .int .i64 r.2.c.v] rfl rfl (by omega) hlt rfl hT5.out (by kernel_rfl) (ans_one _ _ _ _ _ _ _ _) (ans_nu _ _ _ _ _ _ _ _) ?_; intro w6 hT6 hb6)
      go_roundw
      case rel => exact ⟨j + 1, es5, by omega, by go_num, Lib.hid (by rw [he5.out, hnx.out]), Lib.hid (po_told hT5.out hb6.out hp5.out hne5.out), hne5, hT6, Lib.hid (But.below B5.out hb6.out hwg.out B5.out.size)⟩
      case measure => simp [intOf]; omega
    · obtain rfl : j = l.length := by omega
      have hfin := Lib.hid (show es.map (·.1) = runX s l by rw [he.out, List.take_length])
      go_wp2
      go_ret2
      exact ⟨_, some ⟨g, 0, none⟩, rfl, hfin.out ▸ hp.out.ps, hB.out⟩
end Go.Proofs.YtlpgmmcdcjkkiaaDoor
/- Run: many steps, one behind the other; what each of them tells. -/
namespace Go.Proofs.YtlpgmmcdcjkkiaaDoor
set_option maxRecDepth 20000
open Go.RowKit Go.Sort

/-- What many steps tell. -/
def anssX (s : List Pr) : List Ox → List An
  | [] => []
  | x :: l => (stepX s x).2 :: anssX (stepX s x).1 l
theorem ans_len : ∀ (l : List Ox) (s : List Pr), (anssX s l).length = l.length
  | [], _ => rfl
  | x :: l, s => by simp [anssX, ans_len l]
theorem ans_next : ∀ (l : List Ox) (s : List Pr) (j : Nat) (x : Ox), l[j]? = some x → anssX s (l.take (j + 1)) = anssX s (l.take j) ++ [(stepX (runX s (l.take j)) x).2]
  | [], _, j, x, h => by simp at h
  | y :: l, s, 0, x, h => by
    simp at h
    subst h
    simp [anssX, runX]
  | y :: l, s, j + 1, x, h => by
    simp only [List.getElem?_cons_succ] at h
    rw [List.take_succ_cons, List.take_succ_cons, anssX, anssX, ans_next l _ j x h, runX]
    rfl
/-- The cells of an answer. -/
def acs (a : An) (D : Value) : List Value := [.int .i64 a.e, .int .i64 a.c.k, D, .int .i64 a.c.lo, .int .i64 a.c.hi, .int .i64 a.c.v]
theorem acs_one {w : World} {a : An} {D : Value} (h : SV w D (bys a.c.d)) : ∀ v ∈ acs a D, v.oneCell' = true := by
  intro v hv
  simp [acs] at hv
  rcases hv with rfl | rfl | rfl | rfl | rfl | rfl <;> first | rfl | exact h.one
theorem acs_nu {w : World} {a : An} {D : Value} (h : SV w D (bys a.c.d)) : ∀ v ∈ acs a D, isU8 v = false := by
  intro v hv
  simp [acs] at hv
  rcases hv with rfl | rfl | rfl | rfl | rfl | rfl <;> first | rfl | exact h.nu
def flatA (az : List (An × Value)) : List Value := az.flatMap fun x => acs x.1 x.2
theorem flatA_len : ∀ az : List (An × Value), (flatA az).length = az.length * 6
  | [] => rfl
  | x :: az => by
    have := flatA_len az
    simp only [flatA, List.flatMap_cons, List.length_append, List.length_cons] at this ⊢
    rw [this]
    simp [acs]
    omega
theorem flatA_get : ∀ (az : List (An × Value)) (k : Nat) (x : An × Value), az[k]? = some x → ∀ (j : Nat) (u : Value), (acs x.1 x.2)[j]? = some u → (flatA az)[k * 6 + j]? = some u
  | [], k, x, h, _, _, _ => by simp at h
  | y :: az, 0, x, h, j, u, hu => by
    simp at h
    subst h
    have hj : j < (acs y.1 y.2).length := (List.getElem?_eq_some_iff.1 hu).1
    rw [flatA, List.flatMap_cons, List.getElem?_append_left (by omega)]
    simpa using hu
  | y :: az, k + 1, x, h, j, u, hu => by
    simp only [List.getElem?_cons_succ] at h
    have := flatA_get az k x h j u hu
    rw [flatA, List.flatMap_cons, List.getElem?_append_right (by simp [acs]; omega), show (k + 1) * 6 + j - (acs y.1 y.2).length = k * 6 + j by simp [acs]; omega]
    exact this
/-- A row of n answers, of which the first are known. -/
def Tolds (w : World) (g n : Nat) (az : List (An × Value)) : Prop :=
  (∃ L : List Value, w.heap[g]? = some (.cells L.toArray 56 (0, 0)) ∧ L.length = n * 6 ∧ (∀ u ∈ L, isU8 u = false) ∧ az.length ≤ n ∧ L.take (az.length * 6) = flatA az) ∧ ∀ x ∈ az, SV w x.2 (bys x.1.c.d)
theorem Tolds.told {w : World} {g n : Nat} {az : List (An × Value)} (h : Tolds w g n az) : Told w g n := by
  obtain ⟨⟨L, h1, h2, h3, _⟩, _⟩ := h
  exact ⟨L, h1, h2, h3⟩
theorem Told.none {w : World} {g n : Nat} (h : Told w g n) : Tolds w g n [] := by
  obtain ⟨L, h1, h2, h3⟩ := h
  exact ⟨⟨L, h1, h2, h3, Nat.zero_le _, rfl⟩, fun x hx => by cases hx⟩
theorem Tolds.on {w w' : World} {g n : Nat} {az : List (An × Value)} (h : Tolds w g n az) (hb : Below w.heap.size w w') : Tolds w' g n az := by
  have hlt := h.told.lt
  obtain ⟨⟨L, h1, h2⟩, h4⟩ := h
  exact ⟨⟨L, (hb.block g hlt).trans h1, h2⟩, fun x hx => (h4 x hx).keep (Keeps.below hb)⟩
/-- Bytes stay over what a step does to its own pairs. -/
theorem sv_grown {w w' : World} {M : Nat} {v : Value} {es : List (Pr × Value)} (hp : PO w M v es) (hg : w.grownBy w' v.ownBlock) {D : Value} {l : List UInt8} (h : SV w D (bys l)) : SV w' D (bys l) := by
  obtain ⟨⟨rfl, rfl⟩ | ⟨g, cap, L, rfl, hM, hk⟩, _⟩ := hp
  · exact h.keep (Keeps.below ⟨hg.os, hg.tape, hg.output, hg.size, fun k hk => hg.block k hk (by simp [Value.ownBlock])⟩)
  · exact sv_blk hk hg h
theorem Tolds.grown {w w' : World} {M : Nat} {v : Value} {es : List (Pr × Value)} (hp : PO w M v es) (hg : w.grownBy w' v.ownBlock) {g n : Nat} (hne : v.ownBlock ≠ some g) {az : List (An × Value)} (h : Tolds w g n az) : Tolds w' g n az := by
  have hlt := h.told.lt
  obtain ⟨⟨L, h1, h2⟩, h4⟩ := h
  exact ⟨⟨L, (hg.block g hlt fun e => hne e.symm).trans h1, h2⟩, fun x hx => sv_grown hp hg (h4 x hx)⟩
/-- The cells of an answer of the row. -/
theorem Tolds.at {w : World} {g n : Nat} {az : List (An × Value)} (h : Tolds w g n az) {k : Nat} {x : An × Value} (hk : az[k]? = some x) : w.rangeAt g (k * 6) (acs x.1 x.2) ∧ SV w x.2 (bys x.1.c.d) := by
  obtain ⟨⟨L, h1, h2, h3, h5, h6⟩, h4⟩ := h
  refine ⟨fun j u hu => ?_, h4 x (List.mem_of_getElem? hk)⟩
  rw [cell_of_row w g (k * 6 + j) _ _ _ h1]
  have := flatA_get az k x hk j u hu
  rw [← h6, List.getElem?_take] at this
  split at this
  · simpa using this
  · cases this
theorem wpList_tells {P : Program} {ops : Array Oper} {rest : List Oper} {o : Oper} {a : Act} {w : World} {Q : Exit → Act → World → Prop} (hgd : o.guard = none) (ty : TypeId) (x y : Operand) (ho : o.op = .store ty x y)
    (g n off : Nat) (az : List (An × Value)) (b : An) (D : Value) (hx : a.eval x = .pointer (some ⟨g, off, none⟩)) (hy : a.eval y = .agg (acs b D).toArray) (hoff : off = az.length * 6) (hk : az.length < n) (hg : Tolds w g n az) (hD : SV w D (bys b.c.d)) (hs : (P.info? ty).map (·.size) = some 6)
    (h : ∀ w', Hid (Tolds w' g n (az ++ [(b, D)])) → Hid (But g w w') → wpList P ops Q rest (a.put o.dst undef) w') : wpList P ops Q (o :: rest) a w :=
  wpList_plain hgd fun K hK => by
    obtain ⟨⟨L, q1, q2, q3, q4, q5⟩, q6⟩ := hg
    subst hoff
    have hl : (acs b D).length = 6 := rfl
    have hfit : az.length * 6 + (acs b D).length ≤ L.length := by rw [hl, q2]; omega
    obtain ⟨w', hst, g2, g3⟩ := run_storeRow (P := P) w g (az.length * 6) _ L (acs b D) q1 hfit (acs_one hD)
    have hb : ∀ {v l}, SV w v (bys l) → SV w' v (bys l) := fun h => sv_but h q1 g3 (List.all_eq_true.2 fun u hu => by rw [List.toList_toArray] at hu; rw [q3 u hu]; rfl)
    have hT : Tolds w' g n (az ++ [(b, D)]) := by
      refine ⟨⟨_, g2, (length_splice _ _ _ hfit).trans q2, fun u hu => (mem_splice hu).elim (q3 u) (acs_nu hD u), by simp; omega, ?_⟩, fun p hp => ?_⟩
      · rw [take_splice_all L _ _ _ (by simp [hl]; omega) hfit, q5]
        simp [flatA]
      · rcases List.mem_append.1 hp with hp | hp
        · exact hb (q6 p hp)
        · simp at hp
          subst hp
          exact hb hD
    have h5 := hK _ _ (h w' (Lib.hid hT) (Lib.hid g3))
    cases hq : P.info? ty with
    | none => simp [hq] at hs
    | some inf =>
      have hs' : inf.size = 6 := by simpa [hq] using hs
      have h3 : (sizeOf ty).run P w = .ok 6 w := by simp [sizeOf, typeInfo, hq, hs']
      unfold Oper.wp execOp
      simp only [ho, hx, hy, Instr.storeAt, Instr.sureAddr, Sem.run_bind, Sem.run_pure, Result.andThen_ok, storeVar, h3, Value.cells, List.size_toArray, hl, ne_eq, not_true_eq_false, if_false, hst]
      exact h5
/-- What Run comes to. -/
def Rans (s : List Pr) (l : List Ox) (w : World) (e : Ending) (w' : World) : Prop :=
  ∃ v' g az, e = .returned (.tuple #[v', .slice (some ⟨g, 0, none⟩) l.length l.length]) ∧ PS w' v' (runX s l) ∧ az.map (·.1) = anssX s l ∧ Tolds w' g l.length az ∧ Below w.heap.size w w'
/-- What a state's step asks of it. -/
theorem runs_facts {s : List Pr} {l : List Ox} (hst : St s) (h64 : ∀ p ∈ s, in64c p.c) (hl : l.length ≤ 10000) (hs : s.length ≤ 10000) (hlx : ∀ x ∈ l, in64x x) (j : Nat) : St (runX s (l.take j)) ∧ (∀ p ∈ runX s (l.take j), in64c p.c) ∧ (runX s (l.take j)).length ≤ 100000 := by
  refine ⟨run_st _ hst, run_in64 _ h64 fun x hx => hlx x (List.mem_of_mem_take hx), ?_⟩
  have := run_len (l.take j) s
  have h2 : (l.take j).length ≤ l.length := by simp; omega
  omega
set_option maxHeartbeats 2000000 in
theorem runs9_any (w : World) (v u : Value) (s : List Pr) (l : List Ox) (hv : PS w v s) (hu : OS w u l) (hst : St s) (h64 : ∀ p ∈ s, in64c p.c) (hl : l.length ≤ 10000) (hs : s.length ≤ 10000) (hlx : ∀ x ∈ l, in64x x) (hlb : ∀ x ∈ l, x.k.length ≤ 1073741824 ∧ x.b.length ≤ 1073741824) :
    Calls Tryd.prog 27 #[v, u] w (Rans s l w) := by
  obtain ⟨Av, cv', rfl⟩ := hv.slice
  obtain ⟨Au, cu, rfl⟩ := hu.slice
  have l3 := hu.bd.2
  have CC := Lib.hid (copied_any _ s w hv (by omega) (st_small hst))
  have CS := fun j x A n c (hx : l[j]? = some x) w' M v1 es (hp : PO w' M v1 es) (he : es.map (·.1) = runX s (l.take j)) (hsv : SV w' (.slice A n c) (bys x.b)) (hM : M ≤ w'.heap.size) => step9_any w' M v1 es (runX s (l.take j)) A n c x hp he (runs_facts hst h64 hl hs hlx j).1 (runs_facts hst h64 hl hs hlx j).2.1 hsv (hlb x (List.mem_of_getElem? hx)).2 (hlb x (List.mem_of_getElem? hx)).1 (hlx x (List.mem_of_getElem? hx)) (runs_facts hst h64 hl hs hlx j).2.2 hM
  unfold Stepped at CS
  unfold ov kst at CS
  replace CS := Lib.hid CS
  have HU := Lib.hid hu
  have HL := Lib.hid (show l.length ≤ 1000000 by omega)
  clear hv hu hst h64 hs hlx hlb
  go_enter Tryd.func27, Tryd.ntmps27
  go_wp2_with fail
  refine CC.out.mono ?_
  rintro e w1 ⟨v1, es1, rfl, he1, hp1, b1⟩
  have hne1 := Lib.hid (show v1.ownBlock ≠ some w1.heap.size from fun h => by have := (hp1.lt h).2; omega)
  have hwg := Lib.hid b1.size
  replace he1 := Lib.hid he1
  replace hp1 := Lib.hid hp1
  replace b1 := Lib.hid b1
  clear CC
  go_wp2_with (show wpList _ _ _ (Oper.mk _ (.makeSlice _ _ _) _ _ _ _ :: _) _ _; refine wpList_told rfl (.tmp 12) (.tmp 12) rfl l.length _ _ rfl rfl HL.out ?_; intro w2 hT b2; replace hp1 := Lib.hid (hp1.out.on b2.out); replace b1 := Lib.hid (b1.out.trans (b2.out.mono b1.out.size)); clear b2)
  generalize w1.heap.size = g at *
  go_loopw [0, 16] (fun vs i wr => ∃ (j : Nat) (es : List (Pr × Value)) (az : List (An × Value)), j ≤ l.length ∧ i = .int .i64 j ∧ Hid (es.map (·.1) = runX s (l.take j)) ∧ Hid (az.map (·.1) = anssX s (l.take j)) ∧ Hid (PO wr w.heap.size vs es) ∧ Hid (vs.ownBlock ≠ some g) ∧ Hid (Tolds wr g l.length az) ∧ Hid (Below w.heap.size w wr)) (fun _ i _ => l.length - (intOf i).toNat)
  case atStart => exact ⟨0, es1, [], by omega, rfl, he1, Lib.hid rfl, hp1, hne1, Lib.hid hT.out.none, b1⟩
  case round =>
    clear he1 hp1 hne1 hT b1
    obtain ⟨j, es, az, hj, rfl, he, ha, hp, hne, hT, hB⟩ := hrel
    by_cases hlt : j < l.length
    · obtain ⟨b, off, x, Ad, cd, rfl, hx, c0, c1, c2, c3, c4, c5, hd⟩ := OS.at6 (HU.out.keep (Keeps.below hB.out)) hlt
      have CJ := Lib.hid (CS.out j x Ad x.b.length cd hx)
      have hnx := Lib.hid (run_next l s j x hx)
      have hax := Lib.hid (ans_next l s j x hx)
      have hla := Lib.hid (show az.length = j by
        have := congrArg List.length ha.out
        rw [List.length_map, ans_len, List.length_take] at this
        omega)
      replace hd := Lib.hid hd
      clear hx CS
      generalize stepX (runX s (l.take j)) x = r at *
      go_wp2_with (first
        | (show wpList _ _ _ (Oper.mk _ (.store _ (.tmp 8) _) _ _ _ _ :: _) _ _; refine wpList_store_row rfl _ (.tmp 8) (.tmp 20) rfl (wr).heap.size _ rfl rfl _ _ (Whole.made (wr) _ _) (by kernel_rfl) rfl (by simp [Value.oneCell']) ?_; rw [World.setRow_alloc_new]; generalize hW : World.alloc _ _ = w4; have p8 := Lib.hid (made_eq hW).1; have b4 := Lib.hid (made_eq hW).2; clear hW; replace hp := Lib.hid (hp.out.on b4.out); replace hd := Lib.hid (hd.out.keep (Keeps.below b4.out)); replace hT := Lib.hid (hT.out.on b4.out); have B4 := Lib.hid (hB.out.trans (b4.out.mono hB.out.size)); clear b4)
        | (show wpList _ _ _ (Oper.mk _ (.load _ (.tmp 8)) _ _ _ _ :: _) _ _; refine wpList_load_row rfl 24 (.tmp 8) rfl (wr.heap.size) rfl _ _ _ _ (p8.out) Tryd.underlying24 rfl (by kernel_rfl) ?_))
      refine (CJ.out w4 _ _ es hp.out he.out hd.out B4.out.size).mono ?_
      rintro e w5 ⟨v5, es5, D5, rfl, he5, hp5, hd5, hg5, ho5⟩
      obtain ⟨A1, n1, d1, rfl⟩ := sv_sl hd5
      have hT5 := Lib.hid (hT.out.grown hp.out hg5 hne.out)
      have B5 := Lib.hid (B4.out.grown hg5 B4.out.size fun k hk => (hp.out.lt hk).1)
      have hne5 := Lib.hid (own_far hne.out ho5 hT.out.told.lt)
      replace he5 := Lib.hid he5
      replace hp5 := Lib.hid hp5
      replace hd5 := Lib.hid hd5
      clear hg5 ho5 hT hp hd hne B4 CJ c0 c1 c2 c3 c4 c5
      unfold av
      go_wp2_with (show wpList _ _ _ (Oper.mk _ (.store _ (.tmp 29) _) _ _ _ _ :: _) _ _; refine wpList_tells rfl _ (.tmp 29) (.tmp 28) rfl g l.length _ az r.2 (.slice A1 n1 d1) rfl rfl (by rw [hla.out]) (hla.out ▸ hlt) hT5.out hd5.out (by kernel_rfl) ?_; intro w6 hT6 hb6)
      go_roundw
      case rel => exact ⟨j + 1, es5, az ++ [(r.2, .slice A1 n1 d1)], by omega, by go_num, Lib.hid (by rw [he5.out, hnx.out]), Lib.hid (by rw [hax.out, List.map_append, ha.out]; rfl), Lib.hid (po_told hT5.out.told hb6.out hp5.out hne5.out), hne5, hT6, Lib.hid (But.below B5.out hb6.out hwg.out B5.out.size)⟩
      case measure => simp [intOf]; omega
    · obtain rfl : j = l.length := by omega
      have hfin := Lib.hid (show es.map (·.1) = runX s l by rw [he.out, List.take_length])
      have hfa := Lib.hid (show az.map (·.1) = anssX s l by rw [ha.out, List.take_length])
      go_wp2
      go_ret2
      exact ⟨_, g, az, rfl, hfin.out ▸ hp.out.ps, hfa.out, hT.out, hB.out⟩
end Go.Proofs.YtlpgmmcdcjkkiaaDoor
/- Plain facts on what commutes: modes, and operations that can be swapped. Nothing here speaks of the program. -/
namespace Go.Proofs.YtlpgmmcdcjkkiaaDoor
set_option maxRecDepth 20000
open Go.RowKit

/-! ### A state is what its keys have -/
theorem fnd_app (a b : List Pr) (k : List UInt8) : fnd (a ++ b) k = (fnd a k).or (fnd b k) := by
  induction a with
  | nil => rfl
  | cons p a ih =>
    rw [List.cons_append, fnd, fnd]
    split
    · rfl
    · exact ih
theorem fnd_has {s : List Pr} {k : List UInt8} {c : Cl} (h : fnd s k = some c) : ∃ p ∈ s, p.k = k := ⟨⟨k, c⟩, fnd_mem h, rfl⟩
theorem fnd_gt {s : List Pr} {k : List UInt8} (h : ∀ p ∈ s, k < p.k) : fnd s k = none := fnd_none fun p hp => (ne_of_lt' (h p hp)).symm
theorem st_ext : ∀ (s t : List Pr), UpP s → UpP t → (∀ k, fnd s k = fnd t k) → s = t
  | [], [], _, _, _ => rfl
  | [], q :: t, _, _, h => by have := h q.k; simp [fnd] at this
  | p :: s, [], _, _, h => by have := h p.k; simp [fnd] at this
  | p :: s, q :: t, hs, ht, h => by
    have hs' := List.pairwise_cons.1 hs
    have ht' := List.pairwise_cons.1 ht
    have hkey : p.k = q.k := by
      by_cases e : p.k = q.k
      · exact e
      · have h1 := h p.k
        have h2 := h q.k
        rw [fnd, if_pos rfl, fnd, if_neg (fun x => e x.symm)] at h1
        rw [fnd, if_neg e, fnd, if_pos rfl] at h2
        obtain ⟨r, hr, er⟩ := fnd_has h1.symm
        obtain ⟨u, hu, eu⟩ := fnd_has h2
        have l1 := ht'.1 r hr
        have l2 := hs'.1 u hu
        rw [er] at l1
        rw [eu] at l2
        exact absurd (List.lt_trans l1 l2) (List.lt_irrefl _)
    have hc : p.c = q.c := by
      have h1 := h p.k
      rw [fnd, if_pos rfl, fnd, if_pos hkey.symm] at h1
      injection h1
    have hpq : p = q := by
      cases p; cases q
      simp only at hkey hc
      subst hkey hc
      rfl
    subst hpq
    congr 1
    refine st_ext s t hs'.2 ht'.2 fun k => ?_
    by_cases e : p.k = k
    · subst e
      rw [fnd_gt hs'.1, fnd_gt ht'.1]
    · have h1 := h k
      rw [fnd, if_neg e, fnd, if_neg e] at h1
      exact h1
theorem take_lt {s : List Pr} {k : List UInt8} : ∀ p ∈ s.take (lowP s k), p.k < k := fun p hp => by
  obtain ⟨j, hj⟩ := List.getElem?_of_mem hp
  have hlt : j < lowP s k := by have := (List.getElem?_eq_some_iff.1 hj).1; simp at this; omega
  rw [List.getElem?_take, if_pos hlt] at hj
  exact lowP_lt s k j p hlt hj
theorem drop_gt {s : List Pr} (h : UpP s) {k : List UInt8} : ∀ p ∈ s.drop (endP s k), k < p.k := fun p hp => by
  obtain ⟨j, hj⟩ := List.getElem?_of_mem hp
  rw [List.getElem?_drop] at hj
  have hlt := (List.getElem?_eq_some_iff.1 hj).1
  have hle := endP_ge s k
  have hs : s[lowP s k]? = some s[lowP s k] := List.getElem?_eq_getElem (by omega)
  have hn := lowP_at s k _ hs
  unfold endP at hj hlt
  split at hj
  · rename_i hh
    rw [if_pos hh] at hlt
    have := up_get h (by omega : lowP s k < lowP s k + 1 + j) hs hj
    unfold hasP at hh
    rw [hs] at hh
    simp at hh
    rwa [hh] at this
  · rename_i hh
    rw [if_neg hh] at hlt
    have hne : s[lowP s k].k ≠ k := by
      unfold hasP at hh
      rw [hs] at hh
      simpa using hh
    have h0 : k < s[lowP s k].k := lt_of_le_ne (List.not_lt.1 hn) (fun e => hne e.symm)
    cases j with
    | zero => simp at hj; rw [List.getElem?_eq_getElem (by omega)] at hj; injection hj with hj; rwa [hj] at h0
    | succ j => exact lt_tr h0 (up_get h (by omega : lowP s k < lowP s k + (j + 1)) hs hj)
/-- What lies between. -/
theorem mid_key {s : List Pr} {k : List UInt8} : ∀ p ∈ (s.drop (lowP s k)).take (endP s k - lowP s k), p.k = k := fun p hp => by
  obtain ⟨j, hj⟩ := List.getElem?_of_mem hp
  rw [List.getElem?_take] at hj
  split at hj
  · rename_i hlt
    unfold endP at hlt
    split at hlt
    · rename_i hh
      have : j = 0 := by omega
      subst this
      rw [List.getElem?_drop, Nat.add_zero] at hj
      unfold hasP at hh
      rw [hj] at hh
      simpa using hh
    · omega
  · cases hj
theorem cut3 (s : List Pr) (k : List UInt8) : s = s.take (lowP s k) ++ ((s.drop (lowP s k)).take (endP s k - lowP s k) ++ s.drop (endP s k)) := by
  have h := endP_ge s k
  have h1 : s.drop (endP s k) = (s.drop (lowP s k)).drop (endP s k - lowP s k) := by rw [List.drop_drop]; congr 1; omega
  rw [h1, List.take_append_drop, List.take_append_drop]
/-- What a key has, told by a cell. -/
def has (c : Cl) : Option Cl := if c.k = 0 then none else some c
theorem fnd_put {s : List Pr} (h : UpP s) (k k' : List UInt8) (c : Cl) : fnd (putS s k c) k' = if k' = k then has c else fnd s k' := by
  by_cases e : k' = k
  · subst e
    rw [if_pos rfl, putS, fnd_skip (fun p hp => ne_of_lt' (take_lt p hp)), one, has]
    split
    · rw [List.nil_append, fnd_gt (drop_gt h)]
    · rw [List.cons_append, fnd, if_pos rfl]
  · rw [if_neg e, putS]
    have h1 : fnd (one k c) k' = none := fnd_none fun p hp => by
      unfold one at hp
      split at hp
      · cases hp
      · simp at hp; subst hp; exact fun x => e x.symm
    have h2 : fnd ((s.drop (lowP s k)).take (endP s k - lowP s k)) k' = none := fnd_none fun p hp => by
      rw [mid_key p hp]
      exact fun x => e x.symm
    conv => rhs; rw [cut3 s k]
    rw [fnd_app, fnd_app, fnd_app, fnd_app, h1, h2]

/-! ### A step, by what the key has -/
/-- The error. -/
def errX (c : Cl) (x : Ox) : Int := if goodX x then (mkX c x).2 else 1
/-- Does it write? -/
def wrX (c : Cl) (x : Ox) : Bool := goodX x && decide ((mkX c x).2 = 0) && !decide (x.d = 0)
def ansX (c : Cl) (x : Ox) : An := if goodX x then (if (mkX c x).2 ≠ 0 then ⟨(mkX c x).2, zeroC⟩ else if x.d = 0 then ⟨0, (mkX c x).1⟩ else ⟨0, zeroC⟩) else ⟨1, zeroC⟩
theorem step_ans (s : List Pr) (x : Ox) : (stepX s x).2 = ansX (fndC s x.k) x := by
  unfold stepX ansX
  split
  · split
    · rfl
    · split <;> rfl
  · rfl
theorem ans_err (c : Cl) (x : Ox) : (ansX c x).e = errX c x := by
  unfold ansX errX
  split
  · split
    · rfl
    · rename_i h
      split <;> simp at h <;> exact h.symm
  · rfl
theorem step_state (s : List Pr) (x : Ox) : (stepX s x).1 = if wrX (fndC s x.k) x then putS s x.k (mkX (fndC s x.k) x).1 else s := by
  unfold stepX wrX
  cases hg : goodX x with
  | false => simp
  | true =>
    by_cases h2 : (mkX (fndC s x.k) x).2 = 0
    · by_cases h0 : x.d = 0
      · simp [h2, h0]
      · simp [h2, h0]
    · simp [h2]
theorem step_fnd {s : List Pr} (h : St s) (x : Ox) (k : List UInt8) : fnd (stepX s x).1 k = if wrX (fndC s x.k) x = true ∧ k = x.k then has (mkX (fndC s x.k) x).1 else fnd s k := by
  rw [step_state]
  by_cases hw : wrX (fndC s x.k) x = true
  · rw [if_pos hw, fnd_put h.up]
    by_cases e : k = x.k
    · rw [if_pos e, if_pos ⟨hw, e⟩]
    · rw [if_neg e, if_neg (fun g => e g.2)]
  · rw [if_neg hw, if_neg (fun g => hw g.1)]
theorem step_fndC {s : List Pr} (h : St s) (x : Ox) (k : List UInt8) (hne : k ≠ x.k) : fndC (stepX s x).1 k = fndC s k := by
  unfold fndC
  rw [step_fnd h, if_neg (fun g => hne g.2)]

/-! ### Modes -/
def modeX (d : Int) : Int := if d = 0 then 0 else if d = 1 then 1 else if d = 2 then 1 else if d = 3 then 1 else if d = 4 then 2 else if d = 5 then 3 else -1
def compX (a b : Int) : Bool := (decide (a = 0) && decide (b = 0)) || ((decide (a = 2) || decide (a = 3)) && (decide (b = 2) || decide (b = 3)))
def sixB (d : Int) : Bool := decide (0 ≤ d) && decide (d ≤ 5)
def commX (a b : Ox) : Bool := sixB a.d && sixB b.d && (!(a.k == b.k) || compX (modeX a.d) (modeX b.d))
theorem comp_comm (a b : Int) : compX a b = compX b a := by
  unfold compX
  rw [Bool.and_comm (decide (a = 0)), Bool.and_comm (decide (a = 2) || decide (a = 3))]
theorem comm_comm (a b : Ox) : commX a b = commX b a := by
  unfold commX
  have e : (a.k == b.k) = (b.k == a.k) := by
    by_cases h : a.k = b.k
    · rw [h]
    · have h2 : ¬ b.k = a.k := fun e => h e.symm
      rw [show (a.k == b.k) = false by simpa using h, show (b.k == a.k) = false by simpa using h2]
  rw [Bool.and_comm (sixB a.d), comp_comm, e]
/-- Two operations, one behind the other: the state, and what each tells. -/
def twoX (s : List Pr) (a b : Ox) : List Pr × An × An := ((stepX (stepX s a).1 b).1, (stepX s a).2, (stepX (stepX s a).1 b).2)
def swaps (s : List Pr) (a b : Ox) : Prop := (twoX s a b).1 = (twoX s b a).1 ∧ (twoX s a b).2.1 = (twoX s b a).2.2 ∧ (twoX s a b).2.2 = (twoX s b a).2.1
def tightX (s : List Pr) (a b : Ox) : Prop := (twoX s a b).2.1.e ≠ 8 ∧ (twoX s a b).2.2.e ≠ 8 ∧ (twoX s b a).2.1.e ≠ 8 ∧ (twoX s b a).2.2.e ≠ 8
/-- On keys that are unlike. -/
theorem swap_apart {s : List Pr} (h : St s) {a b : Ox} (hk : a.k ≠ b.k) : swaps s a b := by
  have ha := step_st h a
  have hb := step_st h b
  have e1 := step_fndC h a b.k hk.symm
  have e2 := step_fndC h b a.k hk
  refine ⟨?_, ?_, ?_⟩
  · refine st_ext _ _ (step_st ha b).up (step_st hb a).up fun k => ?_
    show fnd (stepX (stepX s a).1 b).1 k = fnd (stepX (stepX s b).1 a).1 k
    rw [step_fnd ha, step_fnd hb, step_fnd h, step_fnd h, e1, e2]
    by_cases k1 : k = b.k
    · have k2 : ¬ k = a.k := fun e => hk (e.symm.trans k1)
      simp [k2]
    · simp [k1]
  · show (stepX s a).2 = (stepX (stepX s b).1 a).2
    rw [step_ans, step_ans, e2]
  · show (stepX (stepX s a).1 b).2 = (stepX s b).2
    rw [step_ans, step_ans, e1]
/-- What writes nothing, and asks the same of the state behind the other. -/
theorem step_same {s : List Pr} {x : Ox} (h : wrX (fndC s x.k) x = false) : (stepX s x).1 = s := by rw [step_state, h]; rfl
theorem swap_still {s : List Pr} {a b : Ox} (ha : wrX (fndC s a.k) a = false) (hb : wrX (fndC s b.k) b = false) : swaps s a b := by
  have e1 := step_same ha
  have e2 := step_same hb
  refine ⟨?_, ?_, ?_⟩
  · show (stepX (stepX s a).1 b).1 = (stepX (stepX s b).1 a).1
    rw [e1, e2, e1]
  · show (stepX s a).2 = (stepX (stepX s b).1 a).2
    rw [e2]
  · show (stepX (stepX s a).1 b).2 = (stepX s b).2
    rw [e1]
theorem bad_step {s : List Pr} {x : Ox} (h : goodX x = false) : stepX s x = (s, ⟨1, zeroC⟩) := by simp [stepX, h]
theorem swap_bad {s : List Pr} {a b : Ox} (h : goodX a = false) : swaps s a b := by
  unfold swaps twoX
  rw [bad_step (s := s) h, bad_step (s := (stepX s b).1) h]
  exact ⟨rfl, rfl, rfl⟩
theorem swaps_symm {s : List Pr} {a b : Ox} (h : swaps s a b) : swaps s b a := ⟨h.1.symm, h.2.2.symm, h.2.1.symm⟩
/-- What a counter's operation adds. -/
def dl (x : Ox) : Int := if x.d = 5 then -x.n else x.n
theorem mk_count {c : Cl} {x : Ox} (hd : x.d = 4 ∨ x.d = 5) : mkX c x = movX c (c.v + dl x) := by
  unfold mkX dl
  rcases hd with hd | hd
  · simp [hd]
  · simp [hd]
    rfl
theorem count_in {s : List Pr} {x : Ox} {C : Cl} (hg : goodX x = true) (hd : x.d = 4 ∨ x.d = 5) (hC : fndC s x.k = C) (k2 : C.k = 2) (hi : inB C.lo C.hi (C.v + dl x) = true) : stepX s x = (putS s x.k ⟨2, [], C.lo, C.hi, C.v + dl x⟩, ⟨0, zeroC⟩) := by
  have h0 : ¬ x.d = 0 := by omega
  have hm : mkX C x = (⟨2, [], C.lo, C.hi, C.v + dl x⟩, 0) := by rw [mk_count hd]; simp [movX, k2, hi]
  simp [stepX, hg, hC, hm, h0]
theorem count_out {s : List Pr} {x : Ox} {C : Cl} (hg : goodX x = true) (hd : x.d = 4 ∨ x.d = 5) (hC : fndC s x.k = C) (k2 : C.k = 2) (hi : inB C.lo C.hi (C.v + dl x) = false) : (stepX s x).2.e = 8 := by
  have hm : mkX C x = (zeroC, 8) := by rw [mk_count hd]; simp [movX, k2, hi]
  simp [stepX, hg, hC, hm]
theorem count_still {s : List Pr} {x : Ox} (hd : x.d = 4 ∨ x.d = 5) (k2 : ¬ (fndC s x.k).k = 2) : wrX (fndC s x.k) x = false := by
  have hm : (mkX (fndC s x.k) x).2 ≠ 0 := by
    rw [mk_count hd]
    unfold movX
    split
    · simp
    · simp
  simp [wrX, hm]
theorem put_put {s : List Pr} {k : List UInt8} {c d : Cl} (h : UpP s) (h1 : UpP (putS s k c)) (h2 : UpP (putS (putS s k c) k d)) (h3 : UpP (putS s k d)) : putS (putS s k c) k d = putS s k d := by
  refine st_ext _ _ h2 h3 fun k' => ?_
  rw [fnd_put h1, fnd_put h, fnd_put h]
  split <;> rfl
theorem fndC_put {s : List Pr} (h : UpP s) (k : List UInt8) (c : Cl) (hk : ¬ c.k = 0) : fndC (putS s k c) k = c := by
  unfold fndC
  rw [fnd_put h, if_pos rfl, has, if_neg hk]
  rfl
/-- More and less of one counter. -/
theorem swap_count {s : List Pr} (h : St s) {a b : Ox} (hk : a.k = b.k) (ha : a.d = 4 ∨ a.d = 5) (hb : b.d = 4 ∨ b.d = 5) (ht : tightX s a b) : swaps s a b := by
  cases ga : goodX a with
  | false => exact swap_bad ga
  | true =>
    cases gb : goodX b with
    | false => exact swaps_symm (swap_bad gb)
    | true =>
      by_cases k2 : (fndC s a.k).k = 2
      · obtain ⟨t1, t2, t3, t4⟩ := ht
        generalize hC : fndC s a.k = C at k2
        have hCb : fndC s b.k = C := by rw [← hk]; exact hC
        have i1 : inB C.lo C.hi (C.v + dl a) = true := by
          cases hi : inB C.lo C.hi (C.v + dl a) with
          | true => rfl
          | false => exact absurd (count_out ga ha hC k2 hi) t1
        have i2 : inB C.lo C.hi (C.v + dl b) = true := by
          cases hi : inB C.lo C.hi (C.v + dl b) with
          | true => rfl
          | false => exact absurd (count_out gb hb hCb k2 hi) t3
        have s1 := count_in ga ha hC k2 i1
        have s2 := count_in gb hb hCb k2 i2
        have u1 := step_st h a
        have u2 := step_st h b
        have v1 := step_st u1 b
        have v2 := step_st u2 a
        rw [← hk] at s2
        unfold twoX at t2 t4
        unfold swaps twoX
        rw [s1] at u1 v1 t2
        rw [s2] at u2 v2 t4
        simp only at u1 u2 v1 v2 t2 t4
        have c1 := fndC_put h.up a.k ⟨2, [], C.lo, C.hi, C.v + dl a⟩ (by simp)
        have c2 := fndC_put h.up a.k ⟨2, [], C.lo, C.hi, C.v + dl b⟩ (by simp)
        have c1b := c1
        rw [hk] at c1b
        have i3 : inB C.lo C.hi (C.v + dl a + dl b) = true := by
          cases hi : inB C.lo C.hi (C.v + dl a + dl b) with
          | true => rfl
          | false => exact absurd (count_out (C := ⟨2, [], C.lo, C.hi, C.v + dl a⟩) gb hb (by rw [← hk]; exact c1) rfl hi) t2
        have i4 : inB C.lo C.hi (C.v + dl b + dl a) = true := by
          rw [show C.v + dl b + dl a = C.v + dl a + dl b by omega]; exact i3
        have s3 := count_in (s := putS s a.k ⟨2, [], C.lo, C.hi, C.v + dl a⟩) (C := ⟨2, [], C.lo, C.hi, C.v + dl a⟩) gb hb (by rw [← hk]; exact c1) rfl i3
        have s4 := count_in (s := putS s a.k ⟨2, [], C.lo, C.hi, C.v + dl b⟩) (C := ⟨2, [], C.lo, C.hi, C.v + dl b⟩) ga ha c2 rfl i4
        rw [← hk] at s3
        simp only at s3 s4
        rw [s3] at v1
        rw [s4] at v2
        rw [s1, s2]
        simp only
        rw [s3, s4]
        refine ⟨?_, rfl, rfl⟩
        simp only at v1 v2 ⊢
        refine st_ext _ _ v1.up v2.up fun k => ?_
        rw [fnd_put u1.up, fnd_put u2.up, fnd_put h.up, fnd_put h.up, show C.v + dl b + dl a = C.v + dl a + dl b by omega]
        split <;> rfl
      · have k2b : ¬ (fndC s b.k).k = 2 := by rw [← hk]; exact k2
        exact swap_still (count_still ha k2) (count_still hb k2b)
theorem mode_0 {d : Int} (h : modeX d = 0) : d = 0 := by
  unfold modeX at h
  repeat' split at h
  all_goals omega
theorem mode_23 {d : Int} (h : modeX d = 2 ∨ modeX d = 3) : d = 4 ∨ d = 5 := by
  unfold modeX at h
  repeat' split at h
  all_goals omega
/-- What commutes can be swapped, where no bound is in the way. -/
theorem swap_comm {s : List Pr} (h : St s) {a b : Ox} (hc : commX a b = true) (ht : tightX s a b) : swaps s a b := by
  by_cases hk : a.k = b.k
  · simp only [commX, compX, hk, Bool.and_eq_true, Bool.or_eq_true, decide_eq_true_eq, beq_self_eq_true, Bool.not_true, Bool.false_eq_true, false_or] at hc
    obtain ⟨_, hc⟩ := hc
    rcases hc with ⟨h1, h2⟩ | ⟨h1, h2⟩
    · exact swap_still (by simp [wrX, mode_0 h1]) (by simp [wrX, mode_0 h2])
    · exact swap_count h hk (mode_23 h1) (mode_23 h2) ht
  · exact swap_apart h hk
end Go.Proofs.YtlpgmmcdcjkkiaaDoor
/- A table of bools in a variable of the package: what the row's list gives of it. -/
namespace Go.Proofs.YtlpgmmcdcjkkiaaDoor
set_option maxRecDepth 20000
open Go.RowKit Go.Sort

/-! ### An array of arrays of bools that is laid -/
theorem mapM_at' {α β : Type} {f : α → Option β} : ∀ {l : List α} {r : List β}, l.mapM f = some r → ∀ (i : Nat) (a : α), l[i]? = some a → ∃ b, r[i]? = some b ∧ f a = some b
  | [], _, _, i, a, ha => by simp at ha
  | x :: l, r, h, i, a, ha => by
    simp only [List.mapM_cons, Option.bind_eq_bind, Option.bind_eq_some_iff, Option.pure_def, Option.some.injEq] at h
    obtain ⟨b, hb, r', hr', rfl⟩ := h
    cases i with
    | zero =>
      simp only [List.getElem?_cons_zero, Option.some.injEq] at ha
      subst ha
      exact ⟨b, rfl, hb⟩
    | succ i => exact mapM_at' hr' i a (by simpa using ha)
/-- The parts of an array that reads as a row of data. -/
theorem arr_parts {H : Type} {enc : TypeId × Value → H} {P : Program} {w : World} {base : Nat} {sp : Nat → Bool} {held : Bool} {fuel : Nat} {t e : TypeId} {n k : Nat} {cs : List Value} {ds : List (DataW H)} {p : List MemPlace}
    (ht : P.underlying t = some (.array n e)) (hk : P.cellsOf e = k) (h : DataW.trod enc P w base sp held fuel t cs = some (.agg ds, p)) :
    cs.length = P.cellsOf t ∧ ∀ i < n, ∃ f d q, ds[i]? = some d ∧ DataW.trod enc P w base sp held f e ((cs.drop (i * k)).take k) = some (d, q) := by
  cases fuel with
  | zero => simp [DataW.trod] at h
  | succ fuel =>
    simp only [DataW.trod, ht, hk] at h
    split at h
    · rename_i hl
      obtain ⟨xs, hm, hx⟩ := Option.map_eq_some_iff.1 h
      have hds : xs.map (·.1) = ds := by simpa using congrArg Prod.fst hx
      refine ⟨hl, fun i hi => ?_⟩
      obtain ⟨b, hb, hf⟩ := mapM_at' hm i i (by simp [hi])
      exact ⟨fuel, b.1, b.2, by rw [← hds]; simp [hb], hf⟩
    · cases h
theorem bool_part {H : Type} {enc : TypeId × Value → H} {P : Program} {w : World} {base : Nat} {sp : Nat → Bool} {held : Bool} {fuel : Nat} {e : TypeId} {cs : List Value} {b : Bool} {q : List MemPlace} {i : Nat}
    (he : P.underlying e = some .bool) (h : DataW.trod enc P w base sp held fuel e ((cs.drop (i * 1)).take 1) = some (.lit (.bool b), q)) : cs[i]? = some (.bool b) := by
  obtain ⟨b', hc, hx⟩ := DataW.trod_bool he h
  have hb : b' = b := by simp at hx; exact hx.1.symm
  subst hb
  have := congrArg (·[0]?) hc
  simpa [List.getElem?_take, List.getElem?_drop] using this
/-- Rows of bools. -/
theorem grid_cells {H : Type} {enc : TypeId × Value → H} {P : Program} {w : World} {base : Nat} {sp : Nat → Bool} {held : Bool} {fuel : Nat} {t u e : TypeId} {n m : Nat} {cs : List Value} {B : List (List Bool)} {p : List MemPlace}
    (ht : P.underlying t = some (.array n u)) (hu : P.underlying u = some (.array m e)) (he : P.underlying e = some .bool) (ce : P.cellsOf e = 1) (cu : P.cellsOf u = m) 
    (h : DataW.trod enc P w base sp held fuel t cs = some (.agg (B.map fun r => .agg (r.map fun b => .lit (.bool b))), p)) :
    ∀ i < n, ∀ j < m, ∃ r b, B[i]? = some r ∧ r[j]? = some b ∧ cs[i * m + j]? = some (.bool b) := by
  intro i hi j hj
  obtain ⟨_, hr⟩ := arr_parts ht cu h
  obtain ⟨f, d, q, hd, hq⟩ := hr i hi
  rw [List.getElem?_map, Option.map_eq_some_iff] at hd
  obtain ⟨r, hr1, rfl⟩ := hd
  obtain ⟨_, hs⟩ := arr_parts hu ce hq
  obtain ⟨f2, d2, q2, hd2, hq2⟩ := hs j hj
  rw [List.getElem?_map, Option.map_eq_some_iff] at hd2
  obtain ⟨b, hb, rfl⟩ := hd2
  have := bool_part he hq2
  rw [List.getElem?_take, if_pos hj, List.getElem?_drop] at this
  exact ⟨r, b, hr1, hb, this⟩
/-- Which modes go together, as the program's variable holds it. -/
def togs : List (List Bool) := [[true, false, false, false], [false, false, false, false], [false, false, true, true], [false, false, true, true]]
def Tog (w : World) : Prop := ∃ t cs, Whole w 0 t cs ∧ ∀ i < 4, ∀ j < 4, ∃ r b, togs[i]? = some r ∧ r[j]? = some b ∧ cs[i * 4 + j]? = some (.bool b)
theorem Tog.on {w w' : World} (h : Tog w) (hb : Below w.heap.size w w') : Tog w' := by
  obtain ⟨t, cs, h1, h2⟩ := h
  exact ⟨t, cs, h1.on hb, h2⟩
theorem Tog.cell {w : World} (h : Tog w) (i j : Nat) (hi : i < 4) (hj : j < 4) : w.cell? ⟨0, i * 4 + j, none⟩ = some (.bool (compX i j)) := by
  obtain ⟨t, cs, h1, h2⟩ := h
  obtain ⟨r, b, hr, hb, hc⟩ := h2 i hi j hj
  rw [h1.cell, hc]
  have : ∀ i < 4, ∀ j < 4, (togs[i]?).bind (·[j]?) = some (compX (i : Nat) (j : Nat)) := by decide
  have := this i hi j hj
  rw [hr, Option.bind_some, hb] at this
  rw [Option.some.inj this]
/-- What the row's list gives: the table's cells. -/
theorem tog_of_laid {W : World} {rest : List (String × DataW Unit)} (hg : Tryd.prog.globalNamed "moneyer/modes.together" = some 0) (hty : (Tryd.prog.globals[0]?).map (·.type) = some 46) (cu : Tryd.prog.cellsOf 45 = 4) (ce : Tryd.prog.cellsOf 4 = 1)
    (h : laidMet Tryd.prog (("moneyer/modes.together", .agg (togs.map fun r => .agg (r.map fun b => .lit (.bool b)))) :: rest) W) : Tog W := by
  obtain ⟨ps, ⟨g', t', cs, fuel, p, q, hg', ht', hvar, hd, _, hps⟩, _, hrow⟩ := h
  obtain rfl := Option.some.inj (hg.symm.trans hg')
  obtain rfl := Option.some.inj (hty.symm.trans ht')
  have hG := grid_cells Tryd.underlying46 Tryd.underlying45 Tryd.underlying4 ce cu hd
  have h0 : 0 < cs.size := by
    obtain ⟨r, b, _, _, hc⟩ := hG 0 (by decide) 0 (by decide)
    have := (List.getElem?_eq_some_iff.1 hc).1
    simpa using this
  have hm : MemPlace.cell 0 0 ∈ ps := by
    rw [hps]
    simp only [List.mem_append]
    refine .inl (.inl ?_)
    unfold MemPlace.row
    simp only [List.mem_map, List.mem_range]
    exact ⟨0, h0, rfl⟩
  obtain ⟨⟨c, t, hc⟩, _⟩ := hrow 0 0 hm
  simp only [World.var?, hg, Option.bind_some, hc] at hvar
  injection hvar with hvar
  subst hvar
  refine ⟨t, c, hc, fun i hi j hj => ?_⟩
  obtain ⟨r, b, h1, h2, h3⟩ := hG i hi j hj
  exact ⟨r, b, h1, h2, by simpa using h3⟩

end Go.Proofs.YtlpgmmcdcjkkiaaDoor
/- The reference's small ones: Of, Compat, Commute. -/
namespace Go.Proofs.YtlpgmmcdcjkkiaaDoor
set_option maxRecDepth 20000
open Go.RowKit Go.Sort

theorem rof10_any (d : Int) (w : World) : Calls Tryd.prog 8 #[.int .i64 d] w fun e w' => e = .returned (.int .i64 (modeX d)) ∧ Below w.heap.size w w' := by
  by_cases h0 : d < 0
  · have hm : modeX d = -1 := by
      unfold modeX
      repeat' split
      all_goals omega
    rw [hm]
    clear hm
    go_enter Tryd.func8, Tryd.ntmps8
    go_wp2
    go_ret
    exact ⟨rfl, by first | exact Below.refl _ _ | exact (Below.refl _ _).alloc (Nat.le_refl _) _⟩
  · by_cases h5 : 5 < d
    · have hm : modeX d = -1 := by
        unfold modeX
        repeat' split
        all_goals omega
      rw [hm]
      clear hm
      go_enter Tryd.func8, Tryd.ntmps8
      go_wp2
      go_ret
      exact ⟨rfl, by first | exact Below.refl _ _ | exact (Below.refl _ _).alloc (Nat.le_refl _) _⟩
    · have hd : d = 0 ∨ d = 1 ∨ d = 2 ∨ d = 3 ∨ d = 4 ∨ d = 5 := by omega
      clear h0 h5
      rcases hd with rfl | rfl | rfl | rfl | rfl | rfl
      all_goals
        go_enter Tryd.func8, Tryd.ntmps8
        go_wp2
        go_ret
        exact ⟨rfl, by first | exact Below.refl _ _ | exact (Below.refl _ _).alloc (Nat.le_refl _) _⟩
theorem rcompat10_any (a b : Int) (w : World) : Calls Tryd.prog 10 #[.int .i64 a, .int .i64 b] w fun e w' => e = .returned (.bool (compX a b)) ∧ w = w' := by
  have hb : b = 0 ∨ b = 2 ∨ b = 3 ∨ ((b == 0) = false ∧ (b == 2) = false ∧ (b == 3) = false) := by simp; omega
  have ha : a = 0 ∨ a = 2 ∨ a = 3 ∨ ((a == 0) = false ∧ (a == 2) = false ∧ (a == 3) = false) := by simp; omega
  rcases ha with rfl | rfl | rfl | ⟨a0, a2, a3⟩
  all_goals rcases hb with rfl | rfl | rfl | ⟨b0, b2, b3⟩
  all_goals
    go_enter Tryd.func10, Tryd.ntmps10
    go_wp2
    go_ret
    exact ⟨by simp_all [compX], rfl⟩
/-- Do commuting operations' fields tell it? -/
theorem rcommute10_any (D E : Value) (a b : Ox) (w : World) : Calls Tryd.prog 12 #[ov D a, ov E b] w fun e w' => e = .returned (.bool (commX a b)) ∧ Below w.heap.size w w' := by
  by_cases ha : 0 ≤ a.d ∧ a.d ≤ 5
  · by_cases hb : 0 ≤ b.d ∧ b.d ≤ 5
    · have h1 : ¬ a.d < 0 := by omega
      have h2 : ¬ 5 < a.d := by omega
      have h3 : ¬ b.d < 0 := by omega
      have h4 : ¬ 5 < b.d := by omega
      have hs : (sixB a.d && sixB b.d) = true := by simp [sixB, ha, hb]
      clear ha hb
      have OA := Lib.hid (fun w => rof10_any a.d w)
      have OB := Lib.hid (fun w => rof10_any b.d w)
      have CO := Lib.hid (fun w => rcompat10_any (modeX a.d) (modeX b.d) w)
      have hN := fun w => run_neq_str (P := Tryd.prog) 9 a.k b.k w
      by_cases hk : a.k = b.k
      · have e := Lib.hid (show commX a b = compX (modeX a.d) (modeX b.d) by rw [commX, hs]; simp [hk])
        rw [show (!(a.k == b.k)) = false by simp [hk]] at hN
        rw [e.out]
        clear e hk hs
        generalize modeX a.d = ma at *
        generalize modeX b.d = mb at *
        generalize compX ma mb = r at *
        unfold ov kst
        go_enter Tryd.func12, Tryd.ntmps12
        go_wp2_with fail
        have p2 := Lib.hid ((Whole.made w 24 #[.int .i64 a.d, .string ⟨a.k.toArray⟩, D, .int .i64 a.lo, .int .i64 a.hi, .int .i64 a.n]).later (.cells #[.int .i64 b.d, .string ⟨b.k.toArray⟩, E, .int .i64 b.lo, .int .i64 b.hi, .int .i64 b.n] 24))
        have p3 := Lib.hid (Whole.second w (.cells #[.int .i64 a.d, .string ⟨a.k.toArray⟩, D, .int .i64 a.lo, .int .i64 a.hi, .int .i64 a.n] 24) 24 #[.int .i64 b.d, .string ⟨b.k.toArray⟩, E, .int .i64 b.lo, .int .i64 b.hi, .int .i64 b.n])
        have B1 := Lib.hid (two_more (Below.refl _ w) (.cells #[.int .i64 a.d, .string ⟨a.k.toArray⟩, D, .int .i64 a.lo, .int .i64 a.hi, .int .i64 a.n] 24) (.cells #[.int .i64 b.d, .string ⟨b.k.toArray⟩, E, .int .i64 b.lo, .int .i64 b.hi, .int .i64 b.n] 24))
        generalize (w.alloc (.cells #[.int .i64 a.d, .string ⟨a.k.toArray⟩, D, .int .i64 a.lo, .int .i64 a.hi, .int .i64 a.n] 24)).alloc (.cells #[.int .i64 b.d, .string ⟨b.k.toArray⟩, E, .int .i64 b.lo, .int .i64 b.hi, .int .i64 b.n] 24) = w1 at *
        refine wp_region_facts 14 [] [] (by kernel_rfl) (by kernel_rfl) (by kernel_rfl) (free_draw w1) ?_
        simp only [List.take_succ_cons, List.take_zero, List.drop_succ_cons, List.drop_zero, List.zipIdx_cons, List.zipIdx_nil, Nat.zero_add, Nat.reduceAdd]
        repeat (show wpF _ _ _ _ _ _ (_ :: _) _ _; first
          | (refine f_skip (fun V => by rfl) ?_; simp only [Act.put, List.setIfInBounds_toArray, List.set_cons_succ, List.set_cons_zero])
            
                | (refine f_load_cell (by first | exact cls_free _ | exact cls_row _ _ _ _ | exact cls_fill _ _ _ _ _ | exact cls_butC _ _ | exact cls_butD _ _ _ _ _ _ _) (fun V => by rfl) _ _ rfl _ (fun V => by rfl) _ (fun w hb => (p2.out.on hb).cell 1) _ Tryd.underlying9 rfl ?_; simp only [Act.put, List.setIfInBounds_toArray, List.set_cons_succ, List.set_cons_zero])
                | (refine f_load_cell (by first | exact cls_free _ | exact cls_row _ _ _ _ | exact cls_fill _ _ _ _ _ | exact cls_butC _ _ | exact cls_butD _ _ _ _ _ _ _) (fun V => by rfl) _ _ rfl _ (fun V => by rfl) _ (fun w hb => (p3.out.on hb).cell 1) _ Tryd.underlying9 rfl ?_; simp only [Act.put, List.setIfInBounds_toArray, List.set_cons_succ, List.set_cons_zero])
                | (refine f_load_cell (by first | exact cls_free _ | exact cls_row _ _ _ _ | exact cls_fill _ _ _ _ _ | exact cls_butC _ _ | exact cls_butD _ _ _ _ _ _ _) (fun V => by rfl) _ _ rfl _ (fun V => by rfl) _ (fun w hb => (p2.out.on hb).cell 0) _ Tryd.underlying3 rfl ?_; simp only [Act.put, List.setIfInBounds_toArray, List.set_cons_succ, List.set_cons_zero])
                | (refine f_load_cell (by first | exact cls_free _ | exact cls_row _ _ _ _ | exact cls_fill _ _ _ _ _ | exact cls_butC _ _ | exact cls_butD _ _ _ _ _ _ _) (fun V => by rfl) _ _ rfl _ (fun V => by rfl) _ (fun w hb => (p3.out.on hb).cell 0) _ Tryd.underlying3 rfl ?_; simp only [Act.put, List.setIfInBounds_toArray, List.set_cons_succ, List.set_cons_zero])
                | (refine f_binop (by first | exact cls_free _ | exact cls_row _ _ _ _ | exact cls_fill _ _ _ _ _ | exact cls_butC _ _ | exact cls_butD _ _ _ _ _ _ _) (fun V => by rfl) _ _ _ _ _ rfl _ _ _ (hN) (fun w => guard_str _ _ _ _ _ _ w) (fun V => by rfl) (fun V => by rfl) ?_; simp only [Act.put, List.setIfInBounds_toArray, List.set_cons_succ, List.set_cons_zero])
                | (refine f_call (by first | exact cls_free _ | exact cls_row _ _ _ _ | exact cls_fill _ _ _ _ _ | exact cls_butC _ _ | exact cls_butD _ _ _ _ _ _ _) (fun V => by rfl) 8 _ _ rfl (enters_of Tryd.func8 rfl rfl) _ _ (fun V w hb hk => OA.out w) (fun V => by rfl) ?_; simp only [Act.put, List.setIfInBounds_toArray, List.set_cons_succ, List.set_cons_zero])
                | (refine f_call (by first | exact cls_free _ | exact cls_row _ _ _ _ | exact cls_fill _ _ _ _ _ | exact cls_butC _ _ | exact cls_butD _ _ _ _ _ _ _) (fun V => by rfl) 8 _ _ rfl (enters_of Tryd.func8 rfl rfl) _ _ (fun V w hb hk => OB.out w) (fun V => by rfl) ?_; simp only [Act.put, List.setIfInBounds_toArray, List.set_cons_succ, List.set_cons_zero])
                | (refine f_call (by first | exact cls_free _ | exact cls_row _ _ _ _ | exact cls_fill _ _ _ _ _ | exact cls_butC _ _ | exact cls_butD _ _ _ _ _ _ _) (fun V => by rfl) 10 _ _ rfl (enters_of Tryd.func10 rfl rfl) _ _ (fun V w hb hk => (CO.out w).mono fun e w1 ⟨h1, h2⟩ => ⟨h1, h2 ▸ Below.refl _ _⟩) (fun V => by rfl) ?_; simp only [Act.put, List.setIfInBounds_toArray, List.set_cons_succ, List.set_cons_zero])
          | (refine f_quiet (by first | exact cls_free _ | exact cls_row _ _ _ _ | exact cls_fill _ _ _ _ _ | exact cls_butC _ _ | exact cls_butD _ _ _ _ _ _ _) (fun V => by rfl) (fun V => ⟨_, rfl, by simp⟩) ?_; apply Exists.intro; refine And.intro (fun V w hw K hK => ?_) ?_; ((try simp only [Act.put, List.setIfInBounds_toArray, List.set_cons_succ, List.set_cons_zero] at hK); go_big_quiet_op; exact hK); simp only [Act.put, List.setIfInBounds_toArray, List.set_cons_succ, List.set_cons_zero]))
        refine f_nil ?_
        intro V w' hq2 hkn
        clear hkn
        have B8 := Lib.hid (B1.out.trans (hq2.mono B1.out.size))
        clear hq2
        go_wp2
        go_ret
        exact ⟨rfl, B8.out⟩
      · have e := Lib.hid (show commX a b = true by rw [commX, hs]; simp [hk])
        rw [show (!(a.k == b.k)) = true by simp [hk]] at hN
        rw [e.out]
        clear e hk hs OA OB CO
        unfold ov kst
        go_enter Tryd.func12, Tryd.ntmps12
        go_wp2_with fail
        have p2 := Lib.hid ((Whole.made w 24 #[.int .i64 a.d, .string ⟨a.k.toArray⟩, D, .int .i64 a.lo, .int .i64 a.hi, .int .i64 a.n]).later (.cells #[.int .i64 b.d, .string ⟨b.k.toArray⟩, E, .int .i64 b.lo, .int .i64 b.hi, .int .i64 b.n] 24))
        have p3 := Lib.hid (Whole.second w (.cells #[.int .i64 a.d, .string ⟨a.k.toArray⟩, D, .int .i64 a.lo, .int .i64 a.hi, .int .i64 a.n] 24) 24 #[.int .i64 b.d, .string ⟨b.k.toArray⟩, E, .int .i64 b.lo, .int .i64 b.hi, .int .i64 b.n])
        have B1 := Lib.hid (two_more (Below.refl _ w) (.cells #[.int .i64 a.d, .string ⟨a.k.toArray⟩, D, .int .i64 a.lo, .int .i64 a.hi, .int .i64 a.n] 24) (.cells #[.int .i64 b.d, .string ⟨b.k.toArray⟩, E, .int .i64 b.lo, .int .i64 b.hi, .int .i64 b.n] 24))
        generalize (w.alloc (.cells #[.int .i64 a.d, .string ⟨a.k.toArray⟩, D, .int .i64 a.lo, .int .i64 a.hi, .int .i64 a.n] 24)).alloc (.cells #[.int .i64 b.d, .string ⟨b.k.toArray⟩, E, .int .i64 b.lo, .int .i64 b.hi, .int .i64 b.n] 24) = w1 at *
        refine wp_region_facts 14 [] [] (by kernel_rfl) (by kernel_rfl) (by kernel_rfl) (free_draw w1) ?_
        simp only [List.take_succ_cons, List.take_zero, List.drop_succ_cons, List.drop_zero, List.zipIdx_cons, List.zipIdx_nil, Nat.zero_add, Nat.reduceAdd]
        repeat (show wpF _ _ _ _ _ _ (_ :: _) _ _; first
          | (refine f_skip (fun V => by rfl) ?_; simp only [Act.put, List.setIfInBounds_toArray, List.set_cons_succ, List.set_cons_zero])
            
                | (refine f_load_cell (by first | exact cls_free _ | exact cls_row _ _ _ _ | exact cls_fill _ _ _ _ _ | exact cls_butC _ _ | exact cls_butD _ _ _ _ _ _ _) (fun V => by rfl) _ _ rfl _ (fun V => by rfl) _ (fun w hb => (p2.out.on hb).cell 1) _ Tryd.underlying9 rfl ?_; simp only [Act.put, List.setIfInBounds_toArray, List.set_cons_succ, List.set_cons_zero])
                | (refine f_load_cell (by first | exact cls_free _ | exact cls_row _ _ _ _ | exact cls_fill _ _ _ _ _ | exact cls_butC _ _ | exact cls_butD _ _ _ _ _ _ _) (fun V => by rfl) _ _ rfl _ (fun V => by rfl) _ (fun w hb => (p3.out.on hb).cell 1) _ Tryd.underlying9 rfl ?_; simp only [Act.put, List.setIfInBounds_toArray, List.set_cons_succ, List.set_cons_zero])
                | (refine f_binop (by first | exact cls_free _ | exact cls_row _ _ _ _ | exact cls_fill _ _ _ _ _ | exact cls_butC _ _ | exact cls_butD _ _ _ _ _ _ _) (fun V => by rfl) _ _ _ _ _ rfl _ _ _ (hN) (fun w => guard_str _ _ _ _ _ _ w) (fun V => by rfl) (fun V => by rfl) ?_; simp only [Act.put, List.setIfInBounds_toArray, List.set_cons_succ, List.set_cons_zero])
          | (refine f_quiet (by first | exact cls_free _ | exact cls_row _ _ _ _ | exact cls_fill _ _ _ _ _ | exact cls_butC _ _ | exact cls_butD _ _ _ _ _ _ _) (fun V => by rfl) (fun V => ⟨_, rfl, by simp⟩) ?_; apply Exists.intro; refine And.intro (fun V w hw K hK => ?_) ?_; ((try simp only [Act.put, List.setIfInBounds_toArray, List.set_cons_succ, List.set_cons_zero] at hK); go_big_quiet_op; exact hK); simp only [Act.put, List.setIfInBounds_toArray, List.set_cons_succ, List.set_cons_zero]))
        refine f_nil ?_
        intro V w' hq2 hkn
        clear hkn
        have B8 := Lib.hid (B1.out.trans (hq2.mono B1.out.size))
        clear hq2
        go_wp2
        go_ret
        exact ⟨rfl, B8.out⟩
    · have e := Lib.hid (show commX a b = false by rw [commX, show sixB b.d = false by (simp [sixB]; omega)]; simp)
      rw [e.out]
      have h1 : ¬ a.d < 0 := by omega
      have h2 : ¬ 5 < a.d := by omega
      clear ha e
      unfold ov kst
      by_cases h3 : b.d < 0
      · go_enter Tryd.func12, Tryd.ntmps12
        go_wp2
        go_ret
        exact ⟨rfl, two_more (Below.refl _ _) _ _⟩
      · have h4 : 5 < b.d := by omega
        clear hb
        go_enter Tryd.func12, Tryd.ntmps12
        go_wp2
        go_ret
        exact ⟨rfl, two_more (Below.refl _ _) _ _⟩
  · have e := Lib.hid (show commX a b = false by rw [commX, show sixB a.d = false by (simp [sixB]; omega)]; simp)
    rw [e.out]
    clear e
    unfold ov kst
    by_cases h3 : a.d < 0
    · clear ha
      go_enter Tryd.func12, Tryd.ntmps12
      go_wp2
      go_ret
      exact ⟨rfl, two_more (Below.refl _ _) _ _⟩
    · have h4 : 5 < a.d := by omega
      clear ha
      go_enter Tryd.func12, Tryd.ntmps12
      go_wp2
      go_ret
      exact ⟨rfl, two_more (Below.refl _ _) _ _⟩
theorem results_tmp_cell2 {P : Program} {fn : Func} {p q r : Tmp} {ty ty2 : TypeId} (h : fn.results = #[.tmp q, .cell p ty, .cell r ty2]) (tmps : Array Value) (w : World) (g g2 : Nat) (t t2 : TypeId) (cs cs2 : Array Value) (fr fr2 : Nat × Nat) (d d2 : TypeDesc)
    (hp : tmps.getD p undef = .pointer (some ⟨g, 0, none⟩)) (hg : w.heap[g]? = some (.cells cs t fr)) (hr : tmps.getD r undef = .pointer (some ⟨g2, 0, none⟩)) (hg2 : w.heap[g2]? = some (.cells cs2 t2 fr2))
    (hu : P.underlying ty = some d) (hd : (match d with | .struct _ | .array _ _ => true | _ => false) = true) (hi : (P.info? ty).map (·.size) = some cs.size) (hu2 : P.underlying ty2 = some d2) (hd2 : (match d2 with | .struct _ | .array _ _ => true | _ => false) = true) (hi2 : (P.info? ty2).map (·.size) = some cs2.size) (v : Value) (hv : tmps.getD q undef = v) :
    (results fn tmps).run P w = .ok (.tuple #[v, .agg cs, .agg cs2]) w := by
  have hp' : tmps[p]?.getD undef = .pointer (some ⟨g, 0, none⟩) := by simpa using hp
  have hr' : tmps[r]?.getD undef = .pointer (some ⟨g2, 0, none⟩) := by simpa using hr
  have hv' : tmps[q]?.getD undef = v := by simpa using hv
  simp [results, h, hp', hr', hv', asAddr, run_loadVar_row w g t ty cs fr d hg hu hd hi, run_loadVar_row w g2 t2 ty2 cs2 fr2 d2 hg2 hu2 hd2 hi2]
theorem ans_ns (a b : Int) (A : Option Addr) (n c : Nat) (d e f : Int) : ∀ u ∈ (#[.int .i64 a, .int .i64 b, .slice A n c, .int .i64 d, .int .i64 e, .int .i64 f] : Array Value).toList, ∀ k, u ≠ .string k := by
  intro u hu
  simp at hu
  rcases hu with rfl | rfl | rfl | rfl | rfl | rfl <;> intro k h <;> cases h
/-- What a pair of operations asks of a state. -/
structure Asks (s : List Pr) (a b : Ox) : Prop where
  st : St s
  i64 : ∀ p ∈ s, in64c p.c
  len : s.length ≤ 1000
  ab : a.b.length ≤ 1000 ∧ a.k.length ≤ 1000 ∧ in64x a
  bb : b.b.length ≤ 1000 ∧ b.k.length ≤ 1000 ∧ in64x b
theorem Asks.swap {s : List Pr} {a b : Ox} (h : Asks s a b) : Asks s b a := ⟨h.st, h.i64, h.len, h.bb, h.ab⟩
/-- What Two comes to. -/
def Twoed (s : List Pr) (a b : Ox) (w : World) (e : Ending) (w' : World) : Prop :=
  ∃ v' D1 D2, e = .returned (.tuple #[v', av D1 (twoX s a b).2.1, av D2 (twoX s a b).2.2]) ∧ PS w' v' (twoX s a b).1 ∧ SV w' D1 (bys (twoX s a b).2.1.c.d) ∧ SV w' D2 (bys (twoX s a b).2.2.c.d) ∧ Below w.heap.size w w'
theorem whole_drew {w : World} {g : Nat} {t : TypeId} {cs : Array Value} (h : Whole w g t cs) : Whole w.drew g t cs := h
theorem below_drew {n : Nat} {w w1 : World} (h : Below n w w1) : Below n w w1.drew := ⟨h.os, h.tape, h.output, h.size, h.block⟩
theorem wp_cutz {P : Program} {c : Code} {Q : Exit → Act → World → Prop} {a : Act} {w : World} (F : World → Prop) (h : ∃ fr : Act, c.wp P (Exit.then (fun a' w' => a' = fr ∧ F w') (fun _ _ _ => False)) a w ∧ ∀ w', F w' → Q .normal fr w') : c.wp P Q a w := by
  obtain ⟨fr, h1, h2⟩ := h
  refine wp_mono h1 ?_
  intro e a' w' hq
  cases e <;> first | exact hq.elim | skip
  obtain ⟨rfl, hf⟩ := hq
  exact h2 w' hf
theorem twoed_of {s : List Pr} {a b : Ox} {w w' : World} {e : Ending} {r1 r2 : List Pr × An} (h1 : stepX s a = r1) (h2 : stepX r1.1 b = r2) (k : ∃ v' D1 D2, e = .returned (.tuple #[v', av D1 r1.2, av D2 r2.2]) ∧ PS w' v' r2.1 ∧ SV w' D1 (bys r1.2.c.d) ∧ SV w' D2 (bys r2.2.c.d) ∧ Below w.heap.size w w') : Twoed s a b w e w' := by
  subst h1 h2
  exact k
theorem fourth (w : World) (o p q : Obj) (t : TypeId) (cs : Array Value) : Whole ((((w.alloc o).alloc p).alloc q).alloc (.cells cs t)) (w.heap.size + 1 + 1 + 1) t cs := by
  have := Whole.third (w.alloc o) p q t cs
  rwa [show (w.alloc o).heap.size = w.heap.size + 1 by simp] at this
theorem four_more {a b : World} (h : Below a.heap.size a b) (o p q r : Obj) : Below a.heap.size a ((((b.alloc o).alloc p).alloc q).alloc r) := (three_more h o p q).alloc (by have := h.size; simp; omega) r
theorem three_le (n : Nat) : n ≤ n + 1 + 1 + 1 := by omega
theorem le_two' (n : Nat) : n ≤ n + 1 + 1 := by omega
theorem ne_78 (n : Nat) : n + 1 + 1 + 1 ≠ n + 1 + 1 := by omega
set_option maxHeartbeats 4000000 in
theorem rtwo10_any (v : Value) (s : List Pr) (A B : Option Addr) (n m c d : Nat) (a b : Ox) (w : World) (hv : PS w v s) (hA : SV w (.slice A n c) (bys a.b)) (hB : SV w (.slice B m d) (bys b.b)) (hq : Asks s a b) :
    Calls Tryd.prog 30 #[v, ov (.slice A n c) a, ov (.slice B m d) b] w (Twoed s a b w) := by
  obtain ⟨Av, cv', rfl⟩ := hv.slice
  have S1 := fun w' (hw : PS w' (.slice Av s.length cv') s) (hx : SV w' (.slice A n c) (bys a.b)) => rstep9_any w' _ s A n c a hw hq.st hq.i64 hx (by have := hq.ab.2.1; omega) hq.ab.2.2 (by have := hq.len; omega)
  have S2 := fun w' v1 (hw : PS w' v1 (stepX s a).1) (hx : SV w' (.slice B m d) (bys b.b)) => rstep9_any w' v1 (stepX s a).1 B m d b hw (step_st hq.st a) (step_in64 hq.i64 hq.ab.2.2) hx (by have := hq.bb.2.1; omega) hq.bb.2.2 (by have := hq.len; have := step_len s a; omega)
  have HV := Lib.hid hv
  have HA := Lib.hid hA
  have HB := Lib.hid hB
  obtain ⟨r1, hr1⟩ : ∃ r, stepX s a = r := ⟨_, rfl⟩
  obtain ⟨r2, hr2⟩ : ∃ r, stepX r1.1 b = r := ⟨_, rfl⟩
  unfold Stepped9 at S1 S2
  rw [hr1] at S1 S2
  rw [hr2] at S2
  unfold ov kst at S1 S2 ⊢
  replace S1 := Lib.hid S1
  replace S2 := Lib.hid S2
  replace hr1 := Lib.hid hr1
  replace hr2 := Lib.hid hr2
  clear hv hA hB hq
  go_enter Tryd.func30, Tryd.ntmps30
  go_wp2_with fail
  have p5 := Lib.hid (((Whole.second w (.cells #[.int .i64 a.d, .string ⟨a.k.toArray⟩, .slice A n c, .int .i64 a.lo, .int .i64 a.hi, .int .i64 a.n] 24) 24 #[.int .i64 b.d, .string ⟨b.k.toArray⟩, .slice B m d, .int .i64 b.lo, .int .i64 b.hi, .int .i64 b.n]).later (.cells #[.int .i64 0, .int .i64 0, .slice none 0 0, .int .i64 0, .int .i64 0, .int .i64 0] 56)).later (.cells #[.int .i64 0, .int .i64 0, .slice none 0 0, .int .i64 0, .int .i64 0, .int .i64 0] 56))
  have p7 := Lib.hid ((Whole.third w (.cells #[.int .i64 a.d, .string ⟨a.k.toArray⟩, .slice A n c, .int .i64 a.lo, .int .i64 a.hi, .int .i64 a.n] 24) (.cells #[.int .i64 b.d, .string ⟨b.k.toArray⟩, .slice B m d, .int .i64 b.lo, .int .i64 b.hi, .int .i64 b.n] 24) 56 #[.int .i64 0, .int .i64 0, .slice none 0 0, .int .i64 0, .int .i64 0, .int .i64 0]).later (.cells #[.int .i64 0, .int .i64 0, .slice none 0 0, .int .i64 0, .int .i64 0, .int .i64 0] 56))
  have p8 := Lib.hid (fourth w (.cells #[.int .i64 a.d, .string ⟨a.k.toArray⟩, .slice A n c, .int .i64 a.lo, .int .i64 a.hi, .int .i64 a.n] 24) (.cells #[.int .i64 b.d, .string ⟨b.k.toArray⟩, .slice B m d, .int .i64 b.lo, .int .i64 b.hi, .int .i64 b.n] 24) (.cells #[.int .i64 0, .int .i64 0, .slice none 0 0, .int .i64 0, .int .i64 0, .int .i64 0] 56) 56 #[.int .i64 0, .int .i64 0, .slice none 0 0, .int .i64 0, .int .i64 0, .int .i64 0])
  have B0 := Lib.hid (four_more (Below.refl _ w) (.cells #[.int .i64 a.d, .string ⟨a.k.toArray⟩, .slice A n c, .int .i64 a.lo, .int .i64 a.hi, .int .i64 a.n] 24) (.cells #[.int .i64 b.d, .string ⟨b.k.toArray⟩, .slice B m d, .int .i64 b.lo, .int .i64 b.hi, .int .i64 b.n] 24) (.cells #[.int .i64 0, .int .i64 0, .slice none 0 0, .int .i64 0, .int .i64 0, .int .i64 0] 56) (.cells #[.int .i64 0, .int .i64 0, .slice none 0 0, .int .i64 0, .int .i64 0, .int .i64 0] 56))
  generalize (((w.alloc (.cells #[.int .i64 a.d, .string ⟨a.k.toArray⟩, .slice A n c, .int .i64 a.lo, .int .i64 a.hi, .int .i64 a.n] 24)).alloc (.cells #[.int .i64 b.d, .string ⟨b.k.toArray⟩, .slice B m d, .int .i64 b.lo, .int .i64 b.hi, .int .i64 b.n] 24)).alloc (.cells #[.int .i64 0, .int .i64 0, .slice none 0 0, .int .i64 0, .int .i64 0, .int .i64 0] 56)).alloc (.cells #[.int .i64 0, .int .i64 0, .slice none 0 0, .int .i64 0, .int .i64 0, .int .i64 0] 56) = w0 at *
  refine (S1.out w0 (HV.out.on B0.out) (HA.out.keep (Keeps.below B0.out))).mono ?_
  rintro e w1 ⟨v1, D1, rfl, hp1, hd1, b1⟩
  obtain ⟨A1, n1, c1, rfl⟩ := sv_sl hd1
  replace hp1 := Lib.hid hp1
  replace hd1 := Lib.hid hd1
  replace p5 := Lib.hid (p5.out.on b1)
  replace p7 := Lib.hid (p7.out.on b1)
  replace p8 := Lib.hid (p8.out.on b1)
  have B1 := Lib.hid (B0.out.trans (b1.mono B0.out.size))
  clear b1 B0 S1
  unfold av
  go_wp2_with (first
    | (show wpList _ _ _ (Oper.mk _ (.store _ (.tmp 10) _) _ _ _ _ :: _) _ _; refine wpList_store_row rfl _ (.tmp 10) (.tmp 18) rfl (w1).heap.size _ rfl rfl _ _ (Whole.made (w1) _ _) (by kernel_rfl) rfl (by simp [Value.oneCell']) ?_; rw [World.setRow_alloc_new]; generalize hW : World.alloc _ _ = w2; have p10 := Lib.hid (made_eq hW).1; have b2 := Lib.hid (made_eq hW).2; clear hW; replace hp1 := Lib.hid (hp1.out.on b2.out); replace hd1 := Lib.hid (hd1.out.keep (Keeps.below b2.out)); replace p5 := Lib.hid (p5.out.on b2.out); replace p7 := Lib.hid (p7.out.on b2.out); replace p8 := Lib.hid (p8.out.on b2.out); have B2 := Lib.hid (B1.out.trans (b2.out.mono B1.out.size)); clear b2)
    | (show wpList _ _ _ (Oper.mk _ (.load _ (.tmp 5)) _ _ _ _ :: _) _ _; refine wpList_load_row rfl 24 (.tmp 5) rfl (w.heap.size + 1) rfl _ _ _ _ (p5.out) Tryd.underlying24 rfl (by kernel_rfl) ?_))
  refine (S2.out w2 _ hp1.out (HB.out.keep (Keeps.below B2.out))).mono ?_
  rintro e w3 ⟨v2, D2, rfl, hp2, hd2, b3⟩
  obtain ⟨A2, n2, c2, rfl⟩ := sv_sl hd2
  replace hp2 := Lib.hid hp2
  replace hd2 := Lib.hid hd2
  replace hd1 := Lib.hid (hd1.out.keep (Keeps.below b3))
  replace p7 := Lib.hid (p7.out.on b3)
  replace p8 := Lib.hid (p8.out.on b3)
  replace p10 := Lib.hid (p10.out.on b3)
  have B3 := Lib.hid (B2.out.trans (b3.mono B2.out.size))
  have hl3 := Lib.hid p8.out.lt
  clear b3 B2 B1 S2 p5
  unfold av
  go_wp2_with (show wpList _ _ _ (Oper.mk _ (.store _ (.tmp 12) _) _ _ _ _ :: _) _ _; refine wpList_store_row rfl _ (.tmp 12) (.tmp 24) rfl (w3).heap.size _ rfl rfl _ _ (Whole.made (w3) _ _) (by kernel_rfl) rfl (by simp [Value.oneCell']) ?_; rw [World.setRow_alloc_new]; generalize hW : World.alloc _ _ = w4; have p12 := Lib.hid (made_eq hW).1; have b4 := Lib.hid (made_eq hW).2; clear hW; replace hp2 := Lib.hid (hp2.out.on b4.out); replace hd2 := Lib.hid (hd2.out.keep (Keeps.below b4.out)); replace hd1 := Lib.hid (hd1.out.keep (Keeps.below b4.out)); replace p7 := Lib.hid (p7.out.on b4.out); replace p8 := Lib.hid (p8.out.on b4.out); replace p10 := Lib.hid (p10.out.on b4.out); have B4 := Lib.hid (B3.out.trans (b4.out.mono B3.out.size)); clear b4)
  clear hp1
  have xa0 : w4.cell? ⟨w1.heap.size, 0, none⟩ = some (.int .i64 r1.2.e) := p10.out.cell 0
  have xa1 : w4.cell? ⟨w1.heap.size, 1, none⟩ = some (.int .i64 r1.2.c.k) := p10.out.cell 1
  have xa2 : w4.cell? ⟨w1.heap.size, 2, none⟩ = some (.slice A1 n1 c1) := p10.out.cell 2
  have xa3 : w4.cell? ⟨w1.heap.size, 3, none⟩ = some (.int .i64 r1.2.c.lo) := p10.out.cell 3
  have xa4 : w4.cell? ⟨w1.heap.size, 4, none⟩ = some (.int .i64 r1.2.c.hi) := p10.out.cell 4
  have xa5 : w4.cell? ⟨w1.heap.size, 5, none⟩ = some (.int .i64 r1.2.c.v) := p10.out.cell 5
  have xb0 : w4.cell? ⟨w3.heap.size, 0, none⟩ = some (.int .i64 r2.2.e) := p12.out.cell 0
  have xb1 : w4.cell? ⟨w3.heap.size, 1, none⟩ = some (.int .i64 r2.2.c.k) := p12.out.cell 1
  have xb2 : w4.cell? ⟨w3.heap.size, 2, none⟩ = some (.slice A2 n2 c2) := p12.out.cell 2
  have xb3 : w4.cell? ⟨w3.heap.size, 3, none⟩ = some (.int .i64 r2.2.c.lo) := p12.out.cell 3
  have xb4 : w4.cell? ⟨w3.heap.size, 4, none⟩ = some (.int .i64 r2.2.c.hi) := p12.out.cell 4
  have xb5 : w4.cell? ⟨w3.heap.size, 5, none⟩ = some (.int .i64 r2.2.c.v) := p12.out.cell 5
  have ta0 : w4.cell? ⟨w.heap.size + 1 + 1, 0, none⟩ = some (.int .i64 0) := p7.out.cell 0
  have ta1 : w4.cell? ⟨w.heap.size + 1 + 1, 1, none⟩ = some (.int .i64 0) := p7.out.cell 1
  have ta2 : w4.cell? ⟨w.heap.size + 1 + 1, 2, none⟩ = some (.slice none 0 0) := p7.out.cell 2
  have ta3 : w4.cell? ⟨w.heap.size + 1 + 1, 3, none⟩ = some (.int .i64 0) := p7.out.cell 3
  have ta4 : w4.cell? ⟨w.heap.size + 1 + 1, 4, none⟩ = some (.int .i64 0) := p7.out.cell 4
  have ta5 : w4.cell? ⟨w.heap.size + 1 + 1, 5, none⟩ = some (.int .i64 0) := p7.out.cell 5
  have tb0 : w4.cell? ⟨w.heap.size + 1 + 1 + 1, 0, none⟩ = some (.int .i64 0) := p8.out.cell 0
  have tb1 : w4.cell? ⟨w.heap.size + 1 + 1 + 1, 1, none⟩ = some (.int .i64 0) := p8.out.cell 1
  have tb2 : w4.cell? ⟨w.heap.size + 1 + 1 + 1, 2, none⟩ = some (.slice none 0 0) := p8.out.cell 2
  have tb3 : w4.cell? ⟨w.heap.size + 1 + 1 + 1, 3, none⟩ = some (.int .i64 0) := p8.out.cell 3
  have tb4 : w4.cell? ⟨w.heap.size + 1 + 1 + 1, 4, none⟩ = some (.int .i64 0) := p8.out.cell 4
  have tb5 : w4.cell? ⟨w.heap.size + 1 + 1 + 1, 5, none⟩ = some (.int .i64 0) := p8.out.cell 5
  have fa0 := p7.out.free 0
  have fa1 := p7.out.free 1
  have fa2 := p7.out.free 2
  have fa3 := p7.out.free 3
  have fa4 := p7.out.free 4
  have fa5 := p7.out.free 5
  have fb0 := p8.out.free 0
  have fb1 := p8.out.free 1
  have fb2 := p8.out.free 2
  have fb3 := p8.out.free 3
  have fb4 := p8.out.free 4
  have fb5 := p8.out.free 5
  have na : ¬ w3.heap.size = w.heap.size + 1 + 1 := by have := hl3.out; omega
  have nb : ¬ w3.heap.size = w.heap.size + 1 + 1 + 1 := by have := hl3.out; omega
  refine wp_cutz (fun w' => PS w' v2 r2.1 ∧ SV w' (.slice A1 n1 c1) (bys r1.2.c.d) ∧ SV w' (.slice A2 n2 c2) (bys r2.2.c.d) ∧ Whole w' (w.heap.size + 1 + 1) 56 #[.int .i64 r1.2.e, .int .i64 r1.2.c.k, .slice A1 n1 c1, .int .i64 r1.2.c.lo, .int .i64 r1.2.c.hi, .int .i64 r1.2.c.v] ∧ Whole w' (w.heap.size + 1 + 1 + 1) 56 #[.int .i64 r2.2.e, .int .i64 r2.2.c.k, .slice A2 n2 c2, .int .i64 r2.2.c.lo, .int .i64 r2.2.c.hi, .int .i64 r2.2.c.v] ∧ Below w.heap.size w w') ?_
  apply Exists.intro
  refine And.intro ?_ ?_
  · simp only [Act.put]
    go_region
    all_goals
      have h7 := set6 p7.out (.int .i64 r1.2.e) (.int .i64 r1.2.c.k) (.slice A1 n1 c1) (.int .i64 r1.2.c.lo) (.int .i64 r1.2.c.hi) (.int .i64 r1.2.c.v)
      have q8 := p8.out.but h7.2 (ne_78 _)
      have h8 := set6 q8 (.int .i64 r2.2.e) (.int .i64 r2.2.c.k) (.slice A2 n2 c2) (.int .i64 r2.2.c.lo) (.int .i64 r2.2.c.hi) (.int .i64 r2.2.c.v)
      have B7 := But.below B4.out h7.2 (le_two' _) B4.out.size
      have B8 := But.below B7 h8.2 (three_le _) B7.size
      exact ⟨rfl, ((hp2.out.but p7.out zA_nu zA_ns h7.2).but q8 zA_nu zA_ns h8.2).keep (Keeps.drew _), (sv_blk' q8 zA_nu (sv_blk' p7.out zA_nu hd1.out h7.2) h8.2).keep (Keeps.drew _), (sv_blk' q8 zA_nu (sv_blk' p7.out zA_nu hd2.out h7.2) h8.2).keep (Keeps.drew _), whole_drew (h7.1.but h8.2 (ne_78 _).symm), whole_drew h8.1, below_drew B8⟩
  · clear xa0 xa1 xa2 xa3 xa4 xa5 xb0 xb1 xb2 xb3 xb4 xb5 ta0 ta1 ta2 ta3 ta4 ta5 tb0 tb1 tb2 tb3 tb4 tb5 fa0 fa1 fa2 fa3 fa4 fa5 fb0 fb1 fb2 fb3 fb4 fb5 na nb p7 p8 p10 p12 hp2 hd1 hd2 B4 B3
    rintro w5 ⟨hp5, hs1, hs2, q7, q8, B5⟩
    replace hp5 := Lib.hid hp5
    replace hs1 := Lib.hid hs1
    replace hs2 := Lib.hid hs2
    replace q7 := Lib.hid q7
    replace q8 := Lib.hid q8
    replace B5 := Lib.hid B5
    have hT : Hid (Twoed s a b w (.returned (.tuple #[v2, .agg #[.int .i64 r1.2.e, .int .i64 r1.2.c.k, .slice A1 n1 c1, .int .i64 r1.2.c.lo, .int .i64 r1.2.c.hi, .int .i64 r1.2.c.v], .agg #[.int .i64 r2.2.e, .int .i64 r2.2.c.k, .slice A2 n2 c2, .int .i64 r2.2.c.lo, .int .i64 r2.2.c.hi, .int .i64 r2.2.c.v]])) w5) := Lib.hid (twoed_of hr1.out hr2.out ⟨v2, .slice A1 n1 c1, .slice A2 n2 c2, rfl, hp5.out, hs1.out, hs2.out, B5.out⟩)
    go_wp2
    refine bodyPost_ret (v := .tuple #[v2, .agg #[.int .i64 r1.2.e, .int .i64 r1.2.c.k, .slice A1 n1 c1, .int .i64 r1.2.c.lo, .int .i64 r1.2.c.hi, .int .i64 r1.2.c.v], .agg #[.int .i64 r2.2.e, .int .i64 r2.2.c.k, .slice A2 n2 c2, .int .i64 r2.2.c.lo, .int .i64 r2.2.c.hi, .int .i64 r2.2.c.v]]) ?_ rfl hT.out
    exact results_tmp_cell2 rfl _ _ (w.heap.size + 1 + 1) (w.heap.size + 1 + 1 + 1) _ _ _ _ (0, 0) (0, 0) _ _ rfl q7.out rfl q8.out Tryd.underlying56 rfl (by kernel_rfl) Tryd.underlying56 rfl (by kernel_rfl) _ rfl
/-- Do two orders come to the same? -/
def swapB (s : List Pr) (a b : Ox) : Bool := eqS (twoX s a b).1 (twoX s b a).1 && (eqA (twoX s a b).2.1 (twoX s b a).2.2 && eqA (twoX s a b).2.2 (twoX s b a).2.1)
def tightB (s : List Pr) (a b : Ox) : Bool := ((twoX s a b).2.1.e != 8) && (((twoX s a b).2.2.e != 8) && (((twoX s b a).2.1.e != 8) && ((twoX s b a).2.2.e != 8)))
theorem swapB_of {s : List Pr} {a b : Ox} (h : swaps s a b) : swapB s a b = true := by
  unfold swapB
  rw [h.1, h.2.1, h.2.2, eqS_self]
  simp [eqA, sameC_self]
theorem tight_of {s : List Pr} {a b : Ox} (h : tightB s a b = true) : tightX s a b := by
  simpa [tightB, tightX, bne_iff_ne] using h
/-- What commutes can be swapped. -/
theorem swapB_comm {s : List Pr} (h : St s) {a b : Ox} (hc : commX a b = true) (ht : tightB s a b = true) : swapB s a b = true := swapB_of (swap_comm h hc (tight_of ht))
set_option maxHeartbeats 4000000 in
theorem rswap10_any (v : Value) (s : List Pr) (A B : Option Addr) (n m c d : Nat) (a b : Ox) (w : World) (hv : PS w v s) (hA : SV w (.slice A n c) (bys a.b)) (hB : SV w (.slice B m d) (bys b.b)) (hq : Asks s a b) :
    Calls Tryd.prog 18 #[v, ov (.slice A n c) a, ov (.slice B m d) b] w fun e w' => e = .returned (.bool (swapB s a b)) ∧ Below w.heap.size w w' := by
  unfold swapB
  obtain ⟨Av, cv', rfl⟩ := hv.slice
  have T1 := fun w' (hw : PS w' (.slice Av s.length cv') s) (hx : SV w' (.slice A n c) (bys a.b)) (hy : SV w' (.slice B m d) (bys b.b)) => rtwo10_any _ s A B n m c d a b w' hw hx hy hq
  have T2 := fun w' (hw : PS w' (.slice Av s.length cv') s) (hx : SV w' (.slice A n c) (bys a.b)) (hy : SV w' (.slice B m d) (bys b.b)) => rtwo10_any _ s B A m n d c b a w' hw hy hx hq.swap
  have HV := Lib.hid hv
  have HA := Lib.hid hA
  have HB := Lib.hid hB
  unfold Twoed at T1 T2
  generalize twoX s a b = R at *
  generalize twoX s b a = Q at *
  unfold ov kst at T1 T2 ⊢
  replace T1 := Lib.hid T1
  replace T2 := Lib.hid T2
  clear hv hA hB hq
  go_enter Tryd.func18, Tryd.ntmps18
  go_wp2_with fail
  have p4 := Lib.hid ((Whole.made w 24 #[.int .i64 a.d, .string ⟨a.k.toArray⟩, .slice A n c, .int .i64 a.lo, .int .i64 a.hi, .int .i64 a.n]).later (.cells #[.int .i64 b.d, .string ⟨b.k.toArray⟩, .slice B m d, .int .i64 b.lo, .int .i64 b.hi, .int .i64 b.n] 24))
  have p5 := Lib.hid (Whole.second w (.cells #[.int .i64 a.d, .string ⟨a.k.toArray⟩, .slice A n c, .int .i64 a.lo, .int .i64 a.hi, .int .i64 a.n] 24) 24 #[.int .i64 b.d, .string ⟨b.k.toArray⟩, .slice B m d, .int .i64 b.lo, .int .i64 b.hi, .int .i64 b.n])
  have B0 := Lib.hid (two_more (Below.refl _ w) (.cells #[.int .i64 a.d, .string ⟨a.k.toArray⟩, .slice A n c, .int .i64 a.lo, .int .i64 a.hi, .int .i64 a.n] 24) (.cells #[.int .i64 b.d, .string ⟨b.k.toArray⟩, .slice B m d, .int .i64 b.lo, .int .i64 b.hi, .int .i64 b.n] 24))
  generalize (w.alloc (.cells #[.int .i64 a.d, .string ⟨a.k.toArray⟩, .slice A n c, .int .i64 a.lo, .int .i64 a.hi, .int .i64 a.n] 24)).alloc (.cells #[.int .i64 b.d, .string ⟨b.k.toArray⟩, .slice B m d, .int .i64 b.lo, .int .i64 b.hi, .int .i64 b.n] 24) = w0 at *
  refine (T1.out w0 (HV.out.on B0.out) (HA.out.keep (Keeps.below B0.out)) (HB.out.keep (Keeps.below B0.out))).mono ?_
  rintro e w1 ⟨v1, D1, D2, rfl, hp1, hx, hy, b1⟩
  obtain ⟨A1, c1, rfl, _⟩ := id hx
  obtain ⟨A2, c2, rfl, _⟩ := id hy
  rw [bys_len] at hx hy ⊢
  rw [bys_len]
  obtain ⟨E1, f1, rfl⟩ := hp1.slice
  replace hp1 := Lib.hid hp1
  replace hx := Lib.hid hx
  replace hy := Lib.hid hy
  replace p4 := Lib.hid (p4.out.on b1)
  replace p5 := Lib.hid (p5.out.on b1)
  have B1 := Lib.hid (B0.out.trans (b1.mono B0.out.size))
  clear b1 B0 T1
  unfold av
  go_wp2_with (first
    | ((show wpList _ _ _ (Oper.mk _ (.store _ (.tmp 8) _) _ _ _ _ :: _) _ _; refine wpList_store_row rfl _ (.tmp 8) (.tmp 19) rfl (w1.heap.size) _ rfl rfl _ _ ((Whole.made w1 56 #[.int .i64 0, .int .i64 0, .slice none 0 0, .int .i64 0, .int .i64 0, .int .i64 0]).later (.cells #[.int .i64 0, .int .i64 0, .slice none 0 0, .int .i64 0, .int .i64 0, .int .i64 0] 56)) (by kernel_rfl) rfl (by simp [Value.oneCell']) ?_); generalize hS : World.setRow _ _ _ = w2; have hbt := (hS ▸ but_setRow _ _ _ : But w1.heap.size ((w1.alloc (.cells #[.int .i64 0, .int .i64 0, .slice none 0 0, .int .i64 0, .int .i64 0, .int .i64 0] 56)).alloc (.cells #[.int .i64 0, .int .i64 0, .slice none 0 0, .int .i64 0, .int .i64 0, .int .i64 0] 56)) w2); have p8 : Hid (Whole w2 w1.heap.size 56 #[.int .i64 R.2.1.e, .int .i64 R.2.1.c.k, .slice A1 R.2.1.c.d.length c1, .int .i64 R.2.1.c.lo, .int .i64 R.2.1.c.hi, .int .i64 R.2.1.c.v]) := Lib.hid (hS ▸ setRow_heap _ _ _ _ _ _ ((Whole.made w1 56 #[.int .i64 0, .int .i64 0, .slice none 0 0, .int .i64 0, .int .i64 0, .int .i64 0]).later (.cells #[.int .i64 0, .int .i64 0, .slice none 0 0, .int .i64 0, .int .i64 0, .int .i64 0] 56))); have p9 := Lib.hid ((Whole.second w1 (.cells #[.int .i64 0, .int .i64 0, .slice none 0 0, .int .i64 0, .int .i64 0, .int .i64 0] 56) 56 #[.int .i64 0, .int .i64 0, .slice none 0 0, .int .i64 0, .int .i64 0, .int .i64 0]).but hbt (Nat.succ_ne_self _)); have hbx : Hid (Below w1.heap.size w1 w2) := Lib.hid (hS ▸ below_setRow (two_more (Below.refl _ w1) _ _) (Nat.le_refl _) _); clear hS hbt)
    | ((show wpList _ _ _ (Oper.mk _ (.store _ (.tmp 9) _) _ _ _ _ :: _) _ _; refine wpList_store_row rfl _ (.tmp 9) (.tmp 20) rfl (w1.heap.size + 1) _ rfl rfl _ _ (p9.out) (by kernel_rfl) rfl (by simp [Value.oneCell']) ?_); generalize hS : World.setRow w2 _ _ = w3; have hbt : But (w1.heap.size + 1) w2 w3 := hS ▸ but_setRow _ _ _; replace p8 := Lib.hid (p8.out.but hbt (Nat.succ_ne_self _).symm); replace p9 : Hid (Whole w3 (w1.heap.size + 1) 56 #[.int .i64 R.2.2.e, .int .i64 R.2.2.c.k, .slice A2 R.2.2.c.d.length c2, .int .i64 R.2.2.c.lo, .int .i64 R.2.2.c.hi, .int .i64 R.2.2.c.v]) := Lib.hid (hS ▸ setRow_heap _ _ _ _ _ _ p9.out); replace hbx : Hid (Below w1.heap.size w1 w3) := Lib.hid (hS ▸ below_setRow hbx.out (Nat.le_succ _) _); clear hS hbt; replace hp1 := Lib.hid (hp1.out.on hbx.out); replace hx := Lib.hid (hx.out.keep (Keeps.below hbx.out)); replace hy := Lib.hid (hy.out.keep (Keeps.below hbx.out)); replace p4 := Lib.hid (p4.out.on hbx.out); replace p5 := Lib.hid (p5.out.on hbx.out); have B3 := Lib.hid (B1.out.trans (hbx.out.mono B1.out.size)); clear hbx)
    | (show wpList _ _ _ (Oper.mk _ (.load _ (.tmp 5)) _ _ _ _ :: _) _ _; refine wpList_load_row rfl 24 (.tmp 5) rfl (w.heap.size + 1) rfl _ _ _ _ (p5.out) Tryd.underlying24 rfl (by kernel_rfl) ?_)
    | (show wpList _ _ _ (Oper.mk _ (.load _ (.tmp 4)) _ _ _ _ :: _) _ _; refine wpList_load_row rfl 24 (.tmp 4) rfl (w.heap.size) rfl _ _ _ _ (p4.out) Tryd.underlying24 rfl (by kernel_rfl) ?_))
  refine (T2.out w3 (HV.out.keep (Keeps.below B3.out)) (HA.out.keep (Keeps.below B3.out)) (HB.out.keep (Keeps.below B3.out))).mono ?_
  rintro e w4 ⟨v4, D3, D4, rfl, hp4, hz, ht, b4⟩
  obtain ⟨A3, c3, rfl, _⟩ := id hz
  obtain ⟨A4, c4, rfl, _⟩ := id ht
  rw [bys_len] at hz ht ⊢
  rw [bys_len]
  obtain ⟨E4, f4, rfl⟩ := hp4.slice
  replace hp1 := Lib.hid (hp1.out.on b4)
  replace hx := Lib.hid (hx.out.keep (Keeps.below b4))
  replace hy := Lib.hid (hy.out.keep (Keeps.below b4))
  replace p8 := Lib.hid (p8.out.on b4)
  replace p9 := Lib.hid (p9.out.on b4)
  replace hp4 := Lib.hid hp4
  replace hz := Lib.hid hz
  replace ht := Lib.hid ht
  have B4 := Lib.hid (B3.out.trans (b4.mono B3.out.size))
  clear b4 B3 B1 T2 p4 p5
  unfold av
  go_wp2_with (first
    | ((show wpList _ _ _ (Oper.mk _ (.store _ (.tmp 11) _) _ _ _ _ :: _) _ _; refine wpList_store_row rfl _ (.tmp 11) (.tmp 27) rfl (w4.heap.size) _ rfl rfl _ _ ((Whole.made w4 56 #[.int .i64 0, .int .i64 0, .slice none 0 0, .int .i64 0, .int .i64 0, .int .i64 0]).later (.cells #[.int .i64 0, .int .i64 0, .slice none 0 0, .int .i64 0, .int .i64 0, .int .i64 0] 56)) (by kernel_rfl) rfl (by simp [Value.oneCell']) ?_); generalize hS : World.setRow _ _ _ = w5; have hbt := (hS ▸ but_setRow _ _ _ : But w4.heap.size ((w4.alloc (.cells #[.int .i64 0, .int .i64 0, .slice none 0 0, .int .i64 0, .int .i64 0, .int .i64 0] 56)).alloc (.cells #[.int .i64 0, .int .i64 0, .slice none 0 0, .int .i64 0, .int .i64 0, .int .i64 0] 56)) w5); have p11 : Hid (Whole w5 w4.heap.size 56 #[.int .i64 Q.2.1.e, .int .i64 Q.2.1.c.k, .slice A3 Q.2.1.c.d.length c3, .int .i64 Q.2.1.c.lo, .int .i64 Q.2.1.c.hi, .int .i64 Q.2.1.c.v]) := Lib.hid (hS ▸ setRow_heap _ _ _ _ _ _ ((Whole.made w4 56 #[.int .i64 0, .int .i64 0, .slice none 0 0, .int .i64 0, .int .i64 0, .int .i64 0]).later (.cells #[.int .i64 0, .int .i64 0, .slice none 0 0, .int .i64 0, .int .i64 0, .int .i64 0] 56))); have p12 := Lib.hid ((Whole.second w4 (.cells #[.int .i64 0, .int .i64 0, .slice none 0 0, .int .i64 0, .int .i64 0, .int .i64 0] 56) 56 #[.int .i64 0, .int .i64 0, .slice none 0 0, .int .i64 0, .int .i64 0, .int .i64 0]).but hbt (Nat.succ_ne_self _)); have hbx : Hid (Below w4.heap.size w4 w5) := Lib.hid (hS ▸ below_setRow (two_more (Below.refl _ w4) _ _) (Nat.le_refl _) _); clear hS hbt)
    | ((show wpList _ _ _ (Oper.mk _ (.store _ (.tmp 12) _) _ _ _ _ :: _) _ _; refine wpList_store_row rfl _ (.tmp 12) (.tmp 28) rfl (w4.heap.size + 1) _ rfl rfl _ _ (p12.out) (by kernel_rfl) rfl (by simp [Value.oneCell']) ?_); generalize hS : World.setRow w5 _ _ = w6; have hbt : But (w4.heap.size + 1) w5 w6 := hS ▸ but_setRow _ _ _; replace p11 := Lib.hid (p11.out.but hbt (Nat.succ_ne_self _).symm); replace p12 : Hid (Whole w6 (w4.heap.size + 1) 56 #[.int .i64 Q.2.2.e, .int .i64 Q.2.2.c.k, .slice A4 Q.2.2.c.d.length c4, .int .i64 Q.2.2.c.lo, .int .i64 Q.2.2.c.hi, .int .i64 Q.2.2.c.v]) := Lib.hid (hS ▸ setRow_heap _ _ _ _ _ _ p12.out); replace hbx : Hid (Below w4.heap.size w4 w6) := Lib.hid (hS ▸ below_setRow hbx.out (Nat.le_succ _) _); clear hS hbt; replace hp1 := Lib.hid (hp1.out.on hbx.out); replace hx := Lib.hid (hx.out.keep (Keeps.below hbx.out)); replace hy := Lib.hid (hy.out.keep (Keeps.below hbx.out)); replace hp4 := Lib.hid (hp4.out.on hbx.out); replace hz := Lib.hid (hz.out.keep (Keeps.below hbx.out)); replace ht := Lib.hid (ht.out.keep (Keeps.below hbx.out)); replace p8 := Lib.hid (p8.out.on hbx.out); replace p9 := Lib.hid (p9.out.on hbx.out); have B6 := Lib.hid (B4.out.trans (hbx.out.mono B4.out.size)); skip; clear hbx))
  have SS := rsame9_any _ _ R.1 Q.1 w6 hp1.out hp4.out
  have S1 := fun w' (hw : Below w6.heap.size w6 w') => rsameAnswer9_any R.2.1 Q.2.2 A1 A4 c1 c4 w' (hx.out.keep (Keeps.below hw)) (ht.out.keep (Keeps.below hw))
  have S2 := fun w' (hw : Below w6.heap.size w6 w') => rsameAnswer9_any R.2.2 Q.2.1 A2 A3 c2 c3 w' (hy.out.keep (Keeps.below hw)) (hz.out.keep (Keeps.below hw))
  unfold av at S1 S2
  cases h1 : eqS R.1 Q.1 with
  | false =>
    rw [h1] at SS
    replace SS := Lib.hid SS
    replace h1 := Lib.hid h1
    clear S1 S2
    refine SS.out.mono ?_
    rintro e w7 ⟨rfl, b7⟩
    have B7 := Lib.hid (B6.out.trans (b7.mono B6.out.size))
    clear b7 SS
    go_wp2
    go_ret
    exact ⟨by rw [h1.out]; rfl, B7.out⟩
  | true =>
    rw [h1] at SS
    replace SS := Lib.hid SS
    replace h1 := Lib.hid h1
    refine SS.out.mono ?_
    rintro e w7 ⟨rfl, b7⟩
    have B7 := Lib.hid (B6.out.trans (b7.mono B6.out.size))
    have k7 := Lib.hid b7
    replace p8 := Lib.hid (p8.out.on b7)
    replace p9 := Lib.hid (p9.out.on b7)
    replace p11 := Lib.hid (p11.out.on b7)
    replace p12 := Lib.hid (p12.out.on b7)
    clear b7 SS
    cases h2 : eqA R.2.1 Q.2.2 with
    | false =>
      rw [h2] at S1
      replace S1 := Lib.hid S1
      replace h2 := Lib.hid h2
      clear S2
      go_wp2_with (first
        | (show wpList _ _ _ (Oper.mk _ (.load _ (.tmp 8)) _ _ _ _ :: _) _ _; refine wpList_load_rowg rfl 56 (.tmp 8) rfl (w1.heap.size) rfl _ _ _ _ (p8.out) Tryd.underlying56 rfl (by kernel_rfl) ?_)
        | (show wpList _ _ _ (Oper.mk _ (.load _ (.tmp 12)) _ _ _ _ :: _) _ _; refine wpList_load_rowg rfl 56 (.tmp 12) rfl (w4.heap.size + 1) rfl _ _ _ _ (p12.out) Tryd.underlying56 rfl (by kernel_rfl) ?_))
      refine (S1.out w7 k7.out).mono ?_
      rintro e w8 ⟨rfl, b8⟩
      have B8 := Lib.hid (B7.out.trans (b8.mono B7.out.size))
      clear b8 S1
      go_wp2
      go_ret
      exact ⟨by rw [h1.out, h2.out]; rfl, B8.out⟩
    | true =>
      rw [h2] at S1
      replace S1 := Lib.hid S1
      replace S2 := Lib.hid S2
      replace h2 := Lib.hid h2
      go_wp2_with (first
        | (show wpList _ _ _ (Oper.mk _ (.load _ (.tmp 8)) _ _ _ _ :: _) _ _; refine wpList_load_rowg rfl 56 (.tmp 8) rfl (w1.heap.size) rfl _ _ _ _ (p8.out) Tryd.underlying56 rfl (by kernel_rfl) ?_)
        | (show wpList _ _ _ (Oper.mk _ (.load _ (.tmp 12)) _ _ _ _ :: _) _ _; refine wpList_load_rowg rfl 56 (.tmp 12) rfl (w4.heap.size + 1) rfl _ _ _ _ (p12.out) Tryd.underlying56 rfl (by kernel_rfl) ?_))
      refine (S1.out w7 k7.out).mono ?_
      rintro e w8 ⟨rfl, b8⟩
      have B8 := Lib.hid (B7.out.trans (b8.mono B7.out.size))
      have k8 := Lib.hid (k7.out.trans (b8.mono k7.out.size))
      replace p9 := Lib.hid (p9.out.on b8)
      replace p11 := Lib.hid (p11.out.on b8)
      clear b8 S1
      go_wp2_with (first
        | (show wpList _ _ _ (Oper.mk _ (.load _ (.tmp 9)) _ _ _ _ :: _) _ _; refine wpList_load_rowg rfl 56 (.tmp 9) rfl (w1.heap.size + 1) rfl _ _ _ _ (p9.out) Tryd.underlying56 rfl (by kernel_rfl) ?_)
        | (show wpList _ _ _ (Oper.mk _ (.load _ (.tmp 11)) _ _ _ _ :: _) _ _; refine wpList_load_rowg rfl 56 (.tmp 11) rfl (w4.heap.size) rfl _ _ _ _ (p11.out) Tryd.underlying56 rfl (by kernel_rfl) ?_))
      refine (S2.out w8 k8.out).mono ?_
      rintro e w9 ⟨rfl, b9⟩
      have B9 := Lib.hid (B8.out.trans (b9.mono B8.out.size))
      clear b9 S2
      go_wp2
      go_ret
      exact ⟨by rw [h1.out, h2.out]; simp, B9.out⟩
set_option maxHeartbeats 4000000 in
theorem rtight_1 (v : Value) (s : List Pr) (A B : Option Addr) (n m c d : Nat) (a b : Ox) (w : World) (hv : PS w v s) (hA : SV w (.slice A n c) (bys a.b)) (hB : SV w (.slice B m d) (bys b.b)) (hq : Asks s a b) (h1 : ((twoX s a b).2.1.e != 8) = false) :
    Calls Tryd.prog 19 #[v, ov (.slice A n c) a, ov (.slice B m d) b] w fun e w' => e = .returned (.bool (tightB s a b)) ∧ Below w.heap.size w w' := by
  unfold tightB
  skip
  obtain ⟨Av, cv', rfl⟩ := hv.slice
  have T1 := fun w' (hw : PS w' (.slice Av s.length cv') s) (hx : SV w' (.slice A n c) (bys a.b)) (hy : SV w' (.slice B m d) (bys b.b)) => rtwo10_any _ s A B n m c d a b w' hw hx hy hq
  have T2 := fun w' (hw : PS w' (.slice Av s.length cv') s) (hx : SV w' (.slice A n c) (bys a.b)) (hy : SV w' (.slice B m d) (bys b.b)) => rtwo10_any _ s B A m n d c b a w' hw hy hx hq.swap
  have HV := Lib.hid hv
  have HA := Lib.hid hA
  have HB := Lib.hid hB
  unfold Twoed at T1 T2
  generalize twoX s a b = R at *
  generalize twoX s b a = Q at *
  unfold ov kst at T1 T2 ⊢
  replace T1 := Lib.hid T1
  replace T2 := Lib.hid T2
  clear hv hA hB hq
  go_enter Tryd.func19, Tryd.ntmps19
  go_wp2_with fail
  have p4 := Lib.hid ((Whole.made w 24 #[.int .i64 a.d, .string ⟨a.k.toArray⟩, .slice A n c, .int .i64 a.lo, .int .i64 a.hi, .int .i64 a.n]).later (.cells #[.int .i64 b.d, .string ⟨b.k.toArray⟩, .slice B m d, .int .i64 b.lo, .int .i64 b.hi, .int .i64 b.n] 24))
  have p5 := Lib.hid (Whole.second w (.cells #[.int .i64 a.d, .string ⟨a.k.toArray⟩, .slice A n c, .int .i64 a.lo, .int .i64 a.hi, .int .i64 a.n] 24) 24 #[.int .i64 b.d, .string ⟨b.k.toArray⟩, .slice B m d, .int .i64 b.lo, .int .i64 b.hi, .int .i64 b.n])
  have B0 := Lib.hid (two_more (Below.refl _ w) (.cells #[.int .i64 a.d, .string ⟨a.k.toArray⟩, .slice A n c, .int .i64 a.lo, .int .i64 a.hi, .int .i64 a.n] 24) (.cells #[.int .i64 b.d, .string ⟨b.k.toArray⟩, .slice B m d, .int .i64 b.lo, .int .i64 b.hi, .int .i64 b.n] 24))
  generalize (w.alloc (.cells #[.int .i64 a.d, .string ⟨a.k.toArray⟩, .slice A n c, .int .i64 a.lo, .int .i64 a.hi, .int .i64 a.n] 24)).alloc (.cells #[.int .i64 b.d, .string ⟨b.k.toArray⟩, .slice B m d, .int .i64 b.lo, .int .i64 b.hi, .int .i64 b.n] 24) = w0 at *
  refine (T1.out w0 (HV.out.on B0.out) (HA.out.keep (Keeps.below B0.out)) (HB.out.keep (Keeps.below B0.out))).mono ?_
  rintro e w1 ⟨v1, D1, D2, rfl, hp1, hx, hy, b1⟩
  obtain ⟨A1, c1, rfl, _⟩ := id hx
  obtain ⟨A2, c2, rfl, _⟩ := id hy
  rw [bys_len] at hx hy ⊢
  rw [bys_len]
  obtain ⟨E1, f1, rfl⟩ := hp1.slice
  replace hp1 := Lib.hid hp1
  replace hx := Lib.hid hx
  replace hy := Lib.hid hy
  replace p4 := Lib.hid (p4.out.on b1)
  replace p5 := Lib.hid (p5.out.on b1)
  have B1 := Lib.hid (B0.out.trans (b1.mono B0.out.size))
  clear b1 B0 T1
  unfold av
  go_wp2_with (first
    | ((show wpList _ _ _ (Oper.mk _ (.store _ (.tmp 8) _) _ _ _ _ :: _) _ _; refine wpList_store_row rfl _ (.tmp 8) (.tmp 19) rfl (w1.heap.size) _ rfl rfl _ _ ((Whole.made w1 56 #[.int .i64 0, .int .i64 0, .slice none 0 0, .int .i64 0, .int .i64 0, .int .i64 0]).later (.cells #[.int .i64 0, .int .i64 0, .slice none 0 0, .int .i64 0, .int .i64 0, .int .i64 0] 56)) (by kernel_rfl) rfl (by simp [Value.oneCell']) ?_); generalize hS : World.setRow _ _ _ = w2; have hbt := (hS ▸ but_setRow _ _ _ : But w1.heap.size ((w1.alloc (.cells #[.int .i64 0, .int .i64 0, .slice none 0 0, .int .i64 0, .int .i64 0, .int .i64 0] 56)).alloc (.cells #[.int .i64 0, .int .i64 0, .slice none 0 0, .int .i64 0, .int .i64 0, .int .i64 0] 56)) w2); have p8 : Hid (Whole w2 w1.heap.size 56 #[.int .i64 R.2.1.e, .int .i64 R.2.1.c.k, .slice A1 R.2.1.c.d.length c1, .int .i64 R.2.1.c.lo, .int .i64 R.2.1.c.hi, .int .i64 R.2.1.c.v]) := Lib.hid (hS ▸ setRow_heap _ _ _ _ _ _ ((Whole.made w1 56 #[.int .i64 0, .int .i64 0, .slice none 0 0, .int .i64 0, .int .i64 0, .int .i64 0]).later (.cells #[.int .i64 0, .int .i64 0, .slice none 0 0, .int .i64 0, .int .i64 0, .int .i64 0] 56))); have p9 := Lib.hid ((Whole.second w1 (.cells #[.int .i64 0, .int .i64 0, .slice none 0 0, .int .i64 0, .int .i64 0, .int .i64 0] 56) 56 #[.int .i64 0, .int .i64 0, .slice none 0 0, .int .i64 0, .int .i64 0, .int .i64 0]).but hbt (Nat.succ_ne_self _)); have hbx : Hid (Below w1.heap.size w1 w2) := Lib.hid (hS ▸ below_setRow (two_more (Below.refl _ w1) _ _) (Nat.le_refl _) _); clear hS hbt)
    | ((show wpList _ _ _ (Oper.mk _ (.store _ (.tmp 9) _) _ _ _ _ :: _) _ _; refine wpList_store_row rfl _ (.tmp 9) (.tmp 20) rfl (w1.heap.size + 1) _ rfl rfl _ _ (p9.out) (by kernel_rfl) rfl (by simp [Value.oneCell']) ?_); generalize hS : World.setRow w2 _ _ = w3; have hbt : But (w1.heap.size + 1) w2 w3 := hS ▸ but_setRow _ _ _; replace p8 := Lib.hid (p8.out.but hbt (Nat.succ_ne_self _).symm); replace p9 : Hid (Whole w3 (w1.heap.size + 1) 56 #[.int .i64 R.2.2.e, .int .i64 R.2.2.c.k, .slice A2 R.2.2.c.d.length c2, .int .i64 R.2.2.c.lo, .int .i64 R.2.2.c.hi, .int .i64 R.2.2.c.v]) := Lib.hid (hS ▸ setRow_heap _ _ _ _ _ _ p9.out); replace hbx : Hid (Below w1.heap.size w1 w3) := Lib.hid (hS ▸ below_setRow hbx.out (Nat.le_succ _) _); clear hS hbt; replace hp1 := Lib.hid (hp1.out.on hbx.out); replace hx := Lib.hid (hx.out.keep (Keeps.below hbx.out)); replace hy := Lib.hid (hy.out.keep (Keeps.below hbx.out)); replace p4 := Lib.hid (p4.out.on hbx.out); replace p5 := Lib.hid (p5.out.on hbx.out); have B3 := Lib.hid (B1.out.trans (hbx.out.mono B1.out.size)); clear hbx)
    | (show wpList _ _ _ (Oper.mk _ (.load _ (.tmp 5)) _ _ _ _ :: _) _ _; refine wpList_load_row rfl 24 (.tmp 5) rfl (w.heap.size + 1) rfl _ _ _ _ (p5.out) Tryd.underlying24 rfl (by kernel_rfl) ?_)
    | (show wpList _ _ _ (Oper.mk _ (.load _ (.tmp 4)) _ _ _ _ :: _) _ _; refine wpList_load_row rfl 24 (.tmp 4) rfl (w.heap.size) rfl _ _ _ _ (p4.out) Tryd.underlying24 rfl (by kernel_rfl) ?_))
  refine (T2.out w3 (HV.out.keep (Keeps.below B3.out)) (HA.out.keep (Keeps.below B3.out)) (HB.out.keep (Keeps.below B3.out))).mono ?_
  rintro e w4 ⟨v4, D3, D4, rfl, hp4, hz, ht, b4⟩
  obtain ⟨A3, c3, rfl, _⟩ := id hz
  obtain ⟨A4, c4, rfl, _⟩ := id ht
  rw [bys_len] at hz ht ⊢
  rw [bys_len]
  obtain ⟨E4, f4, rfl⟩ := hp4.slice
  replace hp1 := Lib.hid (hp1.out.on b4)
  replace hx := Lib.hid (hx.out.keep (Keeps.below b4))
  replace hy := Lib.hid (hy.out.keep (Keeps.below b4))
  replace p8 := Lib.hid (p8.out.on b4)
  replace p9 := Lib.hid (p9.out.on b4)
  replace hp4 := Lib.hid hp4
  replace hz := Lib.hid hz
  replace ht := Lib.hid ht
  have B4 := Lib.hid (B3.out.trans (b4.mono B3.out.size))
  clear b4 B3 B1 T2 p4 p5
  unfold av
  go_wp2_with (first
    | ((show wpList _ _ _ (Oper.mk _ (.store _ (.tmp 11) _) _ _ _ _ :: _) _ _; refine wpList_store_row rfl _ (.tmp 11) (.tmp 27) rfl (w4.heap.size) _ rfl rfl _ _ ((Whole.made w4 56 #[.int .i64 0, .int .i64 0, .slice none 0 0, .int .i64 0, .int .i64 0, .int .i64 0]).later (.cells #[.int .i64 0, .int .i64 0, .slice none 0 0, .int .i64 0, .int .i64 0, .int .i64 0] 56)) (by kernel_rfl) rfl (by simp [Value.oneCell']) ?_); generalize hS : World.setRow _ _ _ = w5; have hbt := (hS ▸ but_setRow _ _ _ : But w4.heap.size ((w4.alloc (.cells #[.int .i64 0, .int .i64 0, .slice none 0 0, .int .i64 0, .int .i64 0, .int .i64 0] 56)).alloc (.cells #[.int .i64 0, .int .i64 0, .slice none 0 0, .int .i64 0, .int .i64 0, .int .i64 0] 56)) w5); have p11 : Hid (Whole w5 w4.heap.size 56 #[.int .i64 Q.2.1.e, .int .i64 Q.2.1.c.k, .slice A3 Q.2.1.c.d.length c3, .int .i64 Q.2.1.c.lo, .int .i64 Q.2.1.c.hi, .int .i64 Q.2.1.c.v]) := Lib.hid (hS ▸ setRow_heap _ _ _ _ _ _ ((Whole.made w4 56 #[.int .i64 0, .int .i64 0, .slice none 0 0, .int .i64 0, .int .i64 0, .int .i64 0]).later (.cells #[.int .i64 0, .int .i64 0, .slice none 0 0, .int .i64 0, .int .i64 0, .int .i64 0] 56))); have p12 := Lib.hid ((Whole.second w4 (.cells #[.int .i64 0, .int .i64 0, .slice none 0 0, .int .i64 0, .int .i64 0, .int .i64 0] 56) 56 #[.int .i64 0, .int .i64 0, .slice none 0 0, .int .i64 0, .int .i64 0, .int .i64 0]).but hbt (Nat.succ_ne_self _)); have hbx : Hid (Below w4.heap.size w4 w5) := Lib.hid (hS ▸ below_setRow (two_more (Below.refl _ w4) _ _) (Nat.le_refl _) _); clear hS hbt)
    | ((show wpList _ _ _ (Oper.mk _ (.store _ (.tmp 12) _) _ _ _ _ :: _) _ _; refine wpList_store_row rfl _ (.tmp 12) (.tmp 28) rfl (w4.heap.size + 1) _ rfl rfl _ _ (p12.out) (by kernel_rfl) rfl (by simp [Value.oneCell']) ?_); generalize hS : World.setRow w5 _ _ = w6; have hbt : But (w4.heap.size + 1) w5 w6 := hS ▸ but_setRow _ _ _; replace p11 := Lib.hid (p11.out.but hbt (Nat.succ_ne_self _).symm); replace p12 : Hid (Whole w6 (w4.heap.size + 1) 56 #[.int .i64 Q.2.2.e, .int .i64 Q.2.2.c.k, .slice A4 Q.2.2.c.d.length c4, .int .i64 Q.2.2.c.lo, .int .i64 Q.2.2.c.hi, .int .i64 Q.2.2.c.v]) := Lib.hid (hS ▸ setRow_heap _ _ _ _ _ _ p12.out); replace hbx : Hid (Below w4.heap.size w4 w6) := Lib.hid (hS ▸ below_setRow hbx.out (Nat.le_succ _) _); clear hS hbt; replace hp1 := Lib.hid (hp1.out.on hbx.out); replace hx := Lib.hid (hx.out.keep (Keeps.below hbx.out)); replace hy := Lib.hid (hy.out.keep (Keeps.below hbx.out)); replace hp4 := Lib.hid (hp4.out.on hbx.out); replace hz := Lib.hid (hz.out.keep (Keeps.below hbx.out)); replace ht := Lib.hid (ht.out.keep (Keeps.below hbx.out)); replace p8 := Lib.hid (p8.out.on hbx.out); replace p9 := Lib.hid (p9.out.on hbx.out); have B6 := Lib.hid (B4.out.trans (hbx.out.mono B4.out.size)); have y8 : w6.cell? ⟨w1.heap.size, 0, none⟩ = some (.int .i64 R.2.1.e) := p8.out.cell 0; have y9 : w6.cell? ⟨w1.heap.size + 1, 0, none⟩ = some (.int .i64 R.2.2.e) := p9.out.cell 0; have y11 : w6.cell? ⟨w4.heap.size, 0, none⟩ = some (.int .i64 Q.2.1.e) := p11.out.cell 0; have y12 : w6.cell? ⟨w4.heap.size + 1, 0, none⟩ = some (.int .i64 Q.2.2.e) := p12.out.cell 0; clear hbx))
  go_ret
  exact ⟨by simp [*], B6.out⟩
set_option maxHeartbeats 4000000 in
theorem rtight_2 (v : Value) (s : List Pr) (A B : Option Addr) (n m c d : Nat) (a b : Ox) (w : World) (hv : PS w v s) (hA : SV w (.slice A n c) (bys a.b)) (hB : SV w (.slice B m d) (bys b.b)) (hq : Asks s a b) (h1 : ((twoX s a b).2.1.e != 8) = true) (h2 : ((twoX s a b).2.2.e != 8) = false) :
    Calls Tryd.prog 19 #[v, ov (.slice A n c) a, ov (.slice B m d) b] w fun e w' => e = .returned (.bool (tightB s a b)) ∧ Below w.heap.size w w' := by
  unfold tightB
  skip
  obtain ⟨Av, cv', rfl⟩ := hv.slice
  have T1 := fun w' (hw : PS w' (.slice Av s.length cv') s) (hx : SV w' (.slice A n c) (bys a.b)) (hy : SV w' (.slice B m d) (bys b.b)) => rtwo10_any _ s A B n m c d a b w' hw hx hy hq
  have T2 := fun w' (hw : PS w' (.slice Av s.length cv') s) (hx : SV w' (.slice A n c) (bys a.b)) (hy : SV w' (.slice B m d) (bys b.b)) => rtwo10_any _ s B A m n d c b a w' hw hy hx hq.swap
  have HV := Lib.hid hv
  have HA := Lib.hid hA
  have HB := Lib.hid hB
  unfold Twoed at T1 T2
  generalize twoX s a b = R at *
  generalize twoX s b a = Q at *
  unfold ov kst at T1 T2 ⊢
  replace T1 := Lib.hid T1
  replace T2 := Lib.hid T2
  clear hv hA hB hq
  go_enter Tryd.func19, Tryd.ntmps19
  go_wp2_with fail
  have p4 := Lib.hid ((Whole.made w 24 #[.int .i64 a.d, .string ⟨a.k.toArray⟩, .slice A n c, .int .i64 a.lo, .int .i64 a.hi, .int .i64 a.n]).later (.cells #[.int .i64 b.d, .string ⟨b.k.toArray⟩, .slice B m d, .int .i64 b.lo, .int .i64 b.hi, .int .i64 b.n] 24))
  have p5 := Lib.hid (Whole.second w (.cells #[.int .i64 a.d, .string ⟨a.k.toArray⟩, .slice A n c, .int .i64 a.lo, .int .i64 a.hi, .int .i64 a.n] 24) 24 #[.int .i64 b.d, .string ⟨b.k.toArray⟩, .slice B m d, .int .i64 b.lo, .int .i64 b.hi, .int .i64 b.n])
  have B0 := Lib.hid (two_more (Below.refl _ w) (.cells #[.int .i64 a.d, .string ⟨a.k.toArray⟩, .slice A n c, .int .i64 a.lo, .int .i64 a.hi, .int .i64 a.n] 24) (.cells #[.int .i64 b.d, .string ⟨b.k.toArray⟩, .slice B m d, .int .i64 b.lo, .int .i64 b.hi, .int .i64 b.n] 24))
  generalize (w.alloc (.cells #[.int .i64 a.d, .string ⟨a.k.toArray⟩, .slice A n c, .int .i64 a.lo, .int .i64 a.hi, .int .i64 a.n] 24)).alloc (.cells #[.int .i64 b.d, .string ⟨b.k.toArray⟩, .slice B m d, .int .i64 b.lo, .int .i64 b.hi, .int .i64 b.n] 24) = w0 at *
  refine (T1.out w0 (HV.out.on B0.out) (HA.out.keep (Keeps.below B0.out)) (HB.out.keep (Keeps.below B0.out))).mono ?_
  rintro e w1 ⟨v1, D1, D2, rfl, hp1, hx, hy, b1⟩
  obtain ⟨A1, c1, rfl, _⟩ := id hx
  obtain ⟨A2, c2, rfl, _⟩ := id hy
  rw [bys_len] at hx hy ⊢
  rw [bys_len]
  obtain ⟨E1, f1, rfl⟩ := hp1.slice
  replace hp1 := Lib.hid hp1
  replace hx := Lib.hid hx
  replace hy := Lib.hid hy
  replace p4 := Lib.hid (p4.out.on b1)
  replace p5 := Lib.hid (p5.out.on b1)
  have B1 := Lib.hid (B0.out.trans (b1.mono B0.out.size))
  clear b1 B0 T1
  unfold av
  go_wp2_with (first
    | ((show wpList _ _ _ (Oper.mk _ (.store _ (.tmp 8) _) _ _ _ _ :: _) _ _; refine wpList_store_row rfl _ (.tmp 8) (.tmp 19) rfl (w1.heap.size) _ rfl rfl _ _ ((Whole.made w1 56 #[.int .i64 0, .int .i64 0, .slice none 0 0, .int .i64 0, .int .i64 0, .int .i64 0]).later (.cells #[.int .i64 0, .int .i64 0, .slice none 0 0, .int .i64 0, .int .i64 0, .int .i64 0] 56)) (by kernel_rfl) rfl (by simp [Value.oneCell']) ?_); generalize hS : World.setRow _ _ _ = w2; have hbt := (hS ▸ but_setRow _ _ _ : But w1.heap.size ((w1.alloc (.cells #[.int .i64 0, .int .i64 0, .slice none 0 0, .int .i64 0, .int .i64 0, .int .i64 0] 56)).alloc (.cells #[.int .i64 0, .int .i64 0, .slice none 0 0, .int .i64 0, .int .i64 0, .int .i64 0] 56)) w2); have p8 : Hid (Whole w2 w1.heap.size 56 #[.int .i64 R.2.1.e, .int .i64 R.2.1.c.k, .slice A1 R.2.1.c.d.length c1, .int .i64 R.2.1.c.lo, .int .i64 R.2.1.c.hi, .int .i64 R.2.1.c.v]) := Lib.hid (hS ▸ setRow_heap _ _ _ _ _ _ ((Whole.made w1 56 #[.int .i64 0, .int .i64 0, .slice none 0 0, .int .i64 0, .int .i64 0, .int .i64 0]).later (.cells #[.int .i64 0, .int .i64 0, .slice none 0 0, .int .i64 0, .int .i64 0, .int .i64 0] 56))); have p9 := Lib.hid ((Whole.second w1 (.cells #[.int .i64 0, .int .i64 0, .slice none 0 0, .int .i64 0, .int .i64 0, .int .i64 0] 56) 56 #[.int .i64 0, .int .i64 0, .slice none 0 0, .int .i64 0, .int .i64 0, .int .i64 0]).but hbt (Nat.succ_ne_self _)); have hbx : Hid (Below w1.heap.size w1 w2) := Lib.hid (hS ▸ below_setRow (two_more (Below.refl _ w1) _ _) (Nat.le_refl _) _); clear hS hbt)
    | ((show wpList _ _ _ (Oper.mk _ (.store _ (.tmp 9) _) _ _ _ _ :: _) _ _; refine wpList_store_row rfl _ (.tmp 9) (.tmp 20) rfl (w1.heap.size + 1) _ rfl rfl _ _ (p9.out) (by kernel_rfl) rfl (by simp [Value.oneCell']) ?_); generalize hS : World.setRow w2 _ _ = w3; have hbt : But (w1.heap.size + 1) w2 w3 := hS ▸ but_setRow _ _ _; replace p8 := Lib.hid (p8.out.but hbt (Nat.succ_ne_self _).symm); replace p9 : Hid (Whole w3 (w1.heap.size + 1) 56 #[.int .i64 R.2.2.e, .int .i64 R.2.2.c.k, .slice A2 R.2.2.c.d.length c2, .int .i64 R.2.2.c.lo, .int .i64 R.2.2.c.hi, .int .i64 R.2.2.c.v]) := Lib.hid (hS ▸ setRow_heap _ _ _ _ _ _ p9.out); replace hbx : Hid (Below w1.heap.size w1 w3) := Lib.hid (hS ▸ below_setRow hbx.out (Nat.le_succ _) _); clear hS hbt; replace hp1 := Lib.hid (hp1.out.on hbx.out); replace hx := Lib.hid (hx.out.keep (Keeps.below hbx.out)); replace hy := Lib.hid (hy.out.keep (Keeps.below hbx.out)); replace p4 := Lib.hid (p4.out.on hbx.out); replace p5 := Lib.hid (p5.out.on hbx.out); have B3 := Lib.hid (B1.out.trans (hbx.out.mono B1.out.size)); clear hbx)
    | (show wpList _ _ _ (Oper.mk _ (.load _ (.tmp 5)) _ _ _ _ :: _) _ _; refine wpList_load_row rfl 24 (.tmp 5) rfl (w.heap.size + 1) rfl _ _ _ _ (p5.out) Tryd.underlying24 rfl (by kernel_rfl) ?_)
    | (show wpList _ _ _ (Oper.mk _ (.load _ (.tmp 4)) _ _ _ _ :: _) _ _; refine wpList_load_row rfl 24 (.tmp 4) rfl (w.heap.size) rfl _ _ _ _ (p4.out) Tryd.underlying24 rfl (by kernel_rfl) ?_))
  refine (T2.out w3 (HV.out.keep (Keeps.below B3.out)) (HA.out.keep (Keeps.below B3.out)) (HB.out.keep (Keeps.below B3.out))).mono ?_
  rintro e w4 ⟨v4, D3, D4, rfl, hp4, hz, ht, b4⟩
  obtain ⟨A3, c3, rfl, _⟩ := id hz
  obtain ⟨A4, c4, rfl, _⟩ := id ht
  rw [bys_len] at hz ht ⊢
  rw [bys_len]
  obtain ⟨E4, f4, rfl⟩ := hp4.slice
  replace hp1 := Lib.hid (hp1.out.on b4)
  replace hx := Lib.hid (hx.out.keep (Keeps.below b4))
  replace hy := Lib.hid (hy.out.keep (Keeps.below b4))
  replace p8 := Lib.hid (p8.out.on b4)
  replace p9 := Lib.hid (p9.out.on b4)
  replace hp4 := Lib.hid hp4
  replace hz := Lib.hid hz
  replace ht := Lib.hid ht
  have B4 := Lib.hid (B3.out.trans (b4.mono B3.out.size))
  clear b4 B3 B1 T2 p4 p5
  unfold av
  go_wp2_with (first
    | ((show wpList _ _ _ (Oper.mk _ (.store _ (.tmp 11) _) _ _ _ _ :: _) _ _; refine wpList_store_row rfl _ (.tmp 11) (.tmp 27) rfl (w4.heap.size) _ rfl rfl _ _ ((Whole.made w4 56 #[.int .i64 0, .int .i64 0, .slice none 0 0, .int .i64 0, .int .i64 0, .int .i64 0]).later (.cells #[.int .i64 0, .int .i64 0, .slice none 0 0, .int .i64 0, .int .i64 0, .int .i64 0] 56)) (by kernel_rfl) rfl (by simp [Value.oneCell']) ?_); generalize hS : World.setRow _ _ _ = w5; have hbt := (hS ▸ but_setRow _ _ _ : But w4.heap.size ((w4.alloc (.cells #[.int .i64 0, .int .i64 0, .slice none 0 0, .int .i64 0, .int .i64 0, .int .i64 0] 56)).alloc (.cells #[.int .i64 0, .int .i64 0, .slice none 0 0, .int .i64 0, .int .i64 0, .int .i64 0] 56)) w5); have p11 : Hid (Whole w5 w4.heap.size 56 #[.int .i64 Q.2.1.e, .int .i64 Q.2.1.c.k, .slice A3 Q.2.1.c.d.length c3, .int .i64 Q.2.1.c.lo, .int .i64 Q.2.1.c.hi, .int .i64 Q.2.1.c.v]) := Lib.hid (hS ▸ setRow_heap _ _ _ _ _ _ ((Whole.made w4 56 #[.int .i64 0, .int .i64 0, .slice none 0 0, .int .i64 0, .int .i64 0, .int .i64 0]).later (.cells #[.int .i64 0, .int .i64 0, .slice none 0 0, .int .i64 0, .int .i64 0, .int .i64 0] 56))); have p12 := Lib.hid ((Whole.second w4 (.cells #[.int .i64 0, .int .i64 0, .slice none 0 0, .int .i64 0, .int .i64 0, .int .i64 0] 56) 56 #[.int .i64 0, .int .i64 0, .slice none 0 0, .int .i64 0, .int .i64 0, .int .i64 0]).but hbt (Nat.succ_ne_self _)); have hbx : Hid (Below w4.heap.size w4 w5) := Lib.hid (hS ▸ below_setRow (two_more (Below.refl _ w4) _ _) (Nat.le_refl _) _); clear hS hbt)
    | ((show wpList _ _ _ (Oper.mk _ (.store _ (.tmp 12) _) _ _ _ _ :: _) _ _; refine wpList_store_row rfl _ (.tmp 12) (.tmp 28) rfl (w4.heap.size + 1) _ rfl rfl _ _ (p12.out) (by kernel_rfl) rfl (by simp [Value.oneCell']) ?_); generalize hS : World.setRow w5 _ _ = w6; have hbt : But (w4.heap.size + 1) w5 w6 := hS ▸ but_setRow _ _ _; replace p11 := Lib.hid (p11.out.but hbt (Nat.succ_ne_self _).symm); replace p12 : Hid (Whole w6 (w4.heap.size + 1) 56 #[.int .i64 Q.2.2.e, .int .i64 Q.2.2.c.k, .slice A4 Q.2.2.c.d.length c4, .int .i64 Q.2.2.c.lo, .int .i64 Q.2.2.c.hi, .int .i64 Q.2.2.c.v]) := Lib.hid (hS ▸ setRow_heap _ _ _ _ _ _ p12.out); replace hbx : Hid (Below w4.heap.size w4 w6) := Lib.hid (hS ▸ below_setRow hbx.out (Nat.le_succ _) _); clear hS hbt; replace hp1 := Lib.hid (hp1.out.on hbx.out); replace hx := Lib.hid (hx.out.keep (Keeps.below hbx.out)); replace hy := Lib.hid (hy.out.keep (Keeps.below hbx.out)); replace hp4 := Lib.hid (hp4.out.on hbx.out); replace hz := Lib.hid (hz.out.keep (Keeps.below hbx.out)); replace ht := Lib.hid (ht.out.keep (Keeps.below hbx.out)); replace p8 := Lib.hid (p8.out.on hbx.out); replace p9 := Lib.hid (p9.out.on hbx.out); have B6 := Lib.hid (B4.out.trans (hbx.out.mono B4.out.size)); have y8 : w6.cell? ⟨w1.heap.size, 0, none⟩ = some (.int .i64 R.2.1.e) := p8.out.cell 0; have y9 : w6.cell? ⟨w1.heap.size + 1, 0, none⟩ = some (.int .i64 R.2.2.e) := p9.out.cell 0; have y11 : w6.cell? ⟨w4.heap.size, 0, none⟩ = some (.int .i64 Q.2.1.e) := p11.out.cell 0; have y12 : w6.cell? ⟨w4.heap.size + 1, 0, none⟩ = some (.int .i64 Q.2.2.e) := p12.out.cell 0; clear hbx))
  go_ret
  exact ⟨by simp [*], B6.out⟩
set_option maxHeartbeats 4000000 in
theorem rtight_3 (v : Value) (s : List Pr) (A B : Option Addr) (n m c d : Nat) (a b : Ox) (w : World) (hv : PS w v s) (hA : SV w (.slice A n c) (bys a.b)) (hB : SV w (.slice B m d) (bys b.b)) (hq : Asks s a b) (h1 : ((twoX s a b).2.1.e != 8) = true) (h2 : ((twoX s a b).2.2.e != 8) = true) (h3 : ((twoX s b a).2.1.e != 8) = false) :
    Calls Tryd.prog 19 #[v, ov (.slice A n c) a, ov (.slice B m d) b] w fun e w' => e = .returned (.bool (tightB s a b)) ∧ Below w.heap.size w w' := by
  unfold tightB
  skip
  obtain ⟨Av, cv', rfl⟩ := hv.slice
  have T1 := fun w' (hw : PS w' (.slice Av s.length cv') s) (hx : SV w' (.slice A n c) (bys a.b)) (hy : SV w' (.slice B m d) (bys b.b)) => rtwo10_any _ s A B n m c d a b w' hw hx hy hq
  have T2 := fun w' (hw : PS w' (.slice Av s.length cv') s) (hx : SV w' (.slice A n c) (bys a.b)) (hy : SV w' (.slice B m d) (bys b.b)) => rtwo10_any _ s B A m n d c b a w' hw hy hx hq.swap
  have HV := Lib.hid hv
  have HA := Lib.hid hA
  have HB := Lib.hid hB
  unfold Twoed at T1 T2
  generalize twoX s a b = R at *
  generalize twoX s b a = Q at *
  unfold ov kst at T1 T2 ⊢
  replace T1 := Lib.hid T1
  replace T2 := Lib.hid T2
  clear hv hA hB hq
  go_enter Tryd.func19, Tryd.ntmps19
  go_wp2_with fail
  have p4 := Lib.hid ((Whole.made w 24 #[.int .i64 a.d, .string ⟨a.k.toArray⟩, .slice A n c, .int .i64 a.lo, .int .i64 a.hi, .int .i64 a.n]).later (.cells #[.int .i64 b.d, .string ⟨b.k.toArray⟩, .slice B m d, .int .i64 b.lo, .int .i64 b.hi, .int .i64 b.n] 24))
  have p5 := Lib.hid (Whole.second w (.cells #[.int .i64 a.d, .string ⟨a.k.toArray⟩, .slice A n c, .int .i64 a.lo, .int .i64 a.hi, .int .i64 a.n] 24) 24 #[.int .i64 b.d, .string ⟨b.k.toArray⟩, .slice B m d, .int .i64 b.lo, .int .i64 b.hi, .int .i64 b.n])
  have B0 := Lib.hid (two_more (Below.refl _ w) (.cells #[.int .i64 a.d, .string ⟨a.k.toArray⟩, .slice A n c, .int .i64 a.lo, .int .i64 a.hi, .int .i64 a.n] 24) (.cells #[.int .i64 b.d, .string ⟨b.k.toArray⟩, .slice B m d, .int .i64 b.lo, .int .i64 b.hi, .int .i64 b.n] 24))
  generalize (w.alloc (.cells #[.int .i64 a.d, .string ⟨a.k.toArray⟩, .slice A n c, .int .i64 a.lo, .int .i64 a.hi, .int .i64 a.n] 24)).alloc (.cells #[.int .i64 b.d, .string ⟨b.k.toArray⟩, .slice B m d, .int .i64 b.lo, .int .i64 b.hi, .int .i64 b.n] 24) = w0 at *
  refine (T1.out w0 (HV.out.on B0.out) (HA.out.keep (Keeps.below B0.out)) (HB.out.keep (Keeps.below B0.out))).mono ?_
  rintro e w1 ⟨v1, D1, D2, rfl, hp1, hx, hy, b1⟩
  obtain ⟨A1, c1, rfl, _⟩ := id hx
  obtain ⟨A2, c2, rfl, _⟩ := id hy
  rw [bys_len] at hx hy ⊢
  rw [bys_len]
  obtain ⟨E1, f1, rfl⟩ := hp1.slice
  replace hp1 := Lib.hid hp1
  replace hx := Lib.hid hx
  replace hy := Lib.hid hy
  replace p4 := Lib.hid (p4.out.on b1)
  replace p5 := Lib.hid (p5.out.on b1)
  have B1 := Lib.hid (B0.out.trans (b1.mono B0.out.size))
  clear b1 B0 T1
  unfold av
  go_wp2_with (first
    | ((show wpList _ _ _ (Oper.mk _ (.store _ (.tmp 8) _) _ _ _ _ :: _) _ _; refine wpList_store_row rfl _ (.tmp 8) (.tmp 19) rfl (w1.heap.size) _ rfl rfl _ _ ((Whole.made w1 56 #[.int .i64 0, .int .i64 0, .slice none 0 0, .int .i64 0, .int .i64 0, .int .i64 0]).later (.cells #[.int .i64 0, .int .i64 0, .slice none 0 0, .int .i64 0, .int .i64 0, .int .i64 0] 56)) (by kernel_rfl) rfl (by simp [Value.oneCell']) ?_); generalize hS : World.setRow _ _ _ = w2; have hbt := (hS ▸ but_setRow _ _ _ : But w1.heap.size ((w1.alloc (.cells #[.int .i64 0, .int .i64 0, .slice none 0 0, .int .i64 0, .int .i64 0, .int .i64 0] 56)).alloc (.cells #[.int .i64 0, .int .i64 0, .slice none 0 0, .int .i64 0, .int .i64 0, .int .i64 0] 56)) w2); have p8 : Hid (Whole w2 w1.heap.size 56 #[.int .i64 R.2.1.e, .int .i64 R.2.1.c.k, .slice A1 R.2.1.c.d.length c1, .int .i64 R.2.1.c.lo, .int .i64 R.2.1.c.hi, .int .i64 R.2.1.c.v]) := Lib.hid (hS ▸ setRow_heap _ _ _ _ _ _ ((Whole.made w1 56 #[.int .i64 0, .int .i64 0, .slice none 0 0, .int .i64 0, .int .i64 0, .int .i64 0]).later (.cells #[.int .i64 0, .int .i64 0, .slice none 0 0, .int .i64 0, .int .i64 0, .int .i64 0] 56))); have p9 := Lib.hid ((Whole.second w1 (.cells #[.int .i64 0, .int .i64 0, .slice none 0 0, .int .i64 0, .int .i64 0, .int .i64 0] 56) 56 #[.int .i64 0, .int .i64 0, .slice none 0 0, .int .i64 0, .int .i64 0, .int .i64 0]).but hbt (Nat.succ_ne_self _)); have hbx : Hid (Below w1.heap.size w1 w2) := Lib.hid (hS ▸ below_setRow (two_more (Below.refl _ w1) _ _) (Nat.le_refl _) _); clear hS hbt)
    | ((show wpList _ _ _ (Oper.mk _ (.store _ (.tmp 9) _) _ _ _ _ :: _) _ _; refine wpList_store_row rfl _ (.tmp 9) (.tmp 20) rfl (w1.heap.size + 1) _ rfl rfl _ _ (p9.out) (by kernel_rfl) rfl (by simp [Value.oneCell']) ?_); generalize hS : World.setRow w2 _ _ = w3; have hbt : But (w1.heap.size + 1) w2 w3 := hS ▸ but_setRow _ _ _; replace p8 := Lib.hid (p8.out.but hbt (Nat.succ_ne_self _).symm); replace p9 : Hid (Whole w3 (w1.heap.size + 1) 56 #[.int .i64 R.2.2.e, .int .i64 R.2.2.c.k, .slice A2 R.2.2.c.d.length c2, .int .i64 R.2.2.c.lo, .int .i64 R.2.2.c.hi, .int .i64 R.2.2.c.v]) := Lib.hid (hS ▸ setRow_heap _ _ _ _ _ _ p9.out); replace hbx : Hid (Below w1.heap.size w1 w3) := Lib.hid (hS ▸ below_setRow hbx.out (Nat.le_succ _) _); clear hS hbt; replace hp1 := Lib.hid (hp1.out.on hbx.out); replace hx := Lib.hid (hx.out.keep (Keeps.below hbx.out)); replace hy := Lib.hid (hy.out.keep (Keeps.below hbx.out)); replace p4 := Lib.hid (p4.out.on hbx.out); replace p5 := Lib.hid (p5.out.on hbx.out); have B3 := Lib.hid (B1.out.trans (hbx.out.mono B1.out.size)); clear hbx)
    | (show wpList _ _ _ (Oper.mk _ (.load _ (.tmp 5)) _ _ _ _ :: _) _ _; refine wpList_load_row rfl 24 (.tmp 5) rfl (w.heap.size + 1) rfl _ _ _ _ (p5.out) Tryd.underlying24 rfl (by kernel_rfl) ?_)
    | (show wpList _ _ _ (Oper.mk _ (.load _ (.tmp 4)) _ _ _ _ :: _) _ _; refine wpList_load_row rfl 24 (.tmp 4) rfl (w.heap.size) rfl _ _ _ _ (p4.out) Tryd.underlying24 rfl (by kernel_rfl) ?_))
  refine (T2.out w3 (HV.out.keep (Keeps.below B3.out)) (HA.out.keep (Keeps.below B3.out)) (HB.out.keep (Keeps.below B3.out))).mono ?_
  rintro e w4 ⟨v4, D3, D4, rfl, hp4, hz, ht, b4⟩
  obtain ⟨A3, c3, rfl, _⟩ := id hz
  obtain ⟨A4, c4, rfl, _⟩ := id ht
  rw [bys_len] at hz ht ⊢
  rw [bys_len]
  obtain ⟨E4, f4, rfl⟩ := hp4.slice
  replace hp1 := Lib.hid (hp1.out.on b4)
  replace hx := Lib.hid (hx.out.keep (Keeps.below b4))
  replace hy := Lib.hid (hy.out.keep (Keeps.below b4))
  replace p8 := Lib.hid (p8.out.on b4)
  replace p9 := Lib.hid (p9.out.on b4)
  replace hp4 := Lib.hid hp4
  replace hz := Lib.hid hz
  replace ht := Lib.hid ht
  have B4 := Lib.hid (B3.out.trans (b4.mono B3.out.size))
  clear b4 B3 B1 T2 p4 p5
  unfold av
  go_wp2_with (first
    | ((show wpList _ _ _ (Oper.mk _ (.store _ (.tmp 11) _) _ _ _ _ :: _) _ _; refine wpList_store_row rfl _ (.tmp 11) (.tmp 27) rfl (w4.heap.size) _ rfl rfl _ _ ((Whole.made w4 56 #[.int .i64 0, .int .i64 0, .slice none 0 0, .int .i64 0, .int .i64 0, .int .i64 0]).later (.cells #[.int .i64 0, .int .i64 0, .slice none 0 0, .int .i64 0, .int .i64 0, .int .i64 0] 56)) (by kernel_rfl) rfl (by simp [Value.oneCell']) ?_); generalize hS : World.setRow _ _ _ = w5; have hbt := (hS ▸ but_setRow _ _ _ : But w4.heap.size ((w4.alloc (.cells #[.int .i64 0, .int .i64 0, .slice none 0 0, .int .i64 0, .int .i64 0, .int .i64 0] 56)).alloc (.cells #[.int .i64 0, .int .i64 0, .slice none 0 0, .int .i64 0, .int .i64 0, .int .i64 0] 56)) w5); have p11 : Hid (Whole w5 w4.heap.size 56 #[.int .i64 Q.2.1.e, .int .i64 Q.2.1.c.k, .slice A3 Q.2.1.c.d.length c3, .int .i64 Q.2.1.c.lo, .int .i64 Q.2.1.c.hi, .int .i64 Q.2.1.c.v]) := Lib.hid (hS ▸ setRow_heap _ _ _ _ _ _ ((Whole.made w4 56 #[.int .i64 0, .int .i64 0, .slice none 0 0, .int .i64 0, .int .i64 0, .int .i64 0]).later (.cells #[.int .i64 0, .int .i64 0, .slice none 0 0, .int .i64 0, .int .i64 0, .int .i64 0] 56))); have p12 := Lib.hid ((Whole.second w4 (.cells #[.int .i64 0, .int .i64 0, .slice none 0 0, .int .i64 0, .int .i64 0, .int .i64 0] 56) 56 #[.int .i64 0, .int .i64 0, .slice none 0 0, .int .i64 0, .int .i64 0, .int .i64 0]).but hbt (Nat.succ_ne_self _)); have hbx : Hid (Below w4.heap.size w4 w5) := Lib.hid (hS ▸ below_setRow (two_more (Below.refl _ w4) _ _) (Nat.le_refl _) _); clear hS hbt)
    | ((show wpList _ _ _ (Oper.mk _ (.store _ (.tmp 12) _) _ _ _ _ :: _) _ _; refine wpList_store_row rfl _ (.tmp 12) (.tmp 28) rfl (w4.heap.size + 1) _ rfl rfl _ _ (p12.out) (by kernel_rfl) rfl (by simp [Value.oneCell']) ?_); generalize hS : World.setRow w5 _ _ = w6; have hbt : But (w4.heap.size + 1) w5 w6 := hS ▸ but_setRow _ _ _; replace p11 := Lib.hid (p11.out.but hbt (Nat.succ_ne_self _).symm); replace p12 : Hid (Whole w6 (w4.heap.size + 1) 56 #[.int .i64 Q.2.2.e, .int .i64 Q.2.2.c.k, .slice A4 Q.2.2.c.d.length c4, .int .i64 Q.2.2.c.lo, .int .i64 Q.2.2.c.hi, .int .i64 Q.2.2.c.v]) := Lib.hid (hS ▸ setRow_heap _ _ _ _ _ _ p12.out); replace hbx : Hid (Below w4.heap.size w4 w6) := Lib.hid (hS ▸ below_setRow hbx.out (Nat.le_succ _) _); clear hS hbt; replace hp1 := Lib.hid (hp1.out.on hbx.out); replace hx := Lib.hid (hx.out.keep (Keeps.below hbx.out)); replace hy := Lib.hid (hy.out.keep (Keeps.below hbx.out)); replace hp4 := Lib.hid (hp4.out.on hbx.out); replace hz := Lib.hid (hz.out.keep (Keeps.below hbx.out)); replace ht := Lib.hid (ht.out.keep (Keeps.below hbx.out)); replace p8 := Lib.hid (p8.out.on hbx.out); replace p9 := Lib.hid (p9.out.on hbx.out); have B6 := Lib.hid (B4.out.trans (hbx.out.mono B4.out.size)); have y8 : w6.cell? ⟨w1.heap.size, 0, none⟩ = some (.int .i64 R.2.1.e) := p8.out.cell 0; have y9 : w6.cell? ⟨w1.heap.size + 1, 0, none⟩ = some (.int .i64 R.2.2.e) := p9.out.cell 0; have y11 : w6.cell? ⟨w4.heap.size, 0, none⟩ = some (.int .i64 Q.2.1.e) := p11.out.cell 0; have y12 : w6.cell? ⟨w4.heap.size + 1, 0, none⟩ = some (.int .i64 Q.2.2.e) := p12.out.cell 0; clear hbx))
  go_ret
  exact ⟨by simp [*], B6.out⟩
set_option maxHeartbeats 4000000 in
theorem rtight_4 (v : Value) (s : List Pr) (A B : Option Addr) (n m c d : Nat) (a b : Ox) (w : World) (hv : PS w v s) (hA : SV w (.slice A n c) (bys a.b)) (hB : SV w (.slice B m d) (bys b.b)) (hq : Asks s a b) (h1 : ((twoX s a b).2.1.e != 8) = true) (h2 : ((twoX s a b).2.2.e != 8) = true) (h3 : ((twoX s b a).2.1.e != 8) = true) (h4 : ((twoX s b a).2.2.e != 8) = false) :
    Calls Tryd.prog 19 #[v, ov (.slice A n c) a, ov (.slice B m d) b] w fun e w' => e = .returned (.bool (tightB s a b)) ∧ Below w.heap.size w w' := by
  unfold tightB
  skip
  obtain ⟨Av, cv', rfl⟩ := hv.slice
  have T1 := fun w' (hw : PS w' (.slice Av s.length cv') s) (hx : SV w' (.slice A n c) (bys a.b)) (hy : SV w' (.slice B m d) (bys b.b)) => rtwo10_any _ s A B n m c d a b w' hw hx hy hq
  have T2 := fun w' (hw : PS w' (.slice Av s.length cv') s) (hx : SV w' (.slice A n c) (bys a.b)) (hy : SV w' (.slice B m d) (bys b.b)) => rtwo10_any _ s B A m n d c b a w' hw hy hx hq.swap
  have HV := Lib.hid hv
  have HA := Lib.hid hA
  have HB := Lib.hid hB
  unfold Twoed at T1 T2
  generalize twoX s a b = R at *
  generalize twoX s b a = Q at *
  unfold ov kst at T1 T2 ⊢
  replace T1 := Lib.hid T1
  replace T2 := Lib.hid T2
  clear hv hA hB hq
  go_enter Tryd.func19, Tryd.ntmps19
  go_wp2_with fail
  have p4 := Lib.hid ((Whole.made w 24 #[.int .i64 a.d, .string ⟨a.k.toArray⟩, .slice A n c, .int .i64 a.lo, .int .i64 a.hi, .int .i64 a.n]).later (.cells #[.int .i64 b.d, .string ⟨b.k.toArray⟩, .slice B m d, .int .i64 b.lo, .int .i64 b.hi, .int .i64 b.n] 24))
  have p5 := Lib.hid (Whole.second w (.cells #[.int .i64 a.d, .string ⟨a.k.toArray⟩, .slice A n c, .int .i64 a.lo, .int .i64 a.hi, .int .i64 a.n] 24) 24 #[.int .i64 b.d, .string ⟨b.k.toArray⟩, .slice B m d, .int .i64 b.lo, .int .i64 b.hi, .int .i64 b.n])
  have B0 := Lib.hid (two_more (Below.refl _ w) (.cells #[.int .i64 a.d, .string ⟨a.k.toArray⟩, .slice A n c, .int .i64 a.lo, .int .i64 a.hi, .int .i64 a.n] 24) (.cells #[.int .i64 b.d, .string ⟨b.k.toArray⟩, .slice B m d, .int .i64 b.lo, .int .i64 b.hi, .int .i64 b.n] 24))
  generalize (w.alloc (.cells #[.int .i64 a.d, .string ⟨a.k.toArray⟩, .slice A n c, .int .i64 a.lo, .int .i64 a.hi, .int .i64 a.n] 24)).alloc (.cells #[.int .i64 b.d, .string ⟨b.k.toArray⟩, .slice B m d, .int .i64 b.lo, .int .i64 b.hi, .int .i64 b.n] 24) = w0 at *
  refine (T1.out w0 (HV.out.on B0.out) (HA.out.keep (Keeps.below B0.out)) (HB.out.keep (Keeps.below B0.out))).mono ?_
  rintro e w1 ⟨v1, D1, D2, rfl, hp1, hx, hy, b1⟩
  obtain ⟨A1, c1, rfl, _⟩ := id hx
  obtain ⟨A2, c2, rfl, _⟩ := id hy
  rw [bys_len] at hx hy ⊢
  rw [bys_len]
  obtain ⟨E1, f1, rfl⟩ := hp1.slice
  replace hp1 := Lib.hid hp1
  replace hx := Lib.hid hx
  replace hy := Lib.hid hy
  replace p4 := Lib.hid (p4.out.on b1)
  replace p5 := Lib.hid (p5.out.on b1)
  have B1 := Lib.hid (B0.out.trans (b1.mono B0.out.size))
  clear b1 B0 T1
  unfold av
  go_wp2_with (first
    | ((show wpList _ _ _ (Oper.mk _ (.store _ (.tmp 8) _) _ _ _ _ :: _) _ _; refine wpList_store_row rfl _ (.tmp 8) (.tmp 19) rfl (w1.heap.size) _ rfl rfl _ _ ((Whole.made w1 56 #[.int .i64 0, .int .i64 0, .slice none 0 0, .int .i64 0, .int .i64 0, .int .i64 0]).later (.cells #[.int .i64 0, .int .i64 0, .slice none 0 0, .int .i64 0, .int .i64 0, .int .i64 0] 56)) (by kernel_rfl) rfl (by simp [Value.oneCell']) ?_); generalize hS : World.setRow _ _ _ = w2; have hbt := (hS ▸ but_setRow _ _ _ : But w1.heap.size ((w1.alloc (.cells #[.int .i64 0, .int .i64 0, .slice none 0 0, .int .i64 0, .int .i64 0, .int .i64 0] 56)).alloc (.cells #[.int .i64 0, .int .i64 0, .slice none 0 0, .int .i64 0, .int .i64 0, .int .i64 0] 56)) w2); have p8 : Hid (Whole w2 w1.heap.size 56 #[.int .i64 R.2.1.e, .int .i64 R.2.1.c.k, .slice A1 R.2.1.c.d.length c1, .int .i64 R.2.1.c.lo, .int .i64 R.2.1.c.hi, .int .i64 R.2.1.c.v]) := Lib.hid (hS ▸ setRow_heap _ _ _ _ _ _ ((Whole.made w1 56 #[.int .i64 0, .int .i64 0, .slice none 0 0, .int .i64 0, .int .i64 0, .int .i64 0]).later (.cells #[.int .i64 0, .int .i64 0, .slice none 0 0, .int .i64 0, .int .i64 0, .int .i64 0] 56))); have p9 := Lib.hid ((Whole.second w1 (.cells #[.int .i64 0, .int .i64 0, .slice none 0 0, .int .i64 0, .int .i64 0, .int .i64 0] 56) 56 #[.int .i64 0, .int .i64 0, .slice none 0 0, .int .i64 0, .int .i64 0, .int .i64 0]).but hbt (Nat.succ_ne_self _)); have hbx : Hid (Below w1.heap.size w1 w2) := Lib.hid (hS ▸ below_setRow (two_more (Below.refl _ w1) _ _) (Nat.le_refl _) _); clear hS hbt)
    | ((show wpList _ _ _ (Oper.mk _ (.store _ (.tmp 9) _) _ _ _ _ :: _) _ _; refine wpList_store_row rfl _ (.tmp 9) (.tmp 20) rfl (w1.heap.size + 1) _ rfl rfl _ _ (p9.out) (by kernel_rfl) rfl (by simp [Value.oneCell']) ?_); generalize hS : World.setRow w2 _ _ = w3; have hbt : But (w1.heap.size + 1) w2 w3 := hS ▸ but_setRow _ _ _; replace p8 := Lib.hid (p8.out.but hbt (Nat.succ_ne_self _).symm); replace p9 : Hid (Whole w3 (w1.heap.size + 1) 56 #[.int .i64 R.2.2.e, .int .i64 R.2.2.c.k, .slice A2 R.2.2.c.d.length c2, .int .i64 R.2.2.c.lo, .int .i64 R.2.2.c.hi, .int .i64 R.2.2.c.v]) := Lib.hid (hS ▸ setRow_heap _ _ _ _ _ _ p9.out); replace hbx : Hid (Below w1.heap.size w1 w3) := Lib.hid (hS ▸ below_setRow hbx.out (Nat.le_succ _) _); clear hS hbt; replace hp1 := Lib.hid (hp1.out.on hbx.out); replace hx := Lib.hid (hx.out.keep (Keeps.below hbx.out)); replace hy := Lib.hid (hy.out.keep (Keeps.below hbx.out)); replace p4 := Lib.hid (p4.out.on hbx.out); replace p5 := Lib.hid (p5.out.on hbx.out); have B3 := Lib.hid (B1.out.trans (hbx.out.mono B1.out.size)); clear hbx)
    | (show wpList _ _ _ (Oper.mk _ (.load _ (.tmp 5)) _ _ _ _ :: _) _ _; refine wpList_load_row rfl 24 (.tmp 5) rfl (w.heap.size + 1) rfl _ _ _ _ (p5.out) Tryd.underlying24 rfl (by kernel_rfl) ?_)
    | (show wpList _ _ _ (Oper.mk _ (.load _ (.tmp 4)) _ _ _ _ :: _) _ _; refine wpList_load_row rfl 24 (.tmp 4) rfl (w.heap.size) rfl _ _ _ _ (p4.out) Tryd.underlying24 rfl (by kernel_rfl) ?_))
  refine (T2.out w3 (HV.out.keep (Keeps.below B3.out)) (HA.out.keep (Keeps.below B3.out)) (HB.out.keep (Keeps.below B3.out))).mono ?_
  rintro e w4 ⟨v4, D3, D4, rfl, hp4, hz, ht, b4⟩
  obtain ⟨A3, c3, rfl, _⟩ := id hz
  obtain ⟨A4, c4, rfl, _⟩ := id ht
  rw [bys_len] at hz ht ⊢
  rw [bys_len]
  obtain ⟨E4, f4, rfl⟩ := hp4.slice
  replace hp1 := Lib.hid (hp1.out.on b4)
  replace hx := Lib.hid (hx.out.keep (Keeps.below b4))
  replace hy := Lib.hid (hy.out.keep (Keeps.below b4))
  replace p8 := Lib.hid (p8.out.on b4)
  replace p9 := Lib.hid (p9.out.on b4)
  replace hp4 := Lib.hid hp4
  replace hz := Lib.hid hz
  replace ht := Lib.hid ht
  have B4 := Lib.hid (B3.out.trans (b4.mono B3.out.size))
  clear b4 B3 B1 T2 p4 p5
  unfold av
  go_wp2_with (first
    | ((show wpList _ _ _ (Oper.mk _ (.store _ (.tmp 11) _) _ _ _ _ :: _) _ _; refine wpList_store_row rfl _ (.tmp 11) (.tmp 27) rfl (w4.heap.size) _ rfl rfl _ _ ((Whole.made w4 56 #[.int .i64 0, .int .i64 0, .slice none 0 0, .int .i64 0, .int .i64 0, .int .i64 0]).later (.cells #[.int .i64 0, .int .i64 0, .slice none 0 0, .int .i64 0, .int .i64 0, .int .i64 0] 56)) (by kernel_rfl) rfl (by simp [Value.oneCell']) ?_); generalize hS : World.setRow _ _ _ = w5; have hbt := (hS ▸ but_setRow _ _ _ : But w4.heap.size ((w4.alloc (.cells #[.int .i64 0, .int .i64 0, .slice none 0 0, .int .i64 0, .int .i64 0, .int .i64 0] 56)).alloc (.cells #[.int .i64 0, .int .i64 0, .slice none 0 0, .int .i64 0, .int .i64 0, .int .i64 0] 56)) w5); have p11 : Hid (Whole w5 w4.heap.size 56 #[.int .i64 Q.2.1.e, .int .i64 Q.2.1.c.k, .slice A3 Q.2.1.c.d.length c3, .int .i64 Q.2.1.c.lo, .int .i64 Q.2.1.c.hi, .int .i64 Q.2.1.c.v]) := Lib.hid (hS ▸ setRow_heap _ _ _ _ _ _ ((Whole.made w4 56 #[.int .i64 0, .int .i64 0, .slice none 0 0, .int .i64 0, .int .i64 0, .int .i64 0]).later (.cells #[.int .i64 0, .int .i64 0, .slice none 0 0, .int .i64 0, .int .i64 0, .int .i64 0] 56))); have p12 := Lib.hid ((Whole.second w4 (.cells #[.int .i64 0, .int .i64 0, .slice none 0 0, .int .i64 0, .int .i64 0, .int .i64 0] 56) 56 #[.int .i64 0, .int .i64 0, .slice none 0 0, .int .i64 0, .int .i64 0, .int .i64 0]).but hbt (Nat.succ_ne_self _)); have hbx : Hid (Below w4.heap.size w4 w5) := Lib.hid (hS ▸ below_setRow (two_more (Below.refl _ w4) _ _) (Nat.le_refl _) _); clear hS hbt)
    | ((show wpList _ _ _ (Oper.mk _ (.store _ (.tmp 12) _) _ _ _ _ :: _) _ _; refine wpList_store_row rfl _ (.tmp 12) (.tmp 28) rfl (w4.heap.size + 1) _ rfl rfl _ _ (p12.out) (by kernel_rfl) rfl (by simp [Value.oneCell']) ?_); generalize hS : World.setRow w5 _ _ = w6; have hbt : But (w4.heap.size + 1) w5 w6 := hS ▸ but_setRow _ _ _; replace p11 := Lib.hid (p11.out.but hbt (Nat.succ_ne_self _).symm); replace p12 : Hid (Whole w6 (w4.heap.size + 1) 56 #[.int .i64 Q.2.2.e, .int .i64 Q.2.2.c.k, .slice A4 Q.2.2.c.d.length c4, .int .i64 Q.2.2.c.lo, .int .i64 Q.2.2.c.hi, .int .i64 Q.2.2.c.v]) := Lib.hid (hS ▸ setRow_heap _ _ _ _ _ _ p12.out); replace hbx : Hid (Below w4.heap.size w4 w6) := Lib.hid (hS ▸ below_setRow hbx.out (Nat.le_succ _) _); clear hS hbt; replace hp1 := Lib.hid (hp1.out.on hbx.out); replace hx := Lib.hid (hx.out.keep (Keeps.below hbx.out)); replace hy := Lib.hid (hy.out.keep (Keeps.below hbx.out)); replace hp4 := Lib.hid (hp4.out.on hbx.out); replace hz := Lib.hid (hz.out.keep (Keeps.below hbx.out)); replace ht := Lib.hid (ht.out.keep (Keeps.below hbx.out)); replace p8 := Lib.hid (p8.out.on hbx.out); replace p9 := Lib.hid (p9.out.on hbx.out); have B6 := Lib.hid (B4.out.trans (hbx.out.mono B4.out.size)); have y8 : w6.cell? ⟨w1.heap.size, 0, none⟩ = some (.int .i64 R.2.1.e) := p8.out.cell 0; have y9 : w6.cell? ⟨w1.heap.size + 1, 0, none⟩ = some (.int .i64 R.2.2.e) := p9.out.cell 0; have y11 : w6.cell? ⟨w4.heap.size, 0, none⟩ = some (.int .i64 Q.2.1.e) := p11.out.cell 0; have y12 : w6.cell? ⟨w4.heap.size + 1, 0, none⟩ = some (.int .i64 Q.2.2.e) := p12.out.cell 0; clear hbx))
  go_ret
  exact ⟨by simp [*], B6.out⟩
set_option maxHeartbeats 4000000 in
theorem rtight_5 (v : Value) (s : List Pr) (A B : Option Addr) (n m c d : Nat) (a b : Ox) (w : World) (hv : PS w v s) (hA : SV w (.slice A n c) (bys a.b)) (hB : SV w (.slice B m d) (bys b.b)) (hq : Asks s a b) (h1 : ((twoX s a b).2.1.e != 8) = true) (h2 : ((twoX s a b).2.2.e != 8) = true) (h3 : ((twoX s b a).2.1.e != 8) = true) (h4 : ((twoX s b a).2.2.e != 8) = true) :
    Calls Tryd.prog 19 #[v, ov (.slice A n c) a, ov (.slice B m d) b] w fun e w' => e = .returned (.bool (tightB s a b)) ∧ Below w.heap.size w w' := by
  unfold tightB
  skip
  obtain ⟨Av, cv', rfl⟩ := hv.slice
  have T1 := fun w' (hw : PS w' (.slice Av s.length cv') s) (hx : SV w' (.slice A n c) (bys a.b)) (hy : SV w' (.slice B m d) (bys b.b)) => rtwo10_any _ s A B n m c d a b w' hw hx hy hq
  have T2 := fun w' (hw : PS w' (.slice Av s.length cv') s) (hx : SV w' (.slice A n c) (bys a.b)) (hy : SV w' (.slice B m d) (bys b.b)) => rtwo10_any _ s B A m n d c b a w' hw hy hx hq.swap
  have HV := Lib.hid hv
  have HA := Lib.hid hA
  have HB := Lib.hid hB
  unfold Twoed at T1 T2
  generalize twoX s a b = R at *
  generalize twoX s b a = Q at *
  unfold ov kst at T1 T2 ⊢
  replace T1 := Lib.hid T1
  replace T2 := Lib.hid T2
  clear hv hA hB hq
  go_enter Tryd.func19, Tryd.ntmps19
  go_wp2_with fail
  have p4 := Lib.hid ((Whole.made w 24 #[.int .i64 a.d, .string ⟨a.k.toArray⟩, .slice A n c, .int .i64 a.lo, .int .i64 a.hi, .int .i64 a.n]).later (.cells #[.int .i64 b.d, .string ⟨b.k.toArray⟩, .slice B m d, .int .i64 b.lo, .int .i64 b.hi, .int .i64 b.n] 24))
  have p5 := Lib.hid (Whole.second w (.cells #[.int .i64 a.d, .string ⟨a.k.toArray⟩, .slice A n c, .int .i64 a.lo, .int .i64 a.hi, .int .i64 a.n] 24) 24 #[.int .i64 b.d, .string ⟨b.k.toArray⟩, .slice B m d, .int .i64 b.lo, .int .i64 b.hi, .int .i64 b.n])
  have B0 := Lib.hid (two_more (Below.refl _ w) (.cells #[.int .i64 a.d, .string ⟨a.k.toArray⟩, .slice A n c, .int .i64 a.lo, .int .i64 a.hi, .int .i64 a.n] 24) (.cells #[.int .i64 b.d, .string ⟨b.k.toArray⟩, .slice B m d, .int .i64 b.lo, .int .i64 b.hi, .int .i64 b.n] 24))
  generalize (w.alloc (.cells #[.int .i64 a.d, .string ⟨a.k.toArray⟩, .slice A n c, .int .i64 a.lo, .int .i64 a.hi, .int .i64 a.n] 24)).alloc (.cells #[.int .i64 b.d, .string ⟨b.k.toArray⟩, .slice B m d, .int .i64 b.lo, .int .i64 b.hi, .int .i64 b.n] 24) = w0 at *
  refine (T1.out w0 (HV.out.on B0.out) (HA.out.keep (Keeps.below B0.out)) (HB.out.keep (Keeps.below B0.out))).mono ?_
  rintro e w1 ⟨v1, D1, D2, rfl, hp1, hx, hy, b1⟩
  obtain ⟨A1, c1, rfl, _⟩ := id hx
  obtain ⟨A2, c2, rfl, _⟩ := id hy
  rw [bys_len] at hx hy ⊢
  rw [bys_len]
  obtain ⟨E1, f1, rfl⟩ := hp1.slice
  replace hp1 := Lib.hid hp1
  replace hx := Lib.hid hx
  replace hy := Lib.hid hy
  replace p4 := Lib.hid (p4.out.on b1)
  replace p5 := Lib.hid (p5.out.on b1)
  have B1 := Lib.hid (B0.out.trans (b1.mono B0.out.size))
  clear b1 B0 T1
  unfold av
  go_wp2_with (first
    | ((show wpList _ _ _ (Oper.mk _ (.store _ (.tmp 8) _) _ _ _ _ :: _) _ _; refine wpList_store_row rfl _ (.tmp 8) (.tmp 19) rfl (w1.heap.size) _ rfl rfl _ _ ((Whole.made w1 56 #[.int .i64 0, .int .i64 0, .slice none 0 0, .int .i64 0, .int .i64 0, .int .i64 0]).later (.cells #[.int .i64 0, .int .i64 0, .slice none 0 0, .int .i64 0, .int .i64 0, .int .i64 0] 56)) (by kernel_rfl) rfl (by simp [Value.oneCell']) ?_); generalize hS : World.setRow _ _ _ = w2; have hbt := (hS ▸ but_setRow _ _ _ : But w1.heap.size ((w1.alloc (.cells #[.int .i64 0, .int .i64 0, .slice none 0 0, .int .i64 0, .int .i64 0, .int .i64 0] 56)).alloc (.cells #[.int .i64 0, .int .i64 0, .slice none 0 0, .int .i64 0, .int .i64 0, .int .i64 0] 56)) w2); have p8 : Hid (Whole w2 w1.heap.size 56 #[.int .i64 R.2.1.e, .int .i64 R.2.1.c.k, .slice A1 R.2.1.c.d.length c1, .int .i64 R.2.1.c.lo, .int .i64 R.2.1.c.hi, .int .i64 R.2.1.c.v]) := Lib.hid (hS ▸ setRow_heap _ _ _ _ _ _ ((Whole.made w1 56 #[.int .i64 0, .int .i64 0, .slice none 0 0, .int .i64 0, .int .i64 0, .int .i64 0]).later (.cells #[.int .i64 0, .int .i64 0, .slice none 0 0, .int .i64 0, .int .i64 0, .int .i64 0] 56))); have p9 := Lib.hid ((Whole.second w1 (.cells #[.int .i64 0, .int .i64 0, .slice none 0 0, .int .i64 0, .int .i64 0, .int .i64 0] 56) 56 #[.int .i64 0, .int .i64 0, .slice none 0 0, .int .i64 0, .int .i64 0, .int .i64 0]).but hbt (Nat.succ_ne_self _)); have hbx : Hid (Below w1.heap.size w1 w2) := Lib.hid (hS ▸ below_setRow (two_more (Below.refl _ w1) _ _) (Nat.le_refl _) _); clear hS hbt)
    | ((show wpList _ _ _ (Oper.mk _ (.store _ (.tmp 9) _) _ _ _ _ :: _) _ _; refine wpList_store_row rfl _ (.tmp 9) (.tmp 20) rfl (w1.heap.size + 1) _ rfl rfl _ _ (p9.out) (by kernel_rfl) rfl (by simp [Value.oneCell']) ?_); generalize hS : World.setRow w2 _ _ = w3; have hbt : But (w1.heap.size + 1) w2 w3 := hS ▸ but_setRow _ _ _; replace p8 := Lib.hid (p8.out.but hbt (Nat.succ_ne_self _).symm); replace p9 : Hid (Whole w3 (w1.heap.size + 1) 56 #[.int .i64 R.2.2.e, .int .i64 R.2.2.c.k, .slice A2 R.2.2.c.d.length c2, .int .i64 R.2.2.c.lo, .int .i64 R.2.2.c.hi, .int .i64 R.2.2.c.v]) := Lib.hid (hS ▸ setRow_heap _ _ _ _ _ _ p9.out); replace hbx : Hid (Below w1.heap.size w1 w3) := Lib.hid (hS ▸ below_setRow hbx.out (Nat.le_succ _) _); clear hS hbt; replace hp1 := Lib.hid (hp1.out.on hbx.out); replace hx := Lib.hid (hx.out.keep (Keeps.below hbx.out)); replace hy := Lib.hid (hy.out.keep (Keeps.below hbx.out)); replace p4 := Lib.hid (p4.out.on hbx.out); replace p5 := Lib.hid (p5.out.on hbx.out); have B3 := Lib.hid (B1.out.trans (hbx.out.mono B1.out.size)); clear hbx)
    | (show wpList _ _ _ (Oper.mk _ (.load _ (.tmp 5)) _ _ _ _ :: _) _ _; refine wpList_load_row rfl 24 (.tmp 5) rfl (w.heap.size + 1) rfl _ _ _ _ (p5.out) Tryd.underlying24 rfl (by kernel_rfl) ?_)
    | (show wpList _ _ _ (Oper.mk _ (.load _ (.tmp 4)) _ _ _ _ :: _) _ _; refine wpList_load_row rfl 24 (.tmp 4) rfl (w.heap.size) rfl _ _ _ _ (p4.out) Tryd.underlying24 rfl (by kernel_rfl) ?_))
  refine (T2.out w3 (HV.out.keep (Keeps.below B3.out)) (HA.out.keep (Keeps.below B3.out)) (HB.out.keep (Keeps.below B3.out))).mono ?_
  rintro e w4 ⟨v4, D3, D4, rfl, hp4, hz, ht, b4⟩
  obtain ⟨A3, c3, rfl, _⟩ := id hz
  obtain ⟨A4, c4, rfl, _⟩ := id ht
  rw [bys_len] at hz ht ⊢
  rw [bys_len]
  obtain ⟨E4, f4, rfl⟩ := hp4.slice
  replace hp1 := Lib.hid (hp1.out.on b4)
  replace hx := Lib.hid (hx.out.keep (Keeps.below b4))
  replace hy := Lib.hid (hy.out.keep (Keeps.below b4))
  replace p8 := Lib.hid (p8.out.on b4)
  replace p9 := Lib.hid (p9.out.on b4)
  replace hp4 := Lib.hid hp4
  replace hz := Lib.hid hz
  replace ht := Lib.hid ht
  have B4 := Lib.hid (B3.out.trans (b4.mono B3.out.size))
  clear b4 B3 B1 T2 p4 p5
  unfold av
  go_wp2_with (first
    | ((show wpList _ _ _ (Oper.mk _ (.store _ (.tmp 11) _) _ _ _ _ :: _) _ _; refine wpList_store_row rfl _ (.tmp 11) (.tmp 27) rfl (w4.heap.size) _ rfl rfl _ _ ((Whole.made w4 56 #[.int .i64 0, .int .i64 0, .slice none 0 0, .int .i64 0, .int .i64 0, .int .i64 0]).later (.cells #[.int .i64 0, .int .i64 0, .slice none 0 0, .int .i64 0, .int .i64 0, .int .i64 0] 56)) (by kernel_rfl) rfl (by simp [Value.oneCell']) ?_); generalize hS : World.setRow _ _ _ = w5; have hbt := (hS ▸ but_setRow _ _ _ : But w4.heap.size ((w4.alloc (.cells #[.int .i64 0, .int .i64 0, .slice none 0 0, .int .i64 0, .int .i64 0, .int .i64 0] 56)).alloc (.cells #[.int .i64 0, .int .i64 0, .slice none 0 0, .int .i64 0, .int .i64 0, .int .i64 0] 56)) w5); have p11 : Hid (Whole w5 w4.heap.size 56 #[.int .i64 Q.2.1.e, .int .i64 Q.2.1.c.k, .slice A3 Q.2.1.c.d.length c3, .int .i64 Q.2.1.c.lo, .int .i64 Q.2.1.c.hi, .int .i64 Q.2.1.c.v]) := Lib.hid (hS ▸ setRow_heap _ _ _ _ _ _ ((Whole.made w4 56 #[.int .i64 0, .int .i64 0, .slice none 0 0, .int .i64 0, .int .i64 0, .int .i64 0]).later (.cells #[.int .i64 0, .int .i64 0, .slice none 0 0, .int .i64 0, .int .i64 0, .int .i64 0] 56))); have p12 := Lib.hid ((Whole.second w4 (.cells #[.int .i64 0, .int .i64 0, .slice none 0 0, .int .i64 0, .int .i64 0, .int .i64 0] 56) 56 #[.int .i64 0, .int .i64 0, .slice none 0 0, .int .i64 0, .int .i64 0, .int .i64 0]).but hbt (Nat.succ_ne_self _)); have hbx : Hid (Below w4.heap.size w4 w5) := Lib.hid (hS ▸ below_setRow (two_more (Below.refl _ w4) _ _) (Nat.le_refl _) _); clear hS hbt)
    | ((show wpList _ _ _ (Oper.mk _ (.store _ (.tmp 12) _) _ _ _ _ :: _) _ _; refine wpList_store_row rfl _ (.tmp 12) (.tmp 28) rfl (w4.heap.size + 1) _ rfl rfl _ _ (p12.out) (by kernel_rfl) rfl (by simp [Value.oneCell']) ?_); generalize hS : World.setRow w5 _ _ = w6; have hbt : But (w4.heap.size + 1) w5 w6 := hS ▸ but_setRow _ _ _; replace p11 := Lib.hid (p11.out.but hbt (Nat.succ_ne_self _).symm); replace p12 : Hid (Whole w6 (w4.heap.size + 1) 56 #[.int .i64 Q.2.2.e, .int .i64 Q.2.2.c.k, .slice A4 Q.2.2.c.d.length c4, .int .i64 Q.2.2.c.lo, .int .i64 Q.2.2.c.hi, .int .i64 Q.2.2.c.v]) := Lib.hid (hS ▸ setRow_heap _ _ _ _ _ _ p12.out); replace hbx : Hid (Below w4.heap.size w4 w6) := Lib.hid (hS ▸ below_setRow hbx.out (Nat.le_succ _) _); clear hS hbt; replace hp1 := Lib.hid (hp1.out.on hbx.out); replace hx := Lib.hid (hx.out.keep (Keeps.below hbx.out)); replace hy := Lib.hid (hy.out.keep (Keeps.below hbx.out)); replace hp4 := Lib.hid (hp4.out.on hbx.out); replace hz := Lib.hid (hz.out.keep (Keeps.below hbx.out)); replace ht := Lib.hid (ht.out.keep (Keeps.below hbx.out)); replace p8 := Lib.hid (p8.out.on hbx.out); replace p9 := Lib.hid (p9.out.on hbx.out); have B6 := Lib.hid (B4.out.trans (hbx.out.mono B4.out.size)); have y8 : w6.cell? ⟨w1.heap.size, 0, none⟩ = some (.int .i64 R.2.1.e) := p8.out.cell 0; have y9 : w6.cell? ⟨w1.heap.size + 1, 0, none⟩ = some (.int .i64 R.2.2.e) := p9.out.cell 0; have y11 : w6.cell? ⟨w4.heap.size, 0, none⟩ = some (.int .i64 Q.2.1.e) := p11.out.cell 0; have y12 : w6.cell? ⟨w4.heap.size + 1, 0, none⟩ = some (.int .i64 Q.2.2.e) := p12.out.cell 0; clear hbx))
  go_ret
  exact ⟨by simp [*], B6.out⟩
theorem rtight10_any (v : Value) (s : List Pr) (A B : Option Addr) (n m c d : Nat) (a b : Ox) (w : World) (hv : PS w v s) (hA : SV w (.slice A n c) (bys a.b)) (hB : SV w (.slice B m d) (bys b.b)) (hq : Asks s a b) :
    Calls Tryd.prog 19 #[v, ov (.slice A n c) a, ov (.slice B m d) b] w fun e w' => e = .returned (.bool (tightB s a b)) ∧ Below w.heap.size w w' := by
  cases h1 : ((twoX s a b).2.1.e != 8) with
  | false => exact rtight_1 v s A B n m c d a b w hv hA hB hq h1
  | true =>
    cases h2 : ((twoX s a b).2.2.e != 8) with
    | false => exact rtight_2 v s A B n m c d a b w hv hA hB hq h1 h2
    | true =>
      cases h3 : ((twoX s b a).2.1.e != 8) with
      | false => exact rtight_3 v s A B n m c d a b w hv hA hB hq h1 h2 h3
      | true =>
        cases h4 : ((twoX s b a).2.2.e != 8) with
        | false => exact rtight_4 v s A B n m c d a b w hv hA hB hq h1 h2 h3 h4
        | true => exact rtight_5 v s A B n m c d a b w hv hA hB hq h1 h2 h3 h4
end Go.Proofs.YtlpgmmcdcjkkiaaDoor
/- The program's modes: contracts of its functions. -/
namespace Go.Proofs.YtlpgmmcdcjkkiaaDoor
set_option maxRecDepth 20000
open Go.RowKit Go.Sort

theorem mis10_any (m : Int) (w : World) : Calls Tryd.prog 24 #[.int .i64 m] w fun e w' => e = .returned (.bool (decide (0 ≤ m) && decide (m < 4))) ∧ w = w' := by
  by_cases h0 : 0 ≤ m
  · by_cases h4 : m < 4
    · go_enter Tryd.func24, Tryd.ntmps24
      go_wp2
      go_ret
      exact ⟨by simp [h0, h4], rfl⟩
    · go_enter Tryd.func24, Tryd.ntmps24
      go_wp2
      go_ret
      exact ⟨by simp [h4], rfl⟩
  · have e : decide (0 ≤ m) = false := by simpa using h0
    rw [e]
    clear e
    go_enter Tryd.func24, Tryd.ntmps24
    go_wp2
    go_ret
    exact ⟨by simp, rfl⟩
theorem mof10_any (d : Int) (w : World) : Calls Tryd.prog 7 #[.int .i64 d] w fun e w' => e = .returned (.int .i64 (modeX d)) ∧ Below w.heap.size w w' := by
  have hd : d = 0 ∨ d = 1 ∨ d = 2 ∨ d = 3 ∨ d = 4 ∨ d = 5 ∨ ((d == 0) = false ∧ (d == 1) = false ∧ (d == 2) = false ∧ (d == 3) = false ∧ (d == 4) = false ∧ (d == 5) = false) := by simp; omega
  rcases hd with rfl | rfl | rfl | rfl | rfl | rfl | ⟨h0, h1, h2, h3, h4, h5⟩
  case inr.inr.inr.inr.inr.inr =>
    have hm : modeX d = -1 := by
      simp at h0 h1 h2 h3 h4 h5
      simp [modeX, h0, h1, h2, h3, h4, h5]
    rw [hm]
    clear hm
    go_enter Tryd.func7, Tryd.ntmps7
    go_wp2
    go_ret
    exact ⟨rfl, Below.refl _ _⟩
  all_goals
    go_enter Tryd.func7, Tryd.ntmps7
    go_wp2
    go_ret
    exact ⟨rfl, Below.refl _ _⟩
theorem mcompat10_eq (a b : Int) (w : World) (ht : Tog w) : Calls Tryd.prog 9 #[.int .i64 a, .int .i64 b] w fun e w' => e = .returned (.bool (compX a b)) ∧ w = w' := by
  have IA := mis10_any a w
  have IB := mis10_any b w
  by_cases ha : 0 ≤ a ∧ a < 4
  · by_cases hb : 0 ≤ b ∧ b < 4
    · obtain ⟨i, rfl⟩ : ∃ i : Nat, a = i := ⟨a.toNat, by omega⟩
      obtain ⟨j, rfl⟩ : ∃ j : Nat, b = j := ⟨b.toNat, by omega⟩
      have hi : i < 4 := by omega
      have hj : j < 4 := by omega
      have hc := ht.cell i j hi hj
      rw [show (decide (0 ≤ (i : Int)) && decide ((i : Int) < 4)) = true by simp; omega] at IA
      rw [show (decide (0 ≤ (j : Int)) && decide ((j : Int) < 4)) = true by simp; omega] at IB
      clear ha hb ht
      generalize compX i j = z at *
      replace IA := Lib.hid IA
      replace IB := Lib.hid IB
      have hi0 : (0 : Int) ≤ i := by omega
      have hi4 : (i : Int) < 4 := by omega
      have hj0 : (0 : Int) ≤ j := by omega
      have hj4 : (j : Int) < 4 := by omega
      go_enter Tryd.func9, Tryd.ntmps9
      go_wp2_with fail
      refine IA.out.mono ?_
      rintro e w1 ⟨rfl, rfl⟩
      go_wp2_with fail
      refine IB.out.mono ?_
      rintro e w1 ⟨rfl, rfl⟩
      go_wp2
      go_ret
      exact ⟨rfl, rfl⟩
    · have e : compX a b = false := by simp [compX]; omega
      rw [show (decide (0 ≤ a) && decide (a < 4)) = true by simp; omega] at IA
      rw [show (decide (0 ≤ b) && decide (b < 4)) = false by simp; omega] at IB
      rw [e]
      clear ha hb ht e
      replace IA := Lib.hid IA
      replace IB := Lib.hid IB
      go_enter Tryd.func9, Tryd.ntmps9
      go_wp2_with fail
      refine IA.out.mono ?_
      rintro e w1 ⟨rfl, rfl⟩
      go_wp2_with fail
      refine IB.out.mono ?_
      rintro e w1 ⟨rfl, rfl⟩
      go_wp2
      go_ret
      exact ⟨rfl, rfl⟩
  · have e : compX a b = false := by simp [compX]; omega
    rw [show (decide (0 ≤ a) && decide (a < 4)) = false by simp; omega] at IA
    rw [e]
    clear ha ht e IB
    replace IA := Lib.hid IA
    go_enter Tryd.func9, Tryd.ntmps9
    go_wp2_with fail
    refine IA.out.mono ?_
    rintro e w1 ⟨rfl, rfl⟩
    go_wp2
    go_ret
    exact ⟨rfl, rfl⟩
def withN (s m : Nat) : Nat := s ||| 2 ^ m
def hasN (s m : Nat) : Bool := s.testBit m
def fitsN (s m : Nat) : Bool := (List.range 4).all fun i => !(hasN s i) || compX i m
theorem or_small : ∀ s < 16, ∀ m < 4, bits .or .i64 ((s : Nat) : Int) ((2 ^ m : Nat) : Int) = ((withN s m : Nat) : Int) := by decide +kernel
theorem and_small : ∀ s < 16, ∀ m < 4, (bits .and .i64 ((s : Nat) : Int) ((2 ^ m : Nat) : Int) != 0) = hasN s m := by decide +kernel
theorem mode_in : ∀ m : Nat, m < 4 → m = 0 ∨ m = 1 ∨ m = 2 ∨ m = 3 := by omega
theorem mis10_in (m : Nat) (h : m < 4) (w : World) : Calls Tryd.prog 24 #[.int .i64 m] w fun e w' => e = .returned (.bool true) ∧ w = w' := by
  have := mis10_any m w
  rwa [show (decide (0 ≤ (m : Int)) && decide ((m : Int) < 4)) = true by simp; omega] at this
theorem mwith10_0 (s r : Nat) (hb : bits .or .i64 (s : Int) 1 = (r : Int)) (w : World) : Calls Tryd.prog 21 #[.int .i64 s, .int .i64 0] w fun e w' => e = .returned (.int .i64 r) ∧ w = w' := by
  have IA := mis10_in 0 (by decide) w
  replace IA : Calls Tryd.prog 24 #[.int .i64 0] w fun e w' => e = .returned (.bool true) ∧ w = w' := IA
  replace IA := Lib.hid IA
  go_enter Tryd.func21, Tryd.ntmps21
  go_wp2_with fail
  refine IA.out.mono ?_
  rintro e w1 ⟨rfl, rfl⟩
  go_wp2
  go_ret
  exact ⟨rfl, rfl⟩
theorem mwith10_1 (s r : Nat) (hb : bits .or .i64 (s : Int) 2 = (r : Int)) (w : World) : Calls Tryd.prog 21 #[.int .i64 s, .int .i64 1] w fun e w' => e = .returned (.int .i64 r) ∧ w = w' := by
  have IA := mis10_in 1 (by decide) w
  replace IA : Calls Tryd.prog 24 #[.int .i64 1] w fun e w' => e = .returned (.bool true) ∧ w = w' := IA
  replace IA := Lib.hid IA
  go_enter Tryd.func21, Tryd.ntmps21
  go_wp2_with fail
  refine IA.out.mono ?_
  rintro e w1 ⟨rfl, rfl⟩
  go_wp2
  go_ret
  exact ⟨rfl, rfl⟩
theorem mwith10_2 (s r : Nat) (hb : bits .or .i64 (s : Int) 4 = (r : Int)) (w : World) : Calls Tryd.prog 21 #[.int .i64 s, .int .i64 2] w fun e w' => e = .returned (.int .i64 r) ∧ w = w' := by
  have IA := mis10_in 2 (by decide) w
  replace IA : Calls Tryd.prog 24 #[.int .i64 2] w fun e w' => e = .returned (.bool true) ∧ w = w' := IA
  replace IA := Lib.hid IA
  go_enter Tryd.func21, Tryd.ntmps21
  go_wp2_with fail
  refine IA.out.mono ?_
  rintro e w1 ⟨rfl, rfl⟩
  go_wp2
  go_ret
  exact ⟨rfl, rfl⟩
theorem mwith10_3 (s r : Nat) (hb : bits .or .i64 (s : Int) 8 = (r : Int)) (w : World) : Calls Tryd.prog 21 #[.int .i64 s, .int .i64 3] w fun e w' => e = .returned (.int .i64 r) ∧ w = w' := by
  have IA := mis10_in 3 (by decide) w
  replace IA : Calls Tryd.prog 24 #[.int .i64 3] w fun e w' => e = .returned (.bool true) ∧ w = w' := IA
  replace IA := Lib.hid IA
  go_enter Tryd.func21, Tryd.ntmps21
  go_wp2_with fail
  refine IA.out.mono ?_
  rintro e w1 ⟨rfl, rfl⟩
  go_wp2
  go_ret
  exact ⟨rfl, rfl⟩
theorem mhas10_0 (s : Nat) (r : Bool) (hb : (bits .and .i64 (s : Int) 1 != 0) = r) (w : World) : Calls Tryd.prog 22 #[.int .i64 s, .int .i64 0] w fun e w' => e = .returned (.bool r) ∧ w = w' := by
  have IA := mis10_in 0 (by decide) w
  replace IA : Calls Tryd.prog 24 #[.int .i64 0] w fun e w' => e = .returned (.bool true) ∧ w = w' := IA
  replace IA := Lib.hid IA
  go_enter Tryd.func22, Tryd.ntmps22
  go_wp2_with fail
  refine IA.out.mono ?_
  rintro e w1 ⟨rfl, rfl⟩
  go_wp2
  go_ret
  exact ⟨rfl, rfl⟩
theorem mhas10_1 (s : Nat) (r : Bool) (hb : (bits .and .i64 (s : Int) 2 != 0) = r) (w : World) : Calls Tryd.prog 22 #[.int .i64 s, .int .i64 1] w fun e w' => e = .returned (.bool r) ∧ w = w' := by
  have IA := mis10_in 1 (by decide) w
  replace IA : Calls Tryd.prog 24 #[.int .i64 1] w fun e w' => e = .returned (.bool true) ∧ w = w' := IA
  replace IA := Lib.hid IA
  go_enter Tryd.func22, Tryd.ntmps22
  go_wp2_with fail
  refine IA.out.mono ?_
  rintro e w1 ⟨rfl, rfl⟩
  go_wp2
  go_ret
  exact ⟨rfl, rfl⟩
theorem mhas10_2 (s : Nat) (r : Bool) (hb : (bits .and .i64 (s : Int) 4 != 0) = r) (w : World) : Calls Tryd.prog 22 #[.int .i64 s, .int .i64 2] w fun e w' => e = .returned (.bool r) ∧ w = w' := by
  have IA := mis10_in 2 (by decide) w
  replace IA : Calls Tryd.prog 24 #[.int .i64 2] w fun e w' => e = .returned (.bool true) ∧ w = w' := IA
  replace IA := Lib.hid IA
  go_enter Tryd.func22, Tryd.ntmps22
  go_wp2_with fail
  refine IA.out.mono ?_
  rintro e w1 ⟨rfl, rfl⟩
  go_wp2
  go_ret
  exact ⟨rfl, rfl⟩
theorem mhas10_3 (s : Nat) (r : Bool) (hb : (bits .and .i64 (s : Int) 8 != 0) = r) (w : World) : Calls Tryd.prog 22 #[.int .i64 s, .int .i64 3] w fun e w' => e = .returned (.bool r) ∧ w = w' := by
  have IA := mis10_in 3 (by decide) w
  replace IA : Calls Tryd.prog 24 #[.int .i64 3] w fun e w' => e = .returned (.bool true) ∧ w = w' := IA
  replace IA := Lib.hid IA
  go_enter Tryd.func22, Tryd.ntmps22
  go_wp2_with fail
  refine IA.out.mono ?_
  rintro e w1 ⟨rfl, rfl⟩
  go_wp2
  go_ret
  exact ⟨rfl, rfl⟩
theorem mwith10_eq (s m : Nat) (hs : s < 16) (hm : m < 4) (w : World) : Calls Tryd.prog 21 #[.int .i64 s, .int .i64 m] w fun e w' => e = .returned (.int .i64 (withN s m : Nat)) ∧ w = w' := by
  have hb := or_small s hs m hm
  rcases mode_in m hm with rfl | rfl | rfl | rfl
  · exact mwith10_0 s _ hb w
  · exact mwith10_1 s _ hb w
  · exact mwith10_2 s _ hb w
  · exact mwith10_3 s _ hb w
theorem mhas10_eq (s m : Nat) (hs : s < 16) (hm : m < 4) (w : World) : Calls Tryd.prog 22 #[.int .i64 s, .int .i64 m] w fun e w' => e = .returned (.bool (hasN s m)) ∧ w = w' := by
  have hb := and_small s hs m hm
  rcases mode_in m hm with rfl | rfl | rfl | rfl
  · exact mhas10_0 s _ hb w
  · exact mhas10_1 s _ hb w
  · exact mhas10_2 s _ hb w
  · exact mhas10_3 s _ hb w
theorem eq_below {P : Ending → Prop} {w : World} : ∀ e w', (P e ∧ w = w') → P e ∧ Below w.heap.size w w' := fun _ _ ⟨h, e⟩ => ⟨h, e ▸ Below.refl _ _⟩
theorem mwith10_any (s m : Nat) (hs : s < 16) (hm : m < 4) (w : World) : Calls Tryd.prog 21 #[.int .i64 s, .int .i64 m] w fun e w' => e = .returned (.int .i64 (withN s m : Nat)) ∧ Below w.heap.size w w' := (mwith10_eq s m hs hm w).mono eq_below
theorem mhas10_any (s m : Nat) (hs : s < 16) (hm : m < 4) (w : World) : Calls Tryd.prog 22 #[.int .i64 s, .int .i64 m] w fun e w' => e = .returned (.bool (hasN s m)) ∧ Below w.heap.size w w' := (mhas10_eq s m hs hm w).mono eq_below
theorem mcompat10_any (a b : Int) (w : World) (ht : Tog w) : Calls Tryd.prog 9 #[.int .i64 a, .int .i64 b] w fun e w' => e = .returned (.bool (compX a b)) ∧ Below w.heap.size w w' := (mcompat10_eq a b w ht).mono eq_below
theorem fits_all4 {s m : Nat} (h : ∀ j < 4, (!(hasN s j) || compX (j : Nat) m) = true) : fitsN s m = true := by
  simp only [fitsN, List.all_eq_true, List.mem_range]
  exact h
theorem fits_not {s m k : Nat} (hk : k < 4) (h1 : hasN s k = true) (h2 : compX m k = false) : fitsN s m = false := by
  rw [comp_comm] at h2
  simp only [fitsN, List.all_eq_false, List.mem_range]
  exact ⟨k, hk, by simp [h1, h2]⟩
theorem mfits10_any (s m : Nat) (hs : s < 16) (hm : m < 4) (w : World) (ht : Tog w) : Calls Tryd.prog 23 #[.int .i64 s, .int .i64 m] w fun e w' => e = .returned (.bool (fitsN s m)) ∧ Below w.heap.size w w' := by
  have IA := Lib.hid (mis10_in m hm w)
  have HA := Lib.hid (fun k hk => mhas10_eq s k hs hk w)
  have CA := Lib.hid (fun (k : Nat) => mcompat10_eq m k w ht)
  clear hs hm ht
  go_enter Tryd.func23, Tryd.ntmps23
  go_wp2_with fail
  refine IA.out.mono ?_
  rintro e w1 ⟨rfl, rfl⟩
  go_wp2
  go_loop [5, 9] (fun _ i => ∃ k : Nat, k ≤ 4 ∧ i = .int .i64 k ∧ ∀ j < k, (!(hasN s j) || compX (j : Nat) m) = true) (fun _ i => 4 - (intOf i).toNat)
  case atStart => exact ⟨0, by omega, rfl, fun j h => by omega⟩
  case round =>
    obtain ⟨k, hk, rfl, hall⟩ := hrel
    replace hall := Lib.hid hall
    by_cases hlt : k < 4
    · have H1 := HA.out k hlt
      have C1 := Lib.hid (CA.out k)
      cases hb : hasN s k with
      | false =>
        rw [hb] at H1
        replace H1 := Lib.hid H1
        replace hb := Lib.hid hb
        go_wp2_with fail
        refine H1.out.mono ?_
        rintro e w1 ⟨rfl, rfl⟩
        go_wp2
        go_round
        case rel => exact ⟨k + 1, by omega, by go_num, fun j hj => by
          rcases Nat.lt_or_ge j k with h | h
          · exact hall.out j h
          · obtain rfl : j = k := by omega
            simp [hb.out]⟩
        case measure => simp [intOf]; omega
      | true =>
        rw [hb] at H1
        replace H1 := Lib.hid H1
        replace hb := Lib.hid hb
        replace C1 := C1.out
        cases hc : compX m k with
        | false =>
          rw [hc] at C1
          replace C1 := Lib.hid C1
          have hf := Lib.hid (fits_not hlt hb.out hc)
          clear hc
          go_wp2_with fail
          refine H1.out.mono ?_
          rintro e w1 ⟨rfl, rfl⟩
          go_wp2_with fail
          refine C1.out.mono ?_
          rintro e w1 ⟨rfl, rfl⟩
          go_wp2
          go_ret
          exact ⟨by rw [hf.out]; rfl, Below.refl _ _⟩
        | true =>
          rw [hc] at C1
          replace C1 := Lib.hid C1
          rw [comp_comm] at hc
          replace hc := Lib.hid hc
          go_wp2_with fail
          refine H1.out.mono ?_
          rintro e w1 ⟨rfl, rfl⟩
          go_wp2_with fail
          refine C1.out.mono ?_
          rintro e w1 ⟨rfl, rfl⟩
          go_wp2
          go_round
          case rel => exact ⟨k + 1, by omega, by go_num, fun j hj => by
            rcases Nat.lt_or_ge j k with h | h
            · exact hall.out j h
            · obtain rfl : j = k := by omega
              simp [hc.out]⟩
          case measure => simp [intOf]; omega
    · obtain rfl : k = 4 := by omega
      have hf := Lib.hid (fits_all4 hall.out)
      go_wp2
      go_ret
      exact ⟨by rw [hf.out]; rfl, Below.refl _ _⟩
theorem mode_none (d : Int) : (modeX d == -1) = !(sixB d) := by
  unfold modeX sixB
  by_cases h0 : d = 0
  · subst h0; rfl
  by_cases h1 : d = 1
  · subst h1; rfl
  by_cases h2 : d = 2
  · subst h2; rfl
  by_cases h3 : d = 3
  · subst h3; rfl
  by_cases h4 : d = 4
  · subst h4; rfl
  by_cases h5 : d = 5
  · subst h5; rfl
  simp [h0, h1, h2, h3, h4, h5]
  omega
theorem mcommute_1 (A B : Option Addr) (n m c d : Nat) (a b : Ox) (w : World) (ha : (modeX a.d == -1) = true) : Calls Tryd.prog 11 #[ov (.slice A n c) a, ov (.slice B m d) b] w fun e w' => e = .returned (.bool false) ∧ Below w.heap.size w w' := by
  have OA := Lib.hid (fun w => mof10_any a.d w)
  have OB := Lib.hid (fun w => mof10_any b.d w)
  generalize modeX a.d = ma at *
  generalize modeX b.d = mb at *
  unfold ov kst
  go_enter Tryd.func11, Tryd.ntmps11
  go_wp2_with fail
  have p2 := Lib.hid ((Whole.made w 24 #[.int .i64 a.d, .string ⟨a.k.toArray⟩, .slice A n c, .int .i64 a.lo, .int .i64 a.hi, .int .i64 a.n]).later (.cells #[.int .i64 b.d, .string ⟨b.k.toArray⟩, .slice B m d, .int .i64 b.lo, .int .i64 b.hi, .int .i64 b.n] 24))
  have p3 := Lib.hid (Whole.second w (.cells #[.int .i64 a.d, .string ⟨a.k.toArray⟩, .slice A n c, .int .i64 a.lo, .int .i64 a.hi, .int .i64 a.n] 24) 24 #[.int .i64 b.d, .string ⟨b.k.toArray⟩, .slice B m d, .int .i64 b.lo, .int .i64 b.hi, .int .i64 b.n])
  have B1 := Lib.hid (two_more (Below.refl _ w) (.cells #[.int .i64 a.d, .string ⟨a.k.toArray⟩, .slice A n c, .int .i64 a.lo, .int .i64 a.hi, .int .i64 a.n] 24) (.cells #[.int .i64 b.d, .string ⟨b.k.toArray⟩, .slice B m d, .int .i64 b.lo, .int .i64 b.hi, .int .i64 b.n] 24))
  generalize (w.alloc (.cells #[.int .i64 a.d, .string ⟨a.k.toArray⟩, .slice A n c, .int .i64 a.lo, .int .i64 a.hi, .int .i64 a.n] 24)).alloc (.cells #[.int .i64 b.d, .string ⟨b.k.toArray⟩, .slice B m d, .int .i64 b.lo, .int .i64 b.hi, .int .i64 b.n] 24) = w1 at *
  refine wp_region_facts 8 [] [] (by kernel_rfl) (by kernel_rfl) (by kernel_rfl) (free_draw w1) ?_
  simp only [List.take_succ_cons, List.take_zero, List.drop_succ_cons, List.drop_zero, List.zipIdx_cons, List.zipIdx_nil, Nat.zero_add, Nat.reduceAdd]
  repeat (show wpF _ _ _ _ _ _ (_ :: _) _ _; first
    | (refine f_skip (fun V => by rfl) ?_; simp only [Act.put, List.setIfInBounds_toArray, List.set_cons_succ, List.set_cons_zero])
      
    | (refine f_load_cell (by first | exact cls_free _ | exact cls_row _ _ _ _ | exact cls_fill _ _ _ _ _ | exact cls_butC _ _ | exact cls_butD _ _ _ _ _ _ _) (fun V => by rfl) _ _ rfl _ (fun V => by rfl) _ (fun w hb => (p2.out.on hb).cell 0) _ Tryd.underlying3 rfl ?_; simp only [Act.put, List.setIfInBounds_toArray, List.set_cons_succ, List.set_cons_zero])
    | (refine f_load_cell (by first | exact cls_free _ | exact cls_row _ _ _ _ | exact cls_fill _ _ _ _ _ | exact cls_butC _ _ | exact cls_butD _ _ _ _ _ _ _) (fun V => by rfl) _ _ rfl _ (fun V => by rfl) _ (fun w hb => (p3.out.on hb).cell 0) _ Tryd.underlying3 rfl ?_; simp only [Act.put, List.setIfInBounds_toArray, List.set_cons_succ, List.set_cons_zero])
    | (refine f_call (by first | exact cls_free _ | exact cls_row _ _ _ _ | exact cls_fill _ _ _ _ _ | exact cls_butC _ _ | exact cls_butD _ _ _ _ _ _ _) (fun V => by rfl) 7 _ _ rfl (enters_of Tryd.func7 rfl rfl) _ _ (fun V w hb hk => OA.out w) (fun V => by rfl) ?_; simp only [Act.put, List.setIfInBounds_toArray, List.set_cons_succ, List.set_cons_zero])
    | (refine f_call (by first | exact cls_free _ | exact cls_row _ _ _ _ | exact cls_fill _ _ _ _ _ | exact cls_butC _ _ | exact cls_butD _ _ _ _ _ _ _) (fun V => by rfl) 7 _ _ rfl (enters_of Tryd.func7 rfl rfl) _ _ (fun V w hb hk => OB.out w) (fun V => by rfl) ?_; simp only [Act.put, List.setIfInBounds_toArray, List.set_cons_succ, List.set_cons_zero])
    | (refine f_quiet (by first | exact cls_free _ | exact cls_row _ _ _ _ | exact cls_fill _ _ _ _ _ | exact cls_butC _ _ | exact cls_butD _ _ _ _ _ _ _) (fun V => by rfl) (fun V => ⟨_, rfl, by simp⟩) ?_; apply Exists.intro; refine And.intro (fun V w hw K hK => ?_) ?_; ((try simp only [Act.put, List.setIfInBounds_toArray, List.set_cons_succ, List.set_cons_zero] at hK); go_big_quiet_op; exact hK); simp only [Act.put, List.setIfInBounds_toArray, List.set_cons_succ, List.set_cons_zero]))
  refine f_nil ?_
  intro V w2 hq2 hkn
  clear hkn
  have y2 : w2.cell? ⟨w.heap.size, 1, none⟩ = some (.string ⟨a.k.toArray⟩) := (p2.out.on hq2).cell 1
  have y3 : w2.cell? ⟨w.heap.size + 1, 1, none⟩ = some (.string ⟨b.k.toArray⟩) := (p3.out.on hq2).cell 1
  have B2 := Lib.hid (B1.out.trans (hq2.mono B1.out.size))
  clear hq2 p2 p3 OA OB B1
  go_wp2
  go_ret
  exact ⟨rfl, B2.out⟩
theorem mcommute_2 (A B : Option Addr) (n m c d : Nat) (a b : Ox) (w : World) (ha : (modeX a.d == -1) = false) (hb2 : (modeX b.d == -1) = true) : Calls Tryd.prog 11 #[ov (.slice A n c) a, ov (.slice B m d) b] w fun e w' => e = .returned (.bool false) ∧ Below w.heap.size w w' := by
  have OA := Lib.hid (fun w => mof10_any a.d w)
  have OB := Lib.hid (fun w => mof10_any b.d w)
  generalize modeX a.d = ma at *
  generalize modeX b.d = mb at *
  unfold ov kst
  go_enter Tryd.func11, Tryd.ntmps11
  go_wp2_with fail
  have p2 := Lib.hid ((Whole.made w 24 #[.int .i64 a.d, .string ⟨a.k.toArray⟩, .slice A n c, .int .i64 a.lo, .int .i64 a.hi, .int .i64 a.n]).later (.cells #[.int .i64 b.d, .string ⟨b.k.toArray⟩, .slice B m d, .int .i64 b.lo, .int .i64 b.hi, .int .i64 b.n] 24))
  have p3 := Lib.hid (Whole.second w (.cells #[.int .i64 a.d, .string ⟨a.k.toArray⟩, .slice A n c, .int .i64 a.lo, .int .i64 a.hi, .int .i64 a.n] 24) 24 #[.int .i64 b.d, .string ⟨b.k.toArray⟩, .slice B m d, .int .i64 b.lo, .int .i64 b.hi, .int .i64 b.n])
  have B1 := Lib.hid (two_more (Below.refl _ w) (.cells #[.int .i64 a.d, .string ⟨a.k.toArray⟩, .slice A n c, .int .i64 a.lo, .int .i64 a.hi, .int .i64 a.n] 24) (.cells #[.int .i64 b.d, .string ⟨b.k.toArray⟩, .slice B m d, .int .i64 b.lo, .int .i64 b.hi, .int .i64 b.n] 24))
  generalize (w.alloc (.cells #[.int .i64 a.d, .string ⟨a.k.toArray⟩, .slice A n c, .int .i64 a.lo, .int .i64 a.hi, .int .i64 a.n] 24)).alloc (.cells #[.int .i64 b.d, .string ⟨b.k.toArray⟩, .slice B m d, .int .i64 b.lo, .int .i64 b.hi, .int .i64 b.n] 24) = w1 at *
  refine wp_region_facts 8 [] [] (by kernel_rfl) (by kernel_rfl) (by kernel_rfl) (free_draw w1) ?_
  simp only [List.take_succ_cons, List.take_zero, List.drop_succ_cons, List.drop_zero, List.zipIdx_cons, List.zipIdx_nil, Nat.zero_add, Nat.reduceAdd]
  repeat (show wpF _ _ _ _ _ _ (_ :: _) _ _; first
    | (refine f_skip (fun V => by rfl) ?_; simp only [Act.put, List.setIfInBounds_toArray, List.set_cons_succ, List.set_cons_zero])
      
    | (refine f_load_cell (by first | exact cls_free _ | exact cls_row _ _ _ _ | exact cls_fill _ _ _ _ _ | exact cls_butC _ _ | exact cls_butD _ _ _ _ _ _ _) (fun V => by rfl) _ _ rfl _ (fun V => by rfl) _ (fun w hb => (p2.out.on hb).cell 0) _ Tryd.underlying3 rfl ?_; simp only [Act.put, List.setIfInBounds_toArray, List.set_cons_succ, List.set_cons_zero])
    | (refine f_load_cell (by first | exact cls_free _ | exact cls_row _ _ _ _ | exact cls_fill _ _ _ _ _ | exact cls_butC _ _ | exact cls_butD _ _ _ _ _ _ _) (fun V => by rfl) _ _ rfl _ (fun V => by rfl) _ (fun w hb => (p3.out.on hb).cell 0) _ Tryd.underlying3 rfl ?_; simp only [Act.put, List.setIfInBounds_toArray, List.set_cons_succ, List.set_cons_zero])
    | (refine f_call (by first | exact cls_free _ | exact cls_row _ _ _ _ | exact cls_fill _ _ _ _ _ | exact cls_butC _ _ | exact cls_butD _ _ _ _ _ _ _) (fun V => by rfl) 7 _ _ rfl (enters_of Tryd.func7 rfl rfl) _ _ (fun V w hb hk => OA.out w) (fun V => by rfl) ?_; simp only [Act.put, List.setIfInBounds_toArray, List.set_cons_succ, List.set_cons_zero])
    | (refine f_call (by first | exact cls_free _ | exact cls_row _ _ _ _ | exact cls_fill _ _ _ _ _ | exact cls_butC _ _ | exact cls_butD _ _ _ _ _ _ _) (fun V => by rfl) 7 _ _ rfl (enters_of Tryd.func7 rfl rfl) _ _ (fun V w hb hk => OB.out w) (fun V => by rfl) ?_; simp only [Act.put, List.setIfInBounds_toArray, List.set_cons_succ, List.set_cons_zero])
    | (refine f_quiet (by first | exact cls_free _ | exact cls_row _ _ _ _ | exact cls_fill _ _ _ _ _ | exact cls_butC _ _ | exact cls_butD _ _ _ _ _ _ _) (fun V => by rfl) (fun V => ⟨_, rfl, by simp⟩) ?_; apply Exists.intro; refine And.intro (fun V w hw K hK => ?_) ?_; ((try simp only [Act.put, List.setIfInBounds_toArray, List.set_cons_succ, List.set_cons_zero] at hK); go_big_quiet_op; exact hK); simp only [Act.put, List.setIfInBounds_toArray, List.set_cons_succ, List.set_cons_zero]))
  refine f_nil ?_
  intro V w2 hq2 hkn
  clear hkn
  have y2 : w2.cell? ⟨w.heap.size, 1, none⟩ = some (.string ⟨a.k.toArray⟩) := (p2.out.on hq2).cell 1
  have y3 : w2.cell? ⟨w.heap.size + 1, 1, none⟩ = some (.string ⟨b.k.toArray⟩) := (p3.out.on hq2).cell 1
  have B2 := Lib.hid (B1.out.trans (hq2.mono B1.out.size))
  clear hq2 p2 p3 OA OB B1
  go_wp2
  go_ret
  exact ⟨rfl, B2.out⟩
theorem mcommute_3 (A B : Option Addr) (n m c d : Nat) (a b : Ox) (w : World) (ha : (modeX a.d == -1) = false) (hb2 : (modeX b.d == -1) = false) (hk : (a.k == b.k) = false) : Calls Tryd.prog 11 #[ov (.slice A n c) a, ov (.slice B m d) b] w fun e w' => e = .returned (.bool true) ∧ Below w.heap.size w w' := by
  have OA := Lib.hid (fun w => mof10_any a.d w)
  have OB := Lib.hid (fun w => mof10_any b.d w)
  have hN := fun w => run_neq_str (P := Tryd.prog) 9 a.k b.k w
  rw [hk] at hN
  generalize modeX a.d = ma at *
  generalize modeX b.d = mb at *
  unfold ov kst
  go_enter Tryd.func11, Tryd.ntmps11
  go_wp2_with fail
  have p2 := Lib.hid ((Whole.made w 24 #[.int .i64 a.d, .string ⟨a.k.toArray⟩, .slice A n c, .int .i64 a.lo, .int .i64 a.hi, .int .i64 a.n]).later (.cells #[.int .i64 b.d, .string ⟨b.k.toArray⟩, .slice B m d, .int .i64 b.lo, .int .i64 b.hi, .int .i64 b.n] 24))
  have p3 := Lib.hid (Whole.second w (.cells #[.int .i64 a.d, .string ⟨a.k.toArray⟩, .slice A n c, .int .i64 a.lo, .int .i64 a.hi, .int .i64 a.n] 24) 24 #[.int .i64 b.d, .string ⟨b.k.toArray⟩, .slice B m d, .int .i64 b.lo, .int .i64 b.hi, .int .i64 b.n])
  have B1 := Lib.hid (two_more (Below.refl _ w) (.cells #[.int .i64 a.d, .string ⟨a.k.toArray⟩, .slice A n c, .int .i64 a.lo, .int .i64 a.hi, .int .i64 a.n] 24) (.cells #[.int .i64 b.d, .string ⟨b.k.toArray⟩, .slice B m d, .int .i64 b.lo, .int .i64 b.hi, .int .i64 b.n] 24))
  generalize (w.alloc (.cells #[.int .i64 a.d, .string ⟨a.k.toArray⟩, .slice A n c, .int .i64 a.lo, .int .i64 a.hi, .int .i64 a.n] 24)).alloc (.cells #[.int .i64 b.d, .string ⟨b.k.toArray⟩, .slice B m d, .int .i64 b.lo, .int .i64 b.hi, .int .i64 b.n] 24) = w1 at *
  refine wp_region_facts 8 [] [] (by kernel_rfl) (by kernel_rfl) (by kernel_rfl) (free_draw w1) ?_
  simp only [List.take_succ_cons, List.take_zero, List.drop_succ_cons, List.drop_zero, List.zipIdx_cons, List.zipIdx_nil, Nat.zero_add, Nat.reduceAdd]
  repeat (show wpF _ _ _ _ _ _ (_ :: _) _ _; first
    | (refine f_skip (fun V => by rfl) ?_; simp only [Act.put, List.setIfInBounds_toArray, List.set_cons_succ, List.set_cons_zero])
      
    | (refine f_load_cell (by first | exact cls_free _ | exact cls_row _ _ _ _ | exact cls_fill _ _ _ _ _ | exact cls_butC _ _ | exact cls_butD _ _ _ _ _ _ _) (fun V => by rfl) _ _ rfl _ (fun V => by rfl) _ (fun w hb => (p2.out.on hb).cell 0) _ Tryd.underlying3 rfl ?_; simp only [Act.put, List.setIfInBounds_toArray, List.set_cons_succ, List.set_cons_zero])
    | (refine f_load_cell (by first | exact cls_free _ | exact cls_row _ _ _ _ | exact cls_fill _ _ _ _ _ | exact cls_butC _ _ | exact cls_butD _ _ _ _ _ _ _) (fun V => by rfl) _ _ rfl _ (fun V => by rfl) _ (fun w hb => (p3.out.on hb).cell 0) _ Tryd.underlying3 rfl ?_; simp only [Act.put, List.setIfInBounds_toArray, List.set_cons_succ, List.set_cons_zero])
    | (refine f_call (by first | exact cls_free _ | exact cls_row _ _ _ _ | exact cls_fill _ _ _ _ _ | exact cls_butC _ _ | exact cls_butD _ _ _ _ _ _ _) (fun V => by rfl) 7 _ _ rfl (enters_of Tryd.func7 rfl rfl) _ _ (fun V w hb hk => OA.out w) (fun V => by rfl) ?_; simp only [Act.put, List.setIfInBounds_toArray, List.set_cons_succ, List.set_cons_zero])
    | (refine f_call (by first | exact cls_free _ | exact cls_row _ _ _ _ | exact cls_fill _ _ _ _ _ | exact cls_butC _ _ | exact cls_butD _ _ _ _ _ _ _) (fun V => by rfl) 7 _ _ rfl (enters_of Tryd.func7 rfl rfl) _ _ (fun V w hb hk => OB.out w) (fun V => by rfl) ?_; simp only [Act.put, List.setIfInBounds_toArray, List.set_cons_succ, List.set_cons_zero])
    | (refine f_quiet (by first | exact cls_free _ | exact cls_row _ _ _ _ | exact cls_fill _ _ _ _ _ | exact cls_butC _ _ | exact cls_butD _ _ _ _ _ _ _) (fun V => by rfl) (fun V => ⟨_, rfl, by simp⟩) ?_; apply Exists.intro; refine And.intro (fun V w hw K hK => ?_) ?_; ((try simp only [Act.put, List.setIfInBounds_toArray, List.set_cons_succ, List.set_cons_zero] at hK); go_big_quiet_op; exact hK); simp only [Act.put, List.setIfInBounds_toArray, List.set_cons_succ, List.set_cons_zero]))
  refine f_nil ?_
  intro V w2 hq2 hkn
  clear hkn
  have y2 : w2.cell? ⟨w.heap.size, 1, none⟩ = some (.string ⟨a.k.toArray⟩) := (p2.out.on hq2).cell 1
  have y3 : w2.cell? ⟨w.heap.size + 1, 1, none⟩ = some (.string ⟨b.k.toArray⟩) := (p3.out.on hq2).cell 1
  have B2 := Lib.hid (B1.out.trans (hq2.mono B1.out.size))
  clear hq2 p2 p3 OA OB B1
  go_wp2
  go_ret
  exact ⟨rfl, B2.out⟩
theorem mcommute_4 (A B : Option Addr) (n m c d : Nat) (a b : Ox) (w : World) (ht : Tog w) (ha : (modeX a.d == -1) = false) (hb2 : (modeX b.d == -1) = false) (hk : (a.k == b.k) = true) : Calls Tryd.prog 11 #[ov (.slice A n c) a, ov (.slice B m d) b] w fun e w' => e = .returned (.bool (compX (modeX a.d) (modeX b.d))) ∧ Below w.heap.size w w' := by
  have OA := Lib.hid (fun w => mof10_any a.d w)
  have OB := Lib.hid (fun w => mof10_any b.d w)
  have hN := fun w => run_neq_str (P := Tryd.prog) 9 a.k b.k w
  rw [hk] at hN
  have CA := Lib.hid (fun w' (h : Below w.heap.size w w') => mcompat10_any (modeX a.d) (modeX b.d) w' (ht.on h))
  clear ht
  generalize modeX a.d = ma at *
  generalize modeX b.d = mb at *
  generalize compX ma mb = r at *
  unfold ov kst
  go_enter Tryd.func11, Tryd.ntmps11
  go_wp2_with fail
  have p2 := Lib.hid ((Whole.made w 24 #[.int .i64 a.d, .string ⟨a.k.toArray⟩, .slice A n c, .int .i64 a.lo, .int .i64 a.hi, .int .i64 a.n]).later (.cells #[.int .i64 b.d, .string ⟨b.k.toArray⟩, .slice B m d, .int .i64 b.lo, .int .i64 b.hi, .int .i64 b.n] 24))
  have p3 := Lib.hid (Whole.second w (.cells #[.int .i64 a.d, .string ⟨a.k.toArray⟩, .slice A n c, .int .i64 a.lo, .int .i64 a.hi, .int .i64 a.n] 24) 24 #[.int .i64 b.d, .string ⟨b.k.toArray⟩, .slice B m d, .int .i64 b.lo, .int .i64 b.hi, .int .i64 b.n])
  have B1 := Lib.hid (two_more (Below.refl _ w) (.cells #[.int .i64 a.d, .string ⟨a.k.toArray⟩, .slice A n c, .int .i64 a.lo, .int .i64 a.hi, .int .i64 a.n] 24) (.cells #[.int .i64 b.d, .string ⟨b.k.toArray⟩, .slice B m d, .int .i64 b.lo, .int .i64 b.hi, .int .i64 b.n] 24))
  generalize (w.alloc (.cells #[.int .i64 a.d, .string ⟨a.k.toArray⟩, .slice A n c, .int .i64 a.lo, .int .i64 a.hi, .int .i64 a.n] 24)).alloc (.cells #[.int .i64 b.d, .string ⟨b.k.toArray⟩, .slice B m d, .int .i64 b.lo, .int .i64 b.hi, .int .i64 b.n] 24) = w1 at *
  refine wp_region_facts 8 [] [] (by kernel_rfl) (by kernel_rfl) (by kernel_rfl) (free_draw w1) ?_
  simp only [List.take_succ_cons, List.take_zero, List.drop_succ_cons, List.drop_zero, List.zipIdx_cons, List.zipIdx_nil, Nat.zero_add, Nat.reduceAdd]
  repeat (show wpF _ _ _ _ _ _ (_ :: _) _ _; first
    | (refine f_skip (fun V => by rfl) ?_; simp only [Act.put, List.setIfInBounds_toArray, List.set_cons_succ, List.set_cons_zero])
      
    | (refine f_load_cell (by first | exact cls_free _ | exact cls_row _ _ _ _ | exact cls_fill _ _ _ _ _ | exact cls_butC _ _ | exact cls_butD _ _ _ _ _ _ _) (fun V => by rfl) _ _ rfl _ (fun V => by rfl) _ (fun w hb => (p2.out.on hb).cell 0) _ Tryd.underlying3 rfl ?_; simp only [Act.put, List.setIfInBounds_toArray, List.set_cons_succ, List.set_cons_zero])
    | (refine f_load_cell (by first | exact cls_free _ | exact cls_row _ _ _ _ | exact cls_fill _ _ _ _ _ | exact cls_butC _ _ | exact cls_butD _ _ _ _ _ _ _) (fun V => by rfl) _ _ rfl _ (fun V => by rfl) _ (fun w hb => (p3.out.on hb).cell 0) _ Tryd.underlying3 rfl ?_; simp only [Act.put, List.setIfInBounds_toArray, List.set_cons_succ, List.set_cons_zero])
    | (refine f_call (by first | exact cls_free _ | exact cls_row _ _ _ _ | exact cls_fill _ _ _ _ _ | exact cls_butC _ _ | exact cls_butD _ _ _ _ _ _ _) (fun V => by rfl) 7 _ _ rfl (enters_of Tryd.func7 rfl rfl) _ _ (fun V w hb hk => OA.out w) (fun V => by rfl) ?_; simp only [Act.put, List.setIfInBounds_toArray, List.set_cons_succ, List.set_cons_zero])
    | (refine f_call (by first | exact cls_free _ | exact cls_row _ _ _ _ | exact cls_fill _ _ _ _ _ | exact cls_butC _ _ | exact cls_butD _ _ _ _ _ _ _) (fun V => by rfl) 7 _ _ rfl (enters_of Tryd.func7 rfl rfl) _ _ (fun V w hb hk => OB.out w) (fun V => by rfl) ?_; simp only [Act.put, List.setIfInBounds_toArray, List.set_cons_succ, List.set_cons_zero])
    | (refine f_quiet (by first | exact cls_free _ | exact cls_row _ _ _ _ | exact cls_fill _ _ _ _ _ | exact cls_butC _ _ | exact cls_butD _ _ _ _ _ _ _) (fun V => by rfl) (fun V => ⟨_, rfl, by simp⟩) ?_; apply Exists.intro; refine And.intro (fun V w hw K hK => ?_) ?_; ((try simp only [Act.put, List.setIfInBounds_toArray, List.set_cons_succ, List.set_cons_zero] at hK); go_big_quiet_op; exact hK); simp only [Act.put, List.setIfInBounds_toArray, List.set_cons_succ, List.set_cons_zero]))
  refine f_nil ?_
  intro V w2 hq2 hkn
  clear hkn
  have y2 : w2.cell? ⟨w.heap.size, 1, none⟩ = some (.string ⟨a.k.toArray⟩) := (p2.out.on hq2).cell 1
  have y3 : w2.cell? ⟨w.heap.size + 1, 1, none⟩ = some (.string ⟨b.k.toArray⟩) := (p3.out.on hq2).cell 1
  have B2 := Lib.hid (B1.out.trans (hq2.mono B1.out.size))
  clear hq2 p2 p3 OA OB B1
  go_wp2_with fail
  refine (CA.out _ B2.out).mono ?_
  rintro e w3 ⟨rfl, b3⟩
  have B3 := Lib.hid (B2.out.trans (b3.mono B2.out.size))
  clear b3 B2
  go_wp2
  go_ret
  exact ⟨rfl, B3.out⟩
theorem mcommute10_any (A B : Option Addr) (n m c d : Nat) (a b : Ox) (w : World) (ht : Tog w) : Calls Tryd.prog 11 #[ov (.slice A n c) a, ov (.slice B m d) b] w fun e w' => e = .returned (.bool (commX a b)) ∧ Below w.heap.size w w' := by
  have na := mode_none a.d
  have nb := mode_none b.d
  unfold commX
  cases ha : sixB a.d with
  | false => rw [ha] at na; exact mcommute_1 A B n m c d a b w na
  | true =>
    rw [ha] at na
    cases hb : sixB b.d with
    | false => rw [hb] at nb; exact mcommute_2 A B n m c d a b w na nb
    | true =>
      rw [hb] at nb
      cases hk : (a.k == b.k) with
      | false => exact mcommute_3 A B n m c d a b w na nb hk
      | true => exact mcommute_4 A B n m c d a b w ht na nb hk
/-- Two operations in a literal. -/
theorem OS.two {w : World} {g : Nat} {t : TypeId} {x y : Ox} {D E : Value} (h : Whole w g t (ocs x D ++ ocs y E).toArray) (hD : SV w D (bys x.b)) (hE : SV w E (bys y.b)) : OS w (.slice (some ⟨g, 0, none⟩) 2 2) [x, y] := by
  refine ⟨some ⟨g, 0, none⟩, 2, rfl, Nat.le_refl _, by simp [maxLen], (fun h => by cases h), fun _ => ⟨g, 0, rfl, fun k p hp => ?_⟩⟩
  match k, hp with
  | 0, hp =>
    simp at hp
    subst hp
    refine ⟨D, fun j u hu => ?_, hD⟩
    have hj := (List.getElem?_eq_some_iff.1 hu).1
    have := h.cell j
    rw [show 0 + 0 * 6 + j = j by omega, this]
    simp only [List.getElem?_toArray]
    rw [List.getElem?_append_left hj]
    exact hu
  | 1, hp =>
    simp at hp
    subst hp
    refine ⟨E, fun j u hu => ?_, hE⟩
    have := h.cell (6 + j)
    rw [show 0 + 1 * 6 + j = 6 + j by omega, this]
    simp only [List.getElem?_toArray]
    rw [List.getElem?_append_right (by simp [ocs])]
    simpa [ocs] using hu
  | k + 2, hp => simp at hp

/-- What Run comes to on two operations. -/
def Ran2 (R : List Pr × An × An) (w : World) (e : Ending) (w' : World) : Prop :=
  ∃ v' g A1 c1 A2 c2, e = .returned (.tuple #[v', .slice (some ⟨g, 0, none⟩) 2 2]) ∧ PS w' v' R.1 ∧ w'.rangeAt g 0 (acs R.2.1 (.slice A1 R.2.1.c.d.length c1)) ∧ w'.rangeAt g 6 (acs R.2.2 (.slice A2 R.2.2.c.d.length c2)) ∧ SV w' (.slice A1 R.2.1.c.d.length c1) (bys R.2.1.c.d) ∧ SV w' (.slice A2 R.2.2.c.d.length c2) (bys R.2.2.c.d) ∧ Below w.heap.size w w'
theorem rans_two {s : List Pr} {a b : Ox} {w w' : World} {e : Ending} (h : Rans s [a, b] w e w') : Ran2 (twoX s a b) w e w' := by
  obtain ⟨v', g, az, he, hp, ha, ht, hb⟩ := h
  match az, ha, ht with
  | [(x1, D1), (x2, D2)], ha, ht =>
    simp only [anssX, List.map_cons, List.map_nil, List.cons.injEq, and_true] at ha
    obtain ⟨rfl, rfl⟩ := ha
    obtain ⟨r1, s1⟩ := ht.at (k := 0) rfl
    obtain ⟨r2, s2⟩ := ht.at (k := 1) rfl
    obtain ⟨A1, c1, e1, _⟩ := id s1
    obtain ⟨A2, c2, e2, _⟩ := id s2
    rw [bys_len] at e1 e2
    simp only at r1 r2 s1 s2 e1 e2
    subst e1 e2
    exact ⟨v', g, A1, c1, A2, c2, he, hp, r1, r2, s1, s2, hb⟩
  | [], ha, ht => cases ha
  | [_], ha, ht => simp [anssX] at ha
  | _ :: _ :: _ :: _, ha, ht => simp [anssX] at ha
theorem run2_any (A B : Option Addr) (n m c d : Nat) (s : List Pr) (a b : Ox) (hq : Asks s a b) (v : Value) (w' : World) (g : Nat) (hg : g = w'.heap.size) (hv : PS w' v s) (hA : SV w' (.slice A n c) (bys a.b)) (hB : SV w' (.slice B m d) (bys b.b)) :
    Calls Tryd.prog 27 #[v, .slice (some ⟨g, 0, none⟩) 2 2] (w'.alloc (.cells (ocs a (.slice A n c) ++ ocs b (.slice B m d)).toArray 24)) (Ran2 (twoX s a b) (w'.alloc (.cells (ocs a (.slice A n c) ++ ocs b (.slice B m d)).toArray 24))) := by
  subst hg
  refine (runs9_any _ v _ s [a, b] (hv.keep (Keeps.alloc _ _)) (OS.two (Whole.made w' _ _) (hA.keep (Keeps.alloc _ _)) (hB.keep (Keeps.alloc _ _))) hq.st hq.i64 (by simp) (by have := hq.len; omega) (fun x hx => ?_) (fun x hx => ?_)).mono fun e w1 h => rans_two h
  · simp at hx
    rcases hx with rfl | rfl
    · exact hq.ab.2.2
    · exact hq.bb.2.2
  · simp at hx
    have h1 := hq.ab
    have h2 := hq.bb
    rcases hx with rfl | rfl
    · exact ⟨by omega, by omega⟩
    · exact ⟨by omega, by omega⟩
set_option maxHeartbeats 4000000 in
theorem mswap10_any (v : Value) (s : List Pr) (A B : Option Addr) (n m c d : Nat) (a b : Ox) (w : World) (hv : PS w v s) (hA : SV w (.slice A n c) (bys a.b)) (hB : SV w (.slice B m d) (bys b.b)) (hq : Asks s a b) :
    Calls Tryd.prog 17 #[v, ov (.slice A n c) a, ov (.slice B m d) b] w fun e w' => e = .returned (.bool (swapB s a b)) ∧ Below w.heap.size w w' := by
  unfold swapB
  obtain ⟨Av, cv', rfl⟩ := hv.slice
  have T1 := fun w' g hg (hw : PS w' (.slice Av s.length cv') s) (hx : SV w' (.slice A n c) (bys a.b)) (hy : SV w' (.slice B m d) (bys b.b)) => run2_any A B n m c d s a b hq _ w' g hg hw hx hy
  have T2 := fun w' g hg (hw : PS w' (.slice Av s.length cv') s) (hx : SV w' (.slice A n c) (bys a.b)) (hy : SV w' (.slice B m d) (bys b.b)) => run2_any B A m n d c s b a hq.swap _ w' g hg hw hy hx
  have HV := Lib.hid hv
  have HA := Lib.hid hA
  have HB := Lib.hid hB
  unfold Ran2 at T1 T2
  generalize twoX s a b = R at *
  generalize twoX s b a = Q at *
  unfold ocs kst at T1 T2
  unfold ov kst
  replace T1 := Lib.hid T1
  replace T2 := Lib.hid T2
  clear hv hA hB hq
  go_enter Tryd.func17, Tryd.ntmps17
  go_wp2_with fail
  have p4 := Lib.hid ((Whole.made w 24 #[.int .i64 a.d, .string ⟨a.k.toArray⟩, .slice A n c, .int .i64 a.lo, .int .i64 a.hi, .int .i64 a.n]).later (.cells #[.int .i64 b.d, .string ⟨b.k.toArray⟩, .slice B m d, .int .i64 b.lo, .int .i64 b.hi, .int .i64 b.n] 24))
  have p5 := Lib.hid (Whole.second w (.cells #[.int .i64 a.d, .string ⟨a.k.toArray⟩, .slice A n c, .int .i64 a.lo, .int .i64 a.hi, .int .i64 a.n] 24) 24 #[.int .i64 b.d, .string ⟨b.k.toArray⟩, .slice B m d, .int .i64 b.lo, .int .i64 b.hi, .int .i64 b.n])
  have B0 := Lib.hid (two_more (Below.refl _ w) (.cells #[.int .i64 a.d, .string ⟨a.k.toArray⟩, .slice A n c, .int .i64 a.lo, .int .i64 a.hi, .int .i64 a.n] 24) (.cells #[.int .i64 b.d, .string ⟨b.k.toArray⟩, .slice B m d, .int .i64 b.lo, .int .i64 b.hi, .int .i64 b.n] 24))
  have z0 := Lib.hid (show w.heap.size + 1 + 1 = ((w.alloc (.cells #[.int .i64 a.d, .string ⟨a.k.toArray⟩, .slice A n c, .int .i64 a.lo, .int .i64 a.hi, .int .i64 a.n] 24)).alloc (.cells #[.int .i64 b.d, .string ⟨b.k.toArray⟩, .slice B m d, .int .i64 b.lo, .int .i64 b.hi, .int .i64 b.n] 24)).heap.size by simp)
  generalize (w.alloc (.cells #[.int .i64 a.d, .string ⟨a.k.toArray⟩, .slice A n c, .int .i64 a.lo, .int .i64 a.hi, .int .i64 a.n] 24)).alloc (.cells #[.int .i64 b.d, .string ⟨b.k.toArray⟩, .slice B m d, .int .i64 b.lo, .int .i64 b.hi, .int .i64 b.n] 24) = w0 at *
  go_wp2_with (first
    | (show wpList _ _ _ (Oper.mk _ (.load _ (.tmp 4)) _ _ _ _ :: _) _ _; refine wpList_load_row rfl 24 (.tmp 4) rfl (w.heap.size) rfl _ _ _ _ (p4.out) Tryd.underlying24 rfl (by kernel_rfl) ?_)
    | (show wpList _ _ _ (Oper.mk _ (.load _ (.tmp 5)) _ _ _ _ :: _) _ _; refine wpList_load_row rfl 24 (.tmp 5) rfl (w.heap.size + 1) rfl _ _ _ _ (p5.out) Tryd.underlying24 rfl (by kernel_rfl) ?_))
  refine Calls.mono (T1.out w0 _ z0.out (HV.out.keep (Keeps.below B0.out)) (HA.out.keep (Keeps.below B0.out)) (HB.out.keep (Keeps.below B0.out))) ?_
  rintro e w1 ⟨v1, g1, A1, c1, A2, c2, rfl, hp1, hr1, hr2, hx, hy, b1⟩
  replace b1 := bthen ((Below.refl _ w0).alloc (Nat.le_refl _) _) b1
  obtain ⟨E1, f1, rfl⟩ := hp1.slice
  replace p4 := Lib.hid (p4.out.on b1)
  replace p5 := Lib.hid (p5.out.on b1)
  replace hp1 := Lib.hid hp1
  replace hr1 := Lib.hid hr1
  replace hr2 := Lib.hid hr2
  replace hx := Lib.hid hx
  replace hy := Lib.hid hy
  have B1 := Lib.hid (B0.out.trans (b1.mono B0.out.size))
  clear b1 B0 T1
  go_wp2_with (first
    | (show wpList _ _ _ (Oper.mk _ (.load _ (.tmp 4)) _ _ _ _ :: _) _ _; refine wpList_load_row rfl 24 (.tmp 4) rfl (w.heap.size) rfl _ _ _ _ (p4.out) Tryd.underlying24 rfl (by kernel_rfl) ?_)
    | (show wpList _ _ _ (Oper.mk _ (.load _ (.tmp 5)) _ _ _ _ :: _) _ _; refine wpList_load_row rfl 24 (.tmp 5) rfl (w.heap.size + 1) rfl _ _ _ _ (p5.out) Tryd.underlying24 rfl (by kernel_rfl) ?_))
  refine Calls.mono (T2.out w1 w1.heap.size rfl (HV.out.keep (Keeps.below B1.out)) (HA.out.keep (Keeps.below B1.out)) (HB.out.keep (Keeps.below B1.out))) ?_
  rintro e w2 ⟨v2, g2, A3, c3, A4, c4, rfl, hp2, hr3, hr4, hz, hu, b2⟩
  replace b2 := bthen ((Below.refl _ w1).alloc (Nat.le_refl _) _) b2
  obtain ⟨E2, f2, rfl⟩ := hp2.slice
  replace hp1 := Lib.hid (hp1.out.on b2)
  replace hr1 := Lib.hid (rangeAt_keep hr1.out (Keeps.below b2))
  replace hr2 := Lib.hid (rangeAt_keep hr2.out (Keeps.below b2))
  replace hx := Lib.hid (hx.out.keep (Keeps.below b2))
  replace hy := Lib.hid (hy.out.keep (Keeps.below b2))
  replace hp2 := Lib.hid hp2
  replace hr3 := Lib.hid hr3
  replace hr4 := Lib.hid hr4
  replace hz := Lib.hid hz
  replace hu := Lib.hid hu
  have B2 := Lib.hid (B1.out.trans (b2.mono B1.out.size))
  clear b2 B1 T2 p4 p5 HV HA HB
  go_wp2_with fail
  have SS := fun w' (hw : Below w2.heap.size w2 w') => same9_any _ _ R.1 Q.1 w' (hp1.out.on hw) (hp2.out.on hw)
  have S1 := fun w' (hw : Below w2.heap.size w2 w') => sameAnswer9_any R.2.1 Q.2.2 A1 A4 c1 c4 w' (hx.out.keep (Keeps.below hw)) (hu.out.keep (Keeps.below hw))
  have S2 := fun w' (hw : Below w2.heap.size w2 w') => sameAnswer9_any R.2.2 Q.2.1 A2 A3 c2 c3 w' (hy.out.keep (Keeps.below hw)) (hz.out.keep (Keeps.below hw))
  unfold av at S1 S2
  cases h1 : eqS R.1 Q.1 with
  | false =>
    rw [h1] at SS
    replace SS := Lib.hid SS
    replace h1 := Lib.hid h1
    clear S1 S2
    refine wp_region_facts 22 [] [] (by kernel_rfl) (by kernel_rfl) (by kernel_rfl) (free_draw w2) ?_
    simp only [List.take_succ_cons, List.take_zero, List.drop_succ_cons, List.drop_zero, List.zipIdx_cons, List.zipIdx_nil, Nat.zero_add, Nat.reduceAdd]
    repeat (show wpF _ _ _ _ _ _ (_ :: _) _ _; first
      | (refine f_skip (fun V => by rfl) ?_; simp only [Act.put, List.setIfInBounds_toArray, List.set_cons_succ, List.set_cons_zero])
        
        | (refine f_call (by first | exact cls_free _ | exact cls_row _ _ _ _ | exact cls_fill _ _ _ _ _ | exact cls_butC _ _ | exact cls_butD _ _ _ _ _ _ _) (fun V => by rfl) 28 _ _ rfl (enters_of Tryd.func28 rfl rfl) _ _ (fun V w hb hk => SS.out w hb) (fun V => by rfl) ?_; simp only [Act.put, List.setIfInBounds_toArray, List.set_cons_succ, List.set_cons_zero])
      | (refine f_quiet (by first | exact cls_free _ | exact cls_row _ _ _ _ | exact cls_fill _ _ _ _ _ | exact cls_butC _ _ | exact cls_butD _ _ _ _ _ _ _) (fun V => by rfl) (fun V => ⟨_, rfl, by simp⟩) ?_; apply Exists.intro; refine And.intro (fun V w hw K hK => ?_) ?_; ((try simp only [Act.put, List.setIfInBounds_toArray, List.set_cons_succ, List.set_cons_zero] at hK); go_big_quiet_op; exact hK); simp only [Act.put, List.setIfInBounds_toArray, List.set_cons_succ, List.set_cons_zero]))
    refine f_nil ?_
    intro V w' hq2 hkn
    clear hkn
    have B3 := Lib.hid (B2.out.trans (hq2.mono B2.out.size))
    clear hq2
    go_wp2
    go_ret
    exact ⟨by rw [h1.out]; rfl, B3.out⟩
  | true =>
    rw [h1] at SS
    replace SS := Lib.hid SS
    replace h1 := Lib.hid h1
    cases h2 : eqA R.2.1 Q.2.2 with
    | false =>
      rw [h2] at S1
      replace S1 := Lib.hid S1
      clear S2
      replace h2 := Lib.hid h2
      refine wp_region_facts 22 [] [] (by kernel_rfl) (by kernel_rfl) (by kernel_rfl) (free_draw w2) ?_
      simp only [List.take_succ_cons, List.take_zero, List.drop_succ_cons, List.drop_zero, List.zipIdx_cons, List.zipIdx_nil, Nat.zero_add, Nat.reduceAdd]
      repeat (show wpF _ _ _ _ _ _ (_ :: _) _ _; first
        | (refine f_skip (fun V => by rfl) ?_; simp only [Act.put, List.setIfInBounds_toArray, List.set_cons_succ, List.set_cons_zero])
          
            | (refine f_load_mid (by first | exact cls_free _ | exact cls_row _ _ _ _ | exact cls_fill _ _ _ _ _ | exact cls_butC _ _ | exact cls_butD _ _ _ _ _ _ _) (fun V => by rfl) 56 _ rfl _ _ (fun V => by rfl) (acs R.2.1 (.slice A1 R.2.1.c.d.length c1)) _ (fun w hb => rangeAt_keep hr1.out (Keeps.below hb)) Tryd.underlying56 rfl (by kernel_rfl) ?_; simp only [Act.put, List.setIfInBounds_toArray, List.set_cons_succ, List.set_cons_zero])
            | (refine f_load_mid (by first | exact cls_free _ | exact cls_row _ _ _ _ | exact cls_fill _ _ _ _ _ | exact cls_butC _ _ | exact cls_butD _ _ _ _ _ _ _) (fun V => by rfl) 56 _ rfl _ _ (fun V => by rfl) (acs Q.2.2 (.slice A4 Q.2.2.c.d.length c4)) _ (fun w hb => rangeAt_keep hr4.out (Keeps.below hb)) Tryd.underlying56 rfl (by kernel_rfl) ?_; simp only [Act.put, List.setIfInBounds_toArray, List.set_cons_succ, List.set_cons_zero])
            | (refine f_call (by first | exact cls_free _ | exact cls_row _ _ _ _ | exact cls_fill _ _ _ _ _ | exact cls_butC _ _ | exact cls_butD _ _ _ _ _ _ _) (fun V => by rfl) 28 _ _ rfl (enters_of Tryd.func28 rfl rfl) _ _ (fun V w hb hk => SS.out w hb) (fun V => by rfl) ?_; simp only [Act.put, List.setIfInBounds_toArray, List.set_cons_succ, List.set_cons_zero])
            | (refine f_call (by first | exact cls_free _ | exact cls_row _ _ _ _ | exact cls_fill _ _ _ _ _ | exact cls_butC _ _ | exact cls_butD _ _ _ _ _ _ _) (fun V => by rfl) 29 _ _ rfl (enters_of Tryd.func29 rfl rfl) _ _ (fun V w hb hk => S1.out w hb) (fun V => by rfl) ?_; simp only [Act.put, List.setIfInBounds_toArray, List.set_cons_succ, List.set_cons_zero])
        | (refine f_quiet (by first | exact cls_free _ | exact cls_row _ _ _ _ | exact cls_fill _ _ _ _ _ | exact cls_butC _ _ | exact cls_butD _ _ _ _ _ _ _) (fun V => by rfl) (fun V => ⟨_, rfl, by simp⟩) ?_; apply Exists.intro; refine And.intro (fun V w hw K hK => ?_) ?_; ((try simp only [Act.put, List.setIfInBounds_toArray, List.set_cons_succ, List.set_cons_zero] at hK); go_big_quiet_op; exact hK); simp only [Act.put, List.setIfInBounds_toArray, List.set_cons_succ, List.set_cons_zero]))
      refine f_nil ?_
      intro V w' hq2 hkn
      clear hkn
      have B3 := Lib.hid (B2.out.trans (hq2.mono B2.out.size))
      clear hq2
      go_wp2
      go_ret
      exact ⟨by rw [h1.out, h2.out]; rfl, B3.out⟩
    | true =>
      rw [h2] at S1
      replace S1 := Lib.hid S1
      replace h2 := Lib.hid h2
      generalize hq3 : eqA R.2.2 Q.2.1 = q3 at *
      replace S2 := Lib.hid S2
      replace hq3 := Lib.hid hq3
      refine wp_region_facts 22 [] [] (by kernel_rfl) (by kernel_rfl) (by kernel_rfl) (free_draw w2) ?_
      simp only [List.take_succ_cons, List.take_zero, List.drop_succ_cons, List.drop_zero, List.zipIdx_cons, List.zipIdx_nil, Nat.zero_add, Nat.reduceAdd]
      repeat (show wpF _ _ _ _ _ _ (_ :: _) _ _; first
        | (refine f_skip (fun V => by rfl) ?_; simp only [Act.put, List.setIfInBounds_toArray, List.set_cons_succ, List.set_cons_zero])
          
            | (refine f_load_mid (by first | exact cls_free _ | exact cls_row _ _ _ _ | exact cls_fill _ _ _ _ _ | exact cls_butC _ _ | exact cls_butD _ _ _ _ _ _ _) (fun V => by rfl) 56 _ rfl _ _ (fun V => by rfl) (acs R.2.1 (.slice A1 R.2.1.c.d.length c1)) _ (fun w hb => rangeAt_keep hr1.out (Keeps.below hb)) Tryd.underlying56 rfl (by kernel_rfl) ?_; simp only [Act.put, List.setIfInBounds_toArray, List.set_cons_succ, List.set_cons_zero])
            | (refine f_load_mid (by first | exact cls_free _ | exact cls_row _ _ _ _ | exact cls_fill _ _ _ _ _ | exact cls_butC _ _ | exact cls_butD _ _ _ _ _ _ _) (fun V => by rfl) 56 _ rfl _ _ (fun V => by rfl) (acs R.2.2 (.slice A2 R.2.2.c.d.length c2)) _ (fun w hb => rangeAt_keep hr2.out (Keeps.below hb)) Tryd.underlying56 rfl (by kernel_rfl) ?_; simp only [Act.put, List.setIfInBounds_toArray, List.set_cons_succ, List.set_cons_zero])
            | (refine f_load_mid (by first | exact cls_free _ | exact cls_row _ _ _ _ | exact cls_fill _ _ _ _ _ | exact cls_butC _ _ | exact cls_butD _ _ _ _ _ _ _) (fun V => by rfl) 56 _ rfl _ _ (fun V => by rfl) (acs Q.2.1 (.slice A3 Q.2.1.c.d.length c3)) _ (fun w hb => rangeAt_keep hr3.out (Keeps.below hb)) Tryd.underlying56 rfl (by kernel_rfl) ?_; simp only [Act.put, List.setIfInBounds_toArray, List.set_cons_succ, List.set_cons_zero])
            | (refine f_load_mid (by first | exact cls_free _ | exact cls_row _ _ _ _ | exact cls_fill _ _ _ _ _ | exact cls_butC _ _ | exact cls_butD _ _ _ _ _ _ _) (fun V => by rfl) 56 _ rfl _ _ (fun V => by rfl) (acs Q.2.2 (.slice A4 Q.2.2.c.d.length c4)) _ (fun w hb => rangeAt_keep hr4.out (Keeps.below hb)) Tryd.underlying56 rfl (by kernel_rfl) ?_; simp only [Act.put, List.setIfInBounds_toArray, List.set_cons_succ, List.set_cons_zero])
            | (refine f_call (by first | exact cls_free _ | exact cls_row _ _ _ _ | exact cls_fill _ _ _ _ _ | exact cls_butC _ _ | exact cls_butD _ _ _ _ _ _ _) (fun V => by rfl) 28 _ _ rfl (enters_of Tryd.func28 rfl rfl) _ _ (fun V w hb hk => SS.out w hb) (fun V => by rfl) ?_; simp only [Act.put, List.setIfInBounds_toArray, List.set_cons_succ, List.set_cons_zero])
            | (refine f_call (by first | exact cls_free _ | exact cls_row _ _ _ _ | exact cls_fill _ _ _ _ _ | exact cls_butC _ _ | exact cls_butD _ _ _ _ _ _ _) (fun V => by rfl) 29 _ _ rfl (enters_of Tryd.func29 rfl rfl) _ _ (fun V w hb hk => S1.out w hb) (fun V => by rfl) ?_; simp only [Act.put, List.setIfInBounds_toArray, List.set_cons_succ, List.set_cons_zero])
            | (refine f_call (by first | exact cls_free _ | exact cls_row _ _ _ _ | exact cls_fill _ _ _ _ _ | exact cls_butC _ _ | exact cls_butD _ _ _ _ _ _ _) (fun V => by rfl) 29 _ _ rfl (enters_of Tryd.func29 rfl rfl) _ _ (fun V w hb hk => S2.out w hb) (fun V => by rfl) ?_; simp only [Act.put, List.setIfInBounds_toArray, List.set_cons_succ, List.set_cons_zero])
        | (refine f_quiet (by first | exact cls_free _ | exact cls_row _ _ _ _ | exact cls_fill _ _ _ _ _ | exact cls_butC _ _ | exact cls_butD _ _ _ _ _ _ _) (fun V => by rfl) (fun V => ⟨_, rfl, by simp⟩) ?_; apply Exists.intro; refine And.intro (fun V w hw K hK => ?_) ?_; ((try simp only [Act.put, List.setIfInBounds_toArray, List.set_cons_succ, List.set_cons_zero] at hK); go_big_quiet_op; exact hK); simp only [Act.put, List.setIfInBounds_toArray, List.set_cons_succ, List.set_cons_zero]))
      refine f_nil ?_
      intro V w' hq2 hkn
      clear hkn
      have B3 := Lib.hid (B2.out.trans (hq2.mono B2.out.size))
      clear hq2
      go_wp2
      go_ret
      exact ⟨by rw [h1.out, h2.out, hq3.out]; simp, B3.out⟩
end Go.Proofs.YtlpgmmcdcjkkiaaDoor
/- What the laws ModesTables and ModesSwaps come to. -/
namespace Go.Proofs.YtlpgmmcdcjkkiaaDoor
set_option maxRecDepth 20000
open Go.RowKit Go.Sort

theorem run_eql_bb (z : Bool) (w : World) : (binOp .eql 4 (.bool z) (.bool z)).run Tryd.prog w = .ok (.bool true) w := by
  rw [run_eql_bool (P := Tryd.prog) (w := w) 4 z z Tryd.underlying4]
  simp
theorem guard_bb {P : Program} (op : BinOp) (t : TypeId) (s u : Operand) (a b : Bool) (w : World) : (eqGuard op t s u (.bool a) (.bool b)).run P w = .ok () w := by
  cases op <;> simp [eqGuard]
theorem live10_any (w : World) (ht : Tog w) : Calls Tryd.prog 13 #[] w fun e w' => e = .returned (.bool true) ∧ Below w.heap.size w w' := by
  have C1 := fun w' (h : Below w.heap.size w w') => mcommute10_any none none 0 0 0 0 ⟨4, [97], [], 0, 0, 0⟩ ⟨5, [97], [], 0, 0, 0⟩ w' (ht.on h)
  have C2 := fun w' (h : Below w.heap.size w w') => mcommute10_any none none 0 0 0 0 ⟨0, [97], [], 0, 0, 0⟩ ⟨4, [97], [], 0, 0, 0⟩ w' (ht.on h)
  rw [show commX ⟨4, [97], [], 0, 0, 0⟩ ⟨5, [97], [], 0, 0, 0⟩ = true from rfl] at C1
  rw [show commX ⟨0, [97], [], 0, 0, 0⟩ ⟨4, [97], [], 0, 0, 0⟩ = false from rfl] at C2
  unfold ov kst at C1 C2
  clear ht
  replace C1 := Lib.hid C1
  replace C2 := Lib.hid C2
  go_enter Tryd.func13, Tryd.ntmps13
  go_wp2_with fail
  refine (C1.out _ (Below.refl _ _)).mono ?_
  rintro e w1 ⟨rfl, b1⟩
  replace b1 := Lib.hid b1
  go_wp2_with fail
  refine (C2.out _ b1.out).mono ?_
  rintro e w2 ⟨rfl, b2⟩
  replace b2 := Lib.hid (b1.out.trans (b2.mono b1.out.size))
  go_wp2
  go_ret
  exact ⟨rfl, b2.out⟩
set_option maxHeartbeats 4000000 in
theorem tables10_law (k x y : Int) (A B : Option Addr) (n m c d : Nat) (a b : Ox) (w : World) (ht : Tog w) :
    Calls Tryd.prog 3 #[.int .i64 k, .int .i64 x, .int .i64 y, ov (.slice A n c) a, ov (.slice B m d) b] w fun e w' => e = .returned (.bool true) ∧ Below w.heap.size w w' := by
  have LV := Lib.hid (fun w' (h : Below w.heap.size w w') => live10_any w' (ht.on h))
  have O1 := Lib.hid (fun w => mof10_any k w)
  have O2 := Lib.hid (fun w => rof10_any k w)
  have P1 := Lib.hid (fun w' (h : Below w.heap.size w w') => mcompat10_any x y w' (ht.on h))
  have P2 := Lib.hid (fun w => rcompat10_any x y w)
  have C1 := fun w' (h : Below w.heap.size w w') => mcommute10_any A B n m c d a b w' (ht.on h)
  have C2 := fun w' (h : Below w.heap.size w w') => mcommute10_any B A m n d c b a w' (ht.on h)
  have C3 := fun w => rcommute10_any (.slice A n c) (.slice B m d) a b w
  clear ht
  rw [comm_comm b a] at C2
  unfold ov kst at C1 C2 C3 ⊢
  generalize commX a b = z1 at *
  generalize compX x y = z2 at *
  replace C1 := Lib.hid C1
  replace C2 := Lib.hid C2
  replace C3 := Lib.hid C3
  go_enter Tryd.func3, Tryd.ntmps3
  go_wp2_with fail
  have p8 := Lib.hid ((Whole.made w 24 #[.int .i64 a.d, .string ⟨a.k.toArray⟩, .slice A n c, .int .i64 a.lo, .int .i64 a.hi, .int .i64 a.n]).later (.cells #[.int .i64 b.d, .string ⟨b.k.toArray⟩, .slice B m d, .int .i64 b.lo, .int .i64 b.hi, .int .i64 b.n] 24))
  have p9 := Lib.hid (Whole.second w (.cells #[.int .i64 a.d, .string ⟨a.k.toArray⟩, .slice A n c, .int .i64 a.lo, .int .i64 a.hi, .int .i64 a.n] 24) 24 #[.int .i64 b.d, .string ⟨b.k.toArray⟩, .slice B m d, .int .i64 b.lo, .int .i64 b.hi, .int .i64 b.n])
  have B1 := Lib.hid (two_more (Below.refl _ w) (.cells #[.int .i64 a.d, .string ⟨a.k.toArray⟩, .slice A n c, .int .i64 a.lo, .int .i64 a.hi, .int .i64 a.n] 24) (.cells #[.int .i64 b.d, .string ⟨b.k.toArray⟩, .slice B m d, .int .i64 b.lo, .int .i64 b.hi, .int .i64 b.n] 24))
  generalize (w.alloc (.cells #[.int .i64 a.d, .string ⟨a.k.toArray⟩, .slice A n c, .int .i64 a.lo, .int .i64 a.hi, .int .i64 a.n] 24)).alloc (.cells #[.int .i64 b.d, .string ⟨b.k.toArray⟩, .slice B m d, .int .i64 b.lo, .int .i64 b.hi, .int .i64 b.n] 24) = w1 at *
  refine wp_region_facts 35 [] [] (by kernel_rfl) (by kernel_rfl) (by kernel_rfl) (free_draw w1) ?_
  simp only [List.take_succ_cons, List.take_zero, List.drop_succ_cons, List.drop_zero, List.zipIdx_cons, List.zipIdx_nil, Nat.zero_add, Nat.reduceAdd]
  repeat (show wpF _ _ _ _ _ _ (_ :: _) _ _; first
    | (refine f_skip (fun V => by rfl) ?_; simp only [Act.put, List.setIfInBounds_toArray, List.set_cons_succ, List.set_cons_zero])
      
    | (refine f_load_row (by first | exact cls_free _ | exact cls_row _ _ _ _ | exact cls_fill _ _ _ _ _ | exact cls_butC _ _ | exact cls_butD _ _ _ _ _ _ _) (fun V => by rfl) _ _ rfl _ (fun V => by rfl) _ _ _ (fun w hb => p8.out.on hb) Tryd.underlying24 rfl (by kernel_rfl) ?_; simp only [Act.put, List.setIfInBounds_toArray, List.set_cons_succ, List.set_cons_zero])
    | (refine f_load_row (by first | exact cls_free _ | exact cls_row _ _ _ _ | exact cls_fill _ _ _ _ _ | exact cls_butC _ _ | exact cls_butD _ _ _ _ _ _ _) (fun V => by rfl) _ _ rfl _ (fun V => by rfl) _ _ _ (fun w hb => p9.out.on hb) Tryd.underlying24 rfl (by kernel_rfl) ?_; simp only [Act.put, List.setIfInBounds_toArray, List.set_cons_succ, List.set_cons_zero])
    | (refine f_binop (by first | exact cls_free _ | exact cls_row _ _ _ _ | exact cls_fill _ _ _ _ _ | exact cls_butC _ _ | exact cls_butD _ _ _ _ _ _ _) (fun V => by rfl) _ _ _ _ _ rfl _ _ _ (fun w => run_eql_bb _ w) (fun w => guard_bb _ _ _ _ _ _ w) (fun V => by rfl) (fun V => by rfl) ?_; simp only [Act.put, List.setIfInBounds_toArray, List.set_cons_succ, List.set_cons_zero])
    | (refine f_binop (by first | exact cls_free _ | exact cls_row _ _ _ _ | exact cls_fill _ _ _ _ _ | exact cls_butC _ _ | exact cls_butD _ _ _ _ _ _ _) (fun V => by rfl) _ _ _ _ _ rfl _ _ _ (fun w => run_eql_i _ _ _ _ true (show (modeX k == modeX k) = true by simp) w) (fun w => guard_eql_i _ _ _ _ _ _ w) (fun V => by rfl) (fun V => by rfl) ?_; simp only [Act.put, List.setIfInBounds_toArray, List.set_cons_succ, List.set_cons_zero])
    | (refine f_call (by first | exact cls_free _ | exact cls_row _ _ _ _ | exact cls_fill _ _ _ _ _ | exact cls_butC _ _ | exact cls_butD _ _ _ _ _ _ _) (fun V => by rfl) 7 _ _ rfl (enters_of Tryd.func7 rfl rfl) _ _ (fun V w hb hk => O1.out w) (fun V => by rfl) ?_; simp only [Act.put, List.setIfInBounds_toArray, List.set_cons_succ, List.set_cons_zero])
    | (refine f_call (by first | exact cls_free _ | exact cls_row _ _ _ _ | exact cls_fill _ _ _ _ _ | exact cls_butC _ _ | exact cls_butD _ _ _ _ _ _ _) (fun V => by rfl) 8 _ _ rfl (enters_of Tryd.func8 rfl rfl) _ _ (fun V w hb hk => O2.out w) (fun V => by rfl) ?_; simp only [Act.put, List.setIfInBounds_toArray, List.set_cons_succ, List.set_cons_zero])
    | (refine f_call (by first | exact cls_free _ | exact cls_row _ _ _ _ | exact cls_fill _ _ _ _ _ | exact cls_butC _ _ | exact cls_butD _ _ _ _ _ _ _) (fun V => by rfl) 9 _ _ rfl (enters_of Tryd.func9 rfl rfl) _ _ (fun V w hb hk => P1.out w (B1.out.trans (hb.mono B1.out.size))) (fun V => by rfl) ?_; simp only [Act.put, List.setIfInBounds_toArray, List.set_cons_succ, List.set_cons_zero])
    | (refine f_call (by first | exact cls_free _ | exact cls_row _ _ _ _ | exact cls_fill _ _ _ _ _ | exact cls_butC _ _ | exact cls_butD _ _ _ _ _ _ _) (fun V => by rfl) 10 _ _ rfl (enters_of Tryd.func10 rfl rfl) _ _ (fun V w hb hk => (P2.out w).mono fun e w1 ⟨h1, h2⟩ => ⟨h1, h2 ▸ Below.refl _ _⟩) (fun V => by rfl) ?_; simp only [Act.put, List.setIfInBounds_toArray, List.set_cons_succ, List.set_cons_zero])
    | (refine f_call (by first | exact cls_free _ | exact cls_row _ _ _ _ | exact cls_fill _ _ _ _ _ | exact cls_butC _ _ | exact cls_butD _ _ _ _ _ _ _) (fun V => by rfl) 11 _ _ rfl (enters_of Tryd.func11 rfl rfl) _ _ (fun V w hb hk => C1.out w (B1.out.trans (hb.mono B1.out.size))) (fun V => by rfl) ?_; simp only [Act.put, List.setIfInBounds_toArray, List.set_cons_succ, List.set_cons_zero])
    | (refine f_call (by first | exact cls_free _ | exact cls_row _ _ _ _ | exact cls_fill _ _ _ _ _ | exact cls_butC _ _ | exact cls_butD _ _ _ _ _ _ _) (fun V => by rfl) 11 _ _ rfl (enters_of Tryd.func11 rfl rfl) _ _ (fun V w hb hk => C2.out w (B1.out.trans (hb.mono B1.out.size))) (fun V => by rfl) ?_; simp only [Act.put, List.setIfInBounds_toArray, List.set_cons_succ, List.set_cons_zero])
    | (refine f_call (by first | exact cls_free _ | exact cls_row _ _ _ _ | exact cls_fill _ _ _ _ _ | exact cls_butC _ _ | exact cls_butD _ _ _ _ _ _ _) (fun V => by rfl) 12 _ _ rfl (enters_of Tryd.func12 rfl rfl) _ _ (fun V w hb hk => C3.out w) (fun V => by rfl) ?_; simp only [Act.put, List.setIfInBounds_toArray, List.set_cons_succ, List.set_cons_zero])
    | (refine f_call (by first | exact cls_free _ | exact cls_row _ _ _ _ | exact cls_fill _ _ _ _ _ | exact cls_butC _ _ | exact cls_butD _ _ _ _ _ _ _) (fun V => by rfl) 13 _ _ rfl (enters_of Tryd.func13 rfl rfl) _ _ (fun V w hb hk => LV.out w (B1.out.trans (hb.mono B1.out.size))) (fun V => by rfl) ?_; simp only [Act.put, List.setIfInBounds_toArray, List.set_cons_succ, List.set_cons_zero])
    | (refine f_quiet (by first | exact cls_free _ | exact cls_row _ _ _ _ | exact cls_fill _ _ _ _ _ | exact cls_butC _ _ | exact cls_butD _ _ _ _ _ _ _) (fun V => by rfl) (fun V => ⟨_, rfl, by simp⟩) ?_; apply Exists.intro; refine And.intro (fun V w hw K hK => ?_) ?_; ((try simp only [Act.put, List.setIfInBounds_toArray, List.set_cons_succ, List.set_cons_zero] at hK); go_big_quiet_op; exact hK); simp only [Act.put, List.setIfInBounds_toArray, List.set_cons_succ, List.set_cons_zero]))
  refine f_nil ?_
  intro V w' hq2 hkn
  clear hkn
  have B8 := Lib.hid (B1.out.trans (hq2.mono B1.out.size))
  clear hq2
  go_wp2
  go_ret
  exact ⟨rfl, B8.out⟩
theorem muchTwo (A B : Option Addr) (c d : Nat) (a b : Ox) (ha : a.b.length ≤ 9223372036854775807) (hka : a.k.length ≤ 9223372036854775807) (hb : b.b.length ≤ 9223372036854775807) (hkb : b.k.length ≤ 9223372036854775807) (w' : World) (g : Nat) (hg : g = w'.heap.size) (hA : SV w' (.slice A a.b.length c) (bys a.b)) (hB : SV w' (.slice B b.b.length d) (bys b.b)) :
    Calls Tryd.prog 16 #[.slice (some ⟨g, 0, none⟩) 2 2] (w'.alloc (.cells (ocs a (.slice A a.b.length c) ++ ocs b (.slice B b.b.length d)).toArray 24)) (MuchedO [a, b] (w'.alloc (.cells (ocs a (.slice A a.b.length c) ++ ocs b (.slice B b.b.length d)).toArray 24))) := by
  subst hg
  exact much9_any _ [a, b] _ (OS.two (Whole.made w' _ _) (hA.keep (Keeps.alloc _ _)) (hB.keep (Keeps.alloc _ _))) (fun p hp => by
    simp at hp
    rcases hp with rfl | rfl
    · exact ⟨ha, hka⟩
    · exact ⟨hb, hkb⟩)
set_option maxHeartbeats 4000000 in
theorem swaps10_law (v D E : Value) (s : List Pr) (a b : Ox) (w : World) (ht : Tog w) (hv : PS w v s) (hs : ∀ p ∈ s, in64c p.c ∧ p.c.d.length ≤ 9223372036854775807 ∧ p.k.length ≤ 9223372036854775807) (hD : SV w D (bys a.b)) (ha : a.b.length ≤ 9223372036854775807) (hka : a.k.length ≤ 9223372036854775807) (ha64 : in64x a) (hE : SV w E (bys b.b)) (hb : b.b.length ≤ 9223372036854775807) (hkb : b.k.length ≤ 9223372036854775807) (hb64 : in64x b) :
    Calls Tryd.prog 4 #[v, ov D a, ov E b] w fun e w' => e = .returned (.bool true) ∧ Below w.heap.size w w' := by
  obtain ⟨A, c, rfl, _⟩ := id hD
  obtain ⟨B, d, rfl, _⟩ := id hE
  rw [bys_len] at hD hE ⊢
  rw [bys_len]
  obtain ⟨Av, cv', rfl⟩ := hv.slice
  have LV := Lib.hid (fun w' (h : Below w.heap.size w w') => live10_any w' (ht.on h))
  have MS := Lib.hid (fun w' (hw : PS w' (.slice Av s.length cv') s) => muchState_any _ s w' hw (fun p hp => (hs p hp).2))
  have MU := Lib.hid (muchTwo A B c d a b ha hka hb hkb)
  have HT := Lib.hid ht
  have HV := Lib.hid hv
  have HA := Lib.hid hD
  have HB := Lib.hid hE
  have HS := Lib.hid hs
  have A64 := Lib.hid ha64
  have B64 := Lib.hid hb64
  clear ht hv hD hE hs ha hka hb hkb ha64 hb64
  unfold ocs kst at MU
  unfold ov kst
  go_enter Tryd.func4, Tryd.ntmps4
  go_wp2_with fail
  have p4 := Lib.hid ((Whole.made w 24 #[.int .i64 a.d, .string ⟨a.k.toArray⟩, .slice A a.b.length c, .int .i64 a.lo, .int .i64 a.hi, .int .i64 a.n]).later (.cells #[.int .i64 b.d, .string ⟨b.k.toArray⟩, .slice B b.b.length d, .int .i64 b.lo, .int .i64 b.hi, .int .i64 b.n] 24))
  have p5 := Lib.hid (Whole.second w (.cells #[.int .i64 a.d, .string ⟨a.k.toArray⟩, .slice A a.b.length c, .int .i64 a.lo, .int .i64 a.hi, .int .i64 a.n] 24) 24 #[.int .i64 b.d, .string ⟨b.k.toArray⟩, .slice B b.b.length d, .int .i64 b.lo, .int .i64 b.hi, .int .i64 b.n])
  have B0 := Lib.hid (two_more (Below.refl _ w) (.cells #[.int .i64 a.d, .string ⟨a.k.toArray⟩, .slice A a.b.length c, .int .i64 a.lo, .int .i64 a.hi, .int .i64 a.n] 24) (.cells #[.int .i64 b.d, .string ⟨b.k.toArray⟩, .slice B b.b.length d, .int .i64 b.lo, .int .i64 b.hi, .int .i64 b.n] 24))
  generalize (w.alloc (.cells #[.int .i64 a.d, .string ⟨a.k.toArray⟩, .slice A a.b.length c, .int .i64 a.lo, .int .i64 a.hi, .int .i64 a.n] 24)).alloc (.cells #[.int .i64 b.d, .string ⟨b.k.toArray⟩, .slice B b.b.length d, .int .i64 b.lo, .int .i64 b.hi, .int .i64 b.n] 24) = w0 at *
  refine Calls.mono (MS.out _ (HV.out.keep (Keeps.below B0.out))) ?_
  rintro e w1 ⟨g1, rfl, hg1, b1⟩
  replace p4 := Lib.hid (p4.out.on b1)
  replace p5 := Lib.hid (p5.out.on b1)
  have B1 := Lib.hid (B0.out.trans (b1.mono B0.out.size))
  clear b1 B0 MS
  cases g1 with
  | true =>
    clear hg1
    go_wp2_with fail
    refine (LV.out _ B1.out).mono ?_
    rintro e w9 ⟨rfl, b9⟩
    have B9 := Lib.hid (B1.out.trans (b9.mono B1.out.size))
    clear b9
    go_wp2
    go_ret
    exact ⟨rfl, B9.out⟩
  | false =>
    have hs60 := Lib.hid (hg1 rfl)
    have hsm : Small s := fun p hp => by have := hs60.out.2 p hp; omega
    have RR := fun w' (hw : PS w' (.slice Av s.length cv') s) => rright9_any _ s w' hw hsm
    clear hg1 hsm
    cases hr : rightM s with
    | false =>
      rw [hr] at RR
      replace RR := Lib.hid RR
      clear hr
      go_wp2_with fail
      refine (RR.out _ (HV.out.keep (Keeps.below B1.out))).mono ?_
      rintro e w2 ⟨rfl, b2⟩
      have B2 := Lib.hid (B1.out.trans (b2.mono B1.out.size))
      clear b2
      go_wp2_with fail
      refine (LV.out _ B2.out).mono ?_
      rintro e w9 ⟨rfl, b9⟩
      have B9 := Lib.hid (B2.out.trans (b9.mono B2.out.size))
      clear b9
      go_wp2
      go_ret
      exact ⟨rfl, B9.out⟩
    | true =>
      rw [hr] at RR
      replace RR := Lib.hid RR
      have hst := (right_iff s).1 hr
      clear hr
      go_wp2_with fail
      refine (RR.out _ (HV.out.keep (Keeps.below B1.out))).mono ?_
      rintro e w2 ⟨rfl, b2⟩
      replace p4 := Lib.hid (p4.out.on b2)
      replace p5 := Lib.hid (p5.out.on b2)
      have B2 := Lib.hid (B1.out.trans (b2.mono B1.out.size))
      clear b2 B1 RR
      go_wp2_with (first
        | (show wpList _ _ _ (Oper.mk _ (.load _ (.tmp 4)) _ _ _ _ :: _) _ _; refine wpList_load_rowg rfl 24 (.tmp 4) rfl (w.heap.size) rfl _ _ _ _ (p4.out) Tryd.underlying24 rfl (by kernel_rfl) ?_)
        | (show wpList _ _ _ (Oper.mk _ (.load _ (.tmp 5)) _ _ _ _ :: _) _ _; refine wpList_load_rowg rfl 24 (.tmp 5) rfl (w.heap.size + 1) rfl _ _ _ _ (p5.out) Tryd.underlying24 rfl (by kernel_rfl) ?_))
      refine Calls.mono (MU.out w2 w2.heap.size rfl (HA.out.keep (Keeps.below B2.out)) (HB.out.keep (Keeps.below B2.out))) ?_
      rintro e w3 ⟨g3, rfl, hg3, b3⟩
      replace b3 := bthen ((Below.refl _ w2).alloc (Nat.le_refl _) _) b3
      replace p4 := Lib.hid (p4.out.on b3)
      replace p5 := Lib.hid (p5.out.on b3)
      have B3 := Lib.hid (B2.out.trans (b3.mono B2.out.size))
      clear b3 B2 MU
      cases g3 with
      | true =>
        clear hg3
        go_wp2_with fail
        refine (LV.out _ B3.out).mono ?_
        rintro e w9 ⟨rfl, b9⟩
        have B9 := Lib.hid (B3.out.trans (b9.mono B3.out.size))
        clear b9
        go_wp2
        go_ret
        exact ⟨rfl, B9.out⟩
      | false =>
        have hxa := (hg3 rfl).2 a (by simp)
        have hxb := (hg3 rfl).2 b (by simp)
        have hq : Asks s a b := ⟨hst, fun p hp => (HS.out p hp).1, by have := hs60.out.1; omega, ⟨by omega, by omega, A64.out⟩, ⟨by omega, by omega, B64.out⟩⟩
        clear hg3 hxa hxb HS hs60 A64 B64
        have MW := fun w' (hw : PS w' (.slice Av s.length cv') s) (hx : SV w' (.slice A a.b.length c) (bys a.b)) (hy : SV w' (.slice B b.b.length d) (bys b.b)) => mswap10_any _ s A B a.b.length b.b.length c d a b w' hw hx hy hq
        have RW := fun w' (hw : PS w' (.slice Av s.length cv') s) (hx : SV w' (.slice A a.b.length c) (bys a.b)) (hy : SV w' (.slice B b.b.length d) (bys b.b)) => rswap10_any _ s A B a.b.length b.b.length c d a b w' hw hx hy hq
        have TI := fun w' (hw : PS w' (.slice Av s.length cv') s) (hx : SV w' (.slice A a.b.length c) (bys a.b)) (hy : SV w' (.slice B b.b.length d) (bys b.b)) => rtight10_any _ s A B a.b.length b.b.length c d a b w' hw hx hy hq
        have CM := fun w' (h : Below w.heap.size w w') => mcommute10_any A B a.b.length b.b.length c d a b w' (HT.out.on h)
        have key : swapB s a b = true ∨ (swapB s a b = false ∧ commX a b = false) ∨ (swapB s a b = false ∧ commX a b = true ∧ tightB s a b = false) := by
          cases h1 : swapB s a b with
          | true => exact .inl rfl
          | false =>
            cases h2 : commX a b with
            | false => exact .inr (.inl ⟨rfl, rfl⟩)
            | true =>
              cases h3 : tightB s a b with
              | false => exact .inr (.inr ⟨rfl, rfl, rfl⟩)
              | true => have := swapB_comm hst h2 h3; rw [h1] at this; cases this
        unfold ov kst at MW RW TI CM
        replace key := Lib.hid key
        clear hst hq
        rcases key.out with k1 | ⟨k1, k2⟩ | ⟨k1, k2, k3⟩
        · rw [k1] at MW RW
          replace MW := Lib.hid MW
          replace RW := Lib.hid RW
          replace CM := Lib.hid CM
          replace TI := Lib.hid TI
          clear key k1
          go_wp2_with (first
            | (show wpList _ _ _ (Oper.mk _ (.load _ (.tmp 4)) _ _ _ _ :: _) _ _; refine wpList_load_row rfl 24 (.tmp 4) rfl (w.heap.size) rfl _ _ _ _ (p4.out) Tryd.underlying24 rfl (by kernel_rfl) ?_)
            | (show wpList _ _ _ (Oper.mk _ (.load _ (.tmp 5)) _ _ _ _ :: _) _ _; refine wpList_load_row rfl 24 (.tmp 5) rfl (w.heap.size + 1) rfl _ _ _ _ (p5.out) Tryd.underlying24 rfl (by kernel_rfl) ?_)
            | (show wpList _ _ _ (Oper.mk _ (.load _ (.tmp 4)) _ _ _ _ :: _) _ _; refine wpList_load_rowg rfl 24 (.tmp 4) rfl (w.heap.size) rfl _ _ _ _ (p4.out) Tryd.underlying24 rfl (by kernel_rfl) ?_)
            | (show wpList _ _ _ (Oper.mk _ (.load _ (.tmp 5)) _ _ _ _ :: _) _ _; refine wpList_load_rowg rfl 24 (.tmp 5) rfl (w.heap.size + 1) rfl _ _ _ _ (p5.out) Tryd.underlying24 rfl (by kernel_rfl) ?_))
          refine (MW.out w3 (HV.out.keep (Keeps.below B3.out)) (HA.out.keep (Keeps.below B3.out)) (HB.out.keep (Keeps.below B3.out))).mono ?_
          rintro e w4 ⟨rfl, b9⟩
          replace p4 := Lib.hid (p4.out.on b9)
          replace p5 := Lib.hid (p5.out.on b9)
          have B4 := Lib.hid (B3.out.trans (b9.mono B3.out.size))
          clear b9
          go_wp2_with (first
            | (show wpList _ _ _ (Oper.mk _ (.load _ (.tmp 4)) _ _ _ _ :: _) _ _; refine wpList_load_row rfl 24 (.tmp 4) rfl (w.heap.size) rfl _ _ _ _ (p4.out) Tryd.underlying24 rfl (by kernel_rfl) ?_)
            | (show wpList _ _ _ (Oper.mk _ (.load _ (.tmp 5)) _ _ _ _ :: _) _ _; refine wpList_load_row rfl 24 (.tmp 5) rfl (w.heap.size + 1) rfl _ _ _ _ (p5.out) Tryd.underlying24 rfl (by kernel_rfl) ?_)
            | (show wpList _ _ _ (Oper.mk _ (.load _ (.tmp 4)) _ _ _ _ :: _) _ _; refine wpList_load_rowg rfl 24 (.tmp 4) rfl (w.heap.size) rfl _ _ _ _ (p4.out) Tryd.underlying24 rfl (by kernel_rfl) ?_)
            | (show wpList _ _ _ (Oper.mk _ (.load _ (.tmp 5)) _ _ _ _ :: _) _ _; refine wpList_load_rowg rfl 24 (.tmp 5) rfl (w.heap.size + 1) rfl _ _ _ _ (p5.out) Tryd.underlying24 rfl (by kernel_rfl) ?_))
          refine (RW.out w4 (HV.out.keep (Keeps.below B4.out)) (HA.out.keep (Keeps.below B4.out)) (HB.out.keep (Keeps.below B4.out))).mono ?_
          rintro e w5 ⟨rfl, b9⟩
          replace p4 := Lib.hid (p4.out.on b9)
          replace p5 := Lib.hid (p5.out.on b9)
          have B5 := Lib.hid (B4.out.trans (b9.mono B4.out.size))
          clear b9
          go_wp2_with fail
          refine (LV.out _ B5.out).mono ?_
          rintro e w9 ⟨rfl, b9⟩
          have B9 := Lib.hid (B5.out.trans (b9.mono B5.out.size))
          clear b9
          go_wp2
          go_ret
          exact ⟨rfl, B9.out⟩
        · rw [k1] at MW RW
          rw [k2] at CM
          replace MW := Lib.hid MW
          replace RW := Lib.hid RW
          replace CM := Lib.hid CM
          replace TI := Lib.hid TI
          clear key k1 k2
          go_wp2_with (first
            | (show wpList _ _ _ (Oper.mk _ (.load _ (.tmp 4)) _ _ _ _ :: _) _ _; refine wpList_load_row rfl 24 (.tmp 4) rfl (w.heap.size) rfl _ _ _ _ (p4.out) Tryd.underlying24 rfl (by kernel_rfl) ?_)
            | (show wpList _ _ _ (Oper.mk _ (.load _ (.tmp 5)) _ _ _ _ :: _) _ _; refine wpList_load_row rfl 24 (.tmp 5) rfl (w.heap.size + 1) rfl _ _ _ _ (p5.out) Tryd.underlying24 rfl (by kernel_rfl) ?_)
            | (show wpList _ _ _ (Oper.mk _ (.load _ (.tmp 4)) _ _ _ _ :: _) _ _; refine wpList_load_rowg rfl 24 (.tmp 4) rfl (w.heap.size) rfl _ _ _ _ (p4.out) Tryd.underlying24 rfl (by kernel_rfl) ?_)
            | (show wpList _ _ _ (Oper.mk _ (.load _ (.tmp 5)) _ _ _ _ :: _) _ _; refine wpList_load_rowg rfl 24 (.tmp 5) rfl (w.heap.size + 1) rfl _ _ _ _ (p5.out) Tryd.underlying24 rfl (by kernel_rfl) ?_))
          refine (MW.out w3 (HV.out.keep (Keeps.below B3.out)) (HA.out.keep (Keeps.below B3.out)) (HB.out.keep (Keeps.below B3.out))).mono ?_
          rintro e w4 ⟨rfl, b9⟩
          replace p4 := Lib.hid (p4.out.on b9)
          replace p5 := Lib.hid (p5.out.on b9)
          have B4 := Lib.hid (B3.out.trans (b9.mono B3.out.size))
          clear b9
          go_wp2_with (first
            | (show wpList _ _ _ (Oper.mk _ (.load _ (.tmp 4)) _ _ _ _ :: _) _ _; refine wpList_load_row rfl 24 (.tmp 4) rfl (w.heap.size) rfl _ _ _ _ (p4.out) Tryd.underlying24 rfl (by kernel_rfl) ?_)
            | (show wpList _ _ _ (Oper.mk _ (.load _ (.tmp 5)) _ _ _ _ :: _) _ _; refine wpList_load_row rfl 24 (.tmp 5) rfl (w.heap.size + 1) rfl _ _ _ _ (p5.out) Tryd.underlying24 rfl (by kernel_rfl) ?_)
            | (show wpList _ _ _ (Oper.mk _ (.load _ (.tmp 4)) _ _ _ _ :: _) _ _; refine wpList_load_rowg rfl 24 (.tmp 4) rfl (w.heap.size) rfl _ _ _ _ (p4.out) Tryd.underlying24 rfl (by kernel_rfl) ?_)
            | (show wpList _ _ _ (Oper.mk _ (.load _ (.tmp 5)) _ _ _ _ :: _) _ _; refine wpList_load_rowg rfl 24 (.tmp 5) rfl (w.heap.size + 1) rfl _ _ _ _ (p5.out) Tryd.underlying24 rfl (by kernel_rfl) ?_))
          refine (RW.out w4 (HV.out.keep (Keeps.below B4.out)) (HA.out.keep (Keeps.below B4.out)) (HB.out.keep (Keeps.below B4.out))).mono ?_
          rintro e w5 ⟨rfl, b9⟩
          replace p4 := Lib.hid (p4.out.on b9)
          replace p5 := Lib.hid (p5.out.on b9)
          have B5 := Lib.hid (B4.out.trans (b9.mono B4.out.size))
          clear b9
          go_wp2_with (first
            | (show wpList _ _ _ (Oper.mk _ (.load _ (.tmp 4)) _ _ _ _ :: _) _ _; refine wpList_load_row rfl 24 (.tmp 4) rfl (w.heap.size) rfl _ _ _ _ (p4.out) Tryd.underlying24 rfl (by kernel_rfl) ?_)
            | (show wpList _ _ _ (Oper.mk _ (.load _ (.tmp 5)) _ _ _ _ :: _) _ _; refine wpList_load_row rfl 24 (.tmp 5) rfl (w.heap.size + 1) rfl _ _ _ _ (p5.out) Tryd.underlying24 rfl (by kernel_rfl) ?_)
            | (show wpList _ _ _ (Oper.mk _ (.load _ (.tmp 4)) _ _ _ _ :: _) _ _; refine wpList_load_rowg rfl 24 (.tmp 4) rfl (w.heap.size) rfl _ _ _ _ (p4.out) Tryd.underlying24 rfl (by kernel_rfl) ?_)
            | (show wpList _ _ _ (Oper.mk _ (.load _ (.tmp 5)) _ _ _ _ :: _) _ _; refine wpList_load_rowg rfl 24 (.tmp 5) rfl (w.heap.size + 1) rfl _ _ _ _ (p5.out) Tryd.underlying24 rfl (by kernel_rfl) ?_))
          refine (CM.out w5 B5.out).mono ?_
          rintro e w6 ⟨rfl, b9⟩
          replace p4 := Lib.hid (p4.out.on b9)
          replace p5 := Lib.hid (p5.out.on b9)
          have B6 := Lib.hid (B5.out.trans (b9.mono B5.out.size))
          clear b9
          go_wp2_with fail
          refine (LV.out _ B6.out).mono ?_
          rintro e w9 ⟨rfl, b9⟩
          have B9 := Lib.hid (B6.out.trans (b9.mono B6.out.size))
          clear b9
          go_wp2
          go_ret
          exact ⟨rfl, B9.out⟩
        · rw [k1] at MW RW
          rw [k2] at CM
          rw [k3] at TI
          replace MW := Lib.hid MW
          replace RW := Lib.hid RW
          replace CM := Lib.hid CM
          replace TI := Lib.hid TI
          clear key k1 k2 k3
          go_wp2_with (first
            | (show wpList _ _ _ (Oper.mk _ (.load _ (.tmp 4)) _ _ _ _ :: _) _ _; refine wpList_load_row rfl 24 (.tmp 4) rfl (w.heap.size) rfl _ _ _ _ (p4.out) Tryd.underlying24 rfl (by kernel_rfl) ?_)
            | (show wpList _ _ _ (Oper.mk _ (.load _ (.tmp 5)) _ _ _ _ :: _) _ _; refine wpList_load_row rfl 24 (.tmp 5) rfl (w.heap.size + 1) rfl _ _ _ _ (p5.out) Tryd.underlying24 rfl (by kernel_rfl) ?_)
            | (show wpList _ _ _ (Oper.mk _ (.load _ (.tmp 4)) _ _ _ _ :: _) _ _; refine wpList_load_rowg rfl 24 (.tmp 4) rfl (w.heap.size) rfl _ _ _ _ (p4.out) Tryd.underlying24 rfl (by kernel_rfl) ?_)
            | (show wpList _ _ _ (Oper.mk _ (.load _ (.tmp 5)) _ _ _ _ :: _) _ _; refine wpList_load_rowg rfl 24 (.tmp 5) rfl (w.heap.size + 1) rfl _ _ _ _ (p5.out) Tryd.underlying24 rfl (by kernel_rfl) ?_))
          refine (MW.out w3 (HV.out.keep (Keeps.below B3.out)) (HA.out.keep (Keeps.below B3.out)) (HB.out.keep (Keeps.below B3.out))).mono ?_
          rintro e w4 ⟨rfl, b9⟩
          replace p4 := Lib.hid (p4.out.on b9)
          replace p5 := Lib.hid (p5.out.on b9)
          have B4 := Lib.hid (B3.out.trans (b9.mono B3.out.size))
          clear b9
          go_wp2_with (first
            | (show wpList _ _ _ (Oper.mk _ (.load _ (.tmp 4)) _ _ _ _ :: _) _ _; refine wpList_load_row rfl 24 (.tmp 4) rfl (w.heap.size) rfl _ _ _ _ (p4.out) Tryd.underlying24 rfl (by kernel_rfl) ?_)
            | (show wpList _ _ _ (Oper.mk _ (.load _ (.tmp 5)) _ _ _ _ :: _) _ _; refine wpList_load_row rfl 24 (.tmp 5) rfl (w.heap.size + 1) rfl _ _ _ _ (p5.out) Tryd.underlying24 rfl (by kernel_rfl) ?_)
            | (show wpList _ _ _ (Oper.mk _ (.load _ (.tmp 4)) _ _ _ _ :: _) _ _; refine wpList_load_rowg rfl 24 (.tmp 4) rfl (w.heap.size) rfl _ _ _ _ (p4.out) Tryd.underlying24 rfl (by kernel_rfl) ?_)
            | (show wpList _ _ _ (Oper.mk _ (.load _ (.tmp 5)) _ _ _ _ :: _) _ _; refine wpList_load_rowg rfl 24 (.tmp 5) rfl (w.heap.size + 1) rfl _ _ _ _ (p5.out) Tryd.underlying24 rfl (by kernel_rfl) ?_))
          refine (RW.out w4 (HV.out.keep (Keeps.below B4.out)) (HA.out.keep (Keeps.below B4.out)) (HB.out.keep (Keeps.below B4.out))).mono ?_
          rintro e w5 ⟨rfl, b9⟩
          replace p4 := Lib.hid (p4.out.on b9)
          replace p5 := Lib.hid (p5.out.on b9)
          have B5 := Lib.hid (B4.out.trans (b9.mono B4.out.size))
          clear b9
          go_wp2_with (first
            | (show wpList _ _ _ (Oper.mk _ (.load _ (.tmp 4)) _ _ _ _ :: _) _ _; refine wpList_load_row rfl 24 (.tmp 4) rfl (w.heap.size) rfl _ _ _ _ (p4.out) Tryd.underlying24 rfl (by kernel_rfl) ?_)
            | (show wpList _ _ _ (Oper.mk _ (.load _ (.tmp 5)) _ _ _ _ :: _) _ _; refine wpList_load_row rfl 24 (.tmp 5) rfl (w.heap.size + 1) rfl _ _ _ _ (p5.out) Tryd.underlying24 rfl (by kernel_rfl) ?_)
            | (show wpList _ _ _ (Oper.mk _ (.load _ (.tmp 4)) _ _ _ _ :: _) _ _; refine wpList_load_rowg rfl 24 (.tmp 4) rfl (w.heap.size) rfl _ _ _ _ (p4.out) Tryd.underlying24 rfl (by kernel_rfl) ?_)
            | (show wpList _ _ _ (Oper.mk _ (.load _ (.tmp 5)) _ _ _ _ :: _) _ _; refine wpList_load_rowg rfl 24 (.tmp 5) rfl (w.heap.size + 1) rfl _ _ _ _ (p5.out) Tryd.underlying24 rfl (by kernel_rfl) ?_))
          refine (CM.out w5 B5.out).mono ?_
          rintro e w6 ⟨rfl, b9⟩
          replace p4 := Lib.hid (p4.out.on b9)
          replace p5 := Lib.hid (p5.out.on b9)
          have B6 := Lib.hid (B5.out.trans (b9.mono B5.out.size))
          clear b9
          go_wp2_with (first
            | (show wpList _ _ _ (Oper.mk _ (.load _ (.tmp 4)) _ _ _ _ :: _) _ _; refine wpList_load_row rfl 24 (.tmp 4) rfl (w.heap.size) rfl _ _ _ _ (p4.out) Tryd.underlying24 rfl (by kernel_rfl) ?_)
            | (show wpList _ _ _ (Oper.mk _ (.load _ (.tmp 5)) _ _ _ _ :: _) _ _; refine wpList_load_row rfl 24 (.tmp 5) rfl (w.heap.size + 1) rfl _ _ _ _ (p5.out) Tryd.underlying24 rfl (by kernel_rfl) ?_)
            | (show wpList _ _ _ (Oper.mk _ (.load _ (.tmp 4)) _ _ _ _ :: _) _ _; refine wpList_load_rowg rfl 24 (.tmp 4) rfl (w.heap.size) rfl _ _ _ _ (p4.out) Tryd.underlying24 rfl (by kernel_rfl) ?_)
            | (show wpList _ _ _ (Oper.mk _ (.load _ (.tmp 5)) _ _ _ _ :: _) _ _; refine wpList_load_rowg rfl 24 (.tmp 5) rfl (w.heap.size + 1) rfl _ _ _ _ (p5.out) Tryd.underlying24 rfl (by kernel_rfl) ?_))
          refine (TI.out w6 (HV.out.keep (Keeps.below B6.out)) (HA.out.keep (Keeps.below B6.out)) (HB.out.keep (Keeps.below B6.out))).mono ?_
          rintro e w7 ⟨rfl, b9⟩
          replace p4 := Lib.hid (p4.out.on b9)
          replace p5 := Lib.hid (p5.out.on b9)
          have B7 := Lib.hid (B6.out.trans (b9.mono B6.out.size))
          clear b9
          go_wp2_with fail
          refine (LV.out _ B7.out).mono ?_
          rintro e w9 ⟨rfl, b9⟩
          have B9 := Lib.hid (B7.out.trans (b9.mono B7.out.size))
          clear b9
          go_wp2
          go_ret
          exact ⟨rfl, B9.out⟩
end Go.Proofs.YtlpgmmcdcjkkiaaDoor
