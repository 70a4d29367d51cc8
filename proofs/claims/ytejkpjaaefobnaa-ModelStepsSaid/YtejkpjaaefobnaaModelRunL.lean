/- Run: many steps, one behind the other; the program's. -/
import Derived.Test.YtejkpjaaefobnaaModelRun
import Derived.Test.YtejkpjaaefobnaaModelOps
import Derived.Laws.MakeOwn
namespace Go.Proofs.Ytejkpjaaefobnaa
set_option maxRecDepth 20000
open Go.RowKit Go.Sort

theorem num_1 : -9223372036854775808 ≤ (1 : Int) ∧ (1 : Int) ≤ 9223372036854775807 := ⟨by decide, by decide⟩
theorem num_2 : -9223372036854775808 ≤ (2 : Int) ∧ (2 : Int) ≤ 9223372036854775807 := ⟨by decide, by decide⟩
theorem mov_in64 {c : Cl} {v : Int} (hc : in64c c) : in64c (movX c v).1 := by
  have hz : in64c zeroC := by refine ⟨?_, ?_, ?_, ?_⟩ <;> exact ⟨by decide, by decide⟩
  unfold movX
  split
  · exact hz
  · split
    · exact hz
    · split
      · rename_i h
        have h2 := inB_yes h
        obtain ⟨h3, h4, h5, h6⟩ := hc
        have h7 : -9223372036854775808 ≤ v ∧ v ≤ 9223372036854775807 := ⟨by omega, by omega⟩
        exact ⟨num_2, h4, h5, h7⟩
      · exact hz
theorem mk_in64 {c : Cl} {x : Ox} (hc : in64c c) (hx : in64x x) : in64c (mkX c x).1 := by
  have hz : in64c zeroC := by refine ⟨?_, ?_, ?_, ?_⟩ <;> exact ⟨by decide, by decide⟩
  unfold mkX
  split
  · split
    · exact hz
    · exact hc
  · split
    · split
      · exact hz
      · exact ⟨num_1, hz.2.1, hz.2.2.1, hz.2.2.2⟩
    · split
      · split
        · exact ⟨num_2, hx.2.1, hx.2.2.1, hx.2.2.2⟩
        · exact hz
      · split
        · split
          · exact hz
          · exact hz
        · exact mov_in64 hc
theorem fnd_in64 {s : List Pr} (h : ∀ p ∈ s, in64c p.c) (k : List UInt8) : in64c (fndC s k) := by
  unfold fndC
  cases hf : fnd s k with
  | none => refine ⟨?_, ?_, ?_, ?_⟩ <;> exact ⟨by decide, by decide⟩
  | some c => exact h _ (fnd_mem hf)
theorem step_in64 {s : List Pr} {x : Ox} (h : ∀ p ∈ s, in64c p.c) (hx : in64x x) : ∀ p ∈ (stepX s x).1, in64c p.c := by
  unfold stepX
  split
  · split
    · exact h
    · split
      · exact h
      · intro p hp
        simp only [putS] at hp
        rcases List.mem_append.1 hp with hp | hp
        · exact h p (List.mem_of_mem_take hp)
        · rcases List.mem_append.1 hp with hp | hp
          · unfold one at hp
            split at hp
            · cases hp
            · simp at hp
              subst hp
              exact mk_in64 (fnd_in64 h _) hx
          · exact h p (List.mem_of_mem_drop hp)
  · exact h
theorem run_in64 : ∀ (l : List Ox) {s : List Pr}, (∀ p ∈ s, in64c p.c) → (∀ x ∈ l, in64x x) → ∀ p ∈ runX s l, in64c p.c
  | [], _, h, _ => h
  | x :: l, _, h, hl => run_in64 l (step_in64 h (hl x List.mem_cons_self)) fun y hy => hl y (List.mem_cons_of_mem _ hy)

/-! ### Rows of answers -/
def zAns : Array Value := #[.int .i64 0, .int .i64 0, .slice none 0 0, .int .i64 0, .int .i64 0, .int .i64 0]
theorem Try.ians : (Try.prog.info? 32).map (fun i => (i.zero, i.size, i.bytes)) = some (some (.agg zAns), 6, 64) := by kernel_rfl
theorem zAns_get (i : Nat) (h : i < 6) : isU8 zAns[i]! = false := by
  have : i = 0 ∨ i = 1 ∨ i = 2 ∨ i = 3 ∨ i = 4 ∨ i = 5 := by omega
  rcases this with rfl | rfl | rfl | rfl | rfl | rfl <;> rfl
/-- A row of n answers, without bytes. -/
def Told (w : World) (g n : Nat) : Prop := ∃ L : List Value, w.heap[g]? = some (.cells L.toArray 32 (0, 0)) ∧ L.length = n * 6 ∧ ∀ u ∈ L, isU8 u = false
theorem Told.lt {w : World} {g n : Nat} (h : Told w g n) : g < w.heap.size := by
  obtain ⟨L, h1, _⟩ := h
  exact (Array.getElem?_eq_some_iff.1 h1).1
theorem Told.kept {w w' : World} {g n : Nat} (h : Told w g n) (hb : w'.heap[g]? = w.heap[g]?) : Told w' g n := by
  obtain ⟨L, h1, h2⟩ := h
  exact ⟨L, hb.trans h1, h2⟩
theorem Told.on {w w' : World} {g n : Nat} (h : Told w g n) (hb : Below w.heap.size w w') : Told w' g n := h.kept (hb.block g h.lt)
theorem wpList_told {ops : Array Oper} {rest : List Oper} {o : Oper} {a : Act} {Q : Exit → Act → World → Prop} {w : World} (hw : Region.wanted o (yielded ops a.tmps) = true) (x y : Operand) (ho : o.op = .makeSlice 39 x y) (n : Nat) (kl kc : IntKind) (hx : a.eval x = .int kl (n : Int)) (hy : a.eval y = .int kc (n : Int)) (hn : n ≤ 1000000)
    (h : ∀ w', Hid (Told w' w.heap.size n) → Hid (Below w.heap.size w w') → wpList Try.prog ops Q rest (a.put o.dst (.slice (some ⟨w.heap.size, 0, none⟩) n n)) w') : wpList Try.prog ops Q (o :: rest) a w := by
  obtain ⟨i, hi, hz0, hz1, hz2⟩ := info_parts Try.ians
  have hr := run_makeSlice (P := Try.prog) w 39 32 i (.agg zAns) Try.underlying39 hi hz0 kl kc n n (by omega) (Int.le_refl _) (by rw [hz1]; simp; omega) (by rw [hz2]; omega) (by omega)
  rw [Int.toNat_natCast, hz1] at hr
  refine wpList_runx hw _ _ ?_ (h (w.alloc (.cells (madeCells zAns (n * 6)) 32)) (Lib.hid ?_) (Lib.hid ((Below.refl _ _).alloc (Nat.le_refl _) _)))
  · unfold execOp
    simp only [ho, hx, hy, hr, Sem.run_bind, Sem.run_pure, Result.andThen_ok]
    rfl
  · refine ⟨(madeCells zAns (n * 6)).toList, ?_, by rw [Array.length_toList, size_madeCells], fun u hu => ?_⟩
    · have := heap_alloc_new w (.cells (madeCells zAns (n * 6)) 32)
      simpa using this
    · simp only [madeCells, Array.toList_map, List.mem_map] at hu
      obtain ⟨j, _, rfl⟩ := hu
      exact zAns_get _ (Nat.mod_lt _ (by decide))
theorem wpList_tell {P : Program} {ops : Array Oper} {rest : List Oper} {o : Oper} {a : Act} {w : World} {Q : Exit → Act → World → Prop} (hgd : o.guard = none) (ty : TypeId) (x y : Operand) (ho : o.op = .store ty x y)
    (g n k off : Nat) (cs : List Value) (hx : a.eval x = .pointer (some ⟨g, off, none⟩)) (hy : a.eval y = .agg cs.toArray) (hoff : off = k * 6) (hk : k < n) (hl : cs.length = 6) (hg : Told w g n) (hs : (P.info? ty).map (·.size) = some 6) (h1 : ∀ v ∈ cs, v.oneCell' = true) (h2 : ∀ v ∈ cs, isU8 v = false)
    (h : ∀ w', Hid (Told w' g n) → Hid (But g w w') → wpList P ops Q rest (a.put o.dst undef) w') : wpList P ops Q (o :: rest) a w :=
  wpList_plain hgd fun K hK => by
    obtain ⟨L, q1, q2, q3⟩ := hg
    subst hoff
    have hfit : k * 6 + cs.length ≤ L.length := by rw [hl, q2]; omega
    obtain ⟨w', hst, g2, g3⟩ := run_storeRow (P := P) w g (k * 6) _ L cs q1 hfit h1
    have hT : Told w' g n := ⟨_, g2, (length_splice _ _ _ hfit).trans q2, fun u hu => (mem_splice hu).elim (q3 u) (h2 u)⟩
    have h5 := hK _ _ (h w' (Lib.hid hT) (Lib.hid g3))
    cases hq : P.info? ty with
    | none => simp [hq] at hs
    | some inf =>
      have hs' : inf.size = 6 := by simpa [hq] using hs
      have h3 : (sizeOf ty).run P w = .ok 6 w := by simp [sizeOf, typeInfo, hq, hs']
      unfold Oper.wp execOp
      simp only [ho, hx, hy, Instr.storeAt, Instr.sureAddr, Sem.run_bind, Sem.run_pure, Result.andThen_ok, storeVar, h3, Value.cells, List.size_toArray, hl, ne_eq, not_true_eq_false, if_false, hst]
      exact h5
/-- A slice of pairs of the call's own, and a row of answers. -/
theorem po_told {w w' : World} {g n M : Nat} (hk : Told w g n) (hb : But g w w') {v : Value} {es : List (Pr × Value)} (h : PO w M v es) (hne : v.ownBlock ≠ some g) : PO w' M v es := by
  obtain ⟨L, q1, q2, q3⟩ := hk
  exact po_but (t := 32) (cs := L.toArray) q1 (fun u hu => q3 u (by simpa using hu)) hb h hne
/-- What Run comes to. -/
def Ran (s : List Pr) (l : List Ox) (w : World) (e : Ending) (w' : World) : Prop :=
  ∃ v' T, e = .returned (.tuple #[v', .slice T l.length l.length]) ∧ PS w' v' (runX s l) ∧ Below w.heap.size w w'
theorem ans_one (a b : Int) (A : Option Addr) (n c : Nat) (d e f : Int) : ∀ v ∈ [Value.int .i64 a, .int .i64 b, .slice A n c, .int .i64 d, .int .i64 e, .int .i64 f], v.oneCell' = true := by
  intro v hv
  simp at hv
  rcases hv with rfl | rfl | rfl | rfl | rfl | rfl <;> rfl
theorem ans_nu (a b : Int) (A : Option Addr) (n c : Nat) (d e f : Int) : ∀ v ∈ [Value.int .i64 a, .int .i64 b, .slice A n c, .int .i64 d, .int .i64 e, .int .i64 f], isU8 v = false := by
  intro v hv
  simp at hv
  rcases hv with rfl | rfl | rfl | rfl | rfl | rfl <;> rfl
theorem own_far {w : World} {v v' : Value} {g : Nat} (h : v.ownBlock ≠ some g) (ho : v'.ownBlock = v.ownBlock ∨ ∃ k, v'.ownBlock = some k ∧ w.heap.size ≤ k) (hg : g < w.heap.size) : v'.ownBlock ≠ some g := by
  rcases ho with ho | ⟨k, ho, hk⟩
  · rw [ho]; exact h
  · rw [ho]
    intro e
    injection e with e
    omega
/-- What a state's step asks of it. -/
theorem run_facts {s : List Pr} {l : List Ox} (hst : St s) (h64 : ∀ p ∈ s, in64c p.c) (hl : l.length ≤ 60) (hs : s.length ≤ 60) (hlx : ∀ x ∈ l, in64x x) (j : Nat) : St (runX s (l.take j)) ∧ (∀ p ∈ runX s (l.take j), in64c p.c) ∧ (runX s (l.take j)).length ≤ 100000 := by
  refine ⟨run_st _ hst, run_in64 _ h64 fun x hx => hlx x (List.mem_of_mem_take hx), ?_⟩
  have := run_len (l.take j) s
  have h2 : (l.take j).length ≤ l.length := by simp; omega
  omega
set_option maxHeartbeats 2000000 in
theorem run9_any (w : World) (v u : Value) (s : List Pr) (l : List Ox) (hv : PS w v s) (hu : OS w u l) (hst : St s) (h64 : ∀ p ∈ s, in64c p.c) (hl : l.length ≤ 60) (hs : s.length ≤ 60) (hlx : ∀ x ∈ l, in64x x) (hlb : ∀ x ∈ l, x.k.length ≤ 300 ∧ x.b.length ≤ 300) :
    Calls Try.prog 16 #[v, u] w (Ran s l w) := by
  obtain ⟨Av, cv', rfl⟩ := hv.slice
  obtain ⟨Au, cu, rfl⟩ := hu.slice
  have l3 := hu.bd.2
  have CC := Lib.hid (copied_any _ s w hv (by omega) (st_small hst))
  have CS := fun j x A n c (hx : l[j]? = some x) w' M v1 es (hp : PO w' M v1 es) (he : es.map (·.1) = runX s (l.take j)) (hsv : SV w' (.slice A n c) (bys x.b)) (hM : M ≤ w'.heap.size) => step9_any w' M v1 es (runX s (l.take j)) A n c x hp he (run_facts hst h64 hl hs hlx j).1 (run_facts hst h64 hl hs hlx j).2.1 hsv (by have := (hlb x (List.mem_of_getElem? hx)).2; omega) (by have := (hlb x (List.mem_of_getElem? hx)).1; omega) (hlx x (List.mem_of_getElem? hx)) (run_facts hst h64 hl hs hlx j).2.2 hM
  unfold Stepped at CS
  unfold ov kst at CS
  replace CS := Lib.hid CS
  have HU := Lib.hid hu
  have HL := Lib.hid (show l.length ≤ 1000000 by omega)
  clear hv hu hst h64 hs hlx hlb
  go_enter Try.func16, Try.ntmps16
  go_wp2_with fail
  refine CC.out.mono ?_
  rintro e w1 ⟨v1, es1, rfl, he1, hp1, b1⟩
  have hne1 := Lib.hid (show v1.ownBlock ≠ some w1.heap.size from fun h => by have := (hp1.lt h).2; omega)
  have hwg := Lib.hid b1.size
  replace he1 := Lib.hid he1
  replace hp1 := Lib.hid hp1
  replace b1 := Lib.hid b1
  clear CC
  go_wp2_with (show wpList _ _ _ (Oper.mk _ (.makeSlice _ _ _) _ _ _ _ :: _) _ _; refine wpList_told rfl (.tmp 12) (.tmp 12) rfl l.length _ _ rfl rfl HL.out ?_; intro w2 hT b2; replace hp1 := Lib.hid (hp1.out.on b2.out); replace b1 := Lib.hid (b1.out.trans (b2.out.mono b1.out.size)); clear b2)
  generalize w1.heap.size = g at *
  go_loopw [0, 16] (fun vs i wr => ∃ (j : Nat) (es : List (Pr × Value)), j ≤ l.length ∧ i = .int .i64 j ∧ Hid (es.map (·.1) = runX s (l.take j)) ∧ Hid (PO wr w.heap.size vs es) ∧ Hid (vs.ownBlock ≠ some g) ∧ Hid (Told wr g l.length) ∧ Hid (Below w.heap.size w wr)) (fun _ i _ => l.length - (intOf i).toNat)
  case atStart => exact ⟨0, es1, by omega, rfl, he1, hp1, hne1, hT, b1⟩
  case round =>
    clear he1 hp1 hne1 hT b1
    obtain ⟨j, es, hj, rfl, he, hp, hne, hT, hB⟩ := hrel
    by_cases hlt : j < l.length
    · obtain ⟨b, off, x, Ad, cd, rfl, hx, c0, c1, c2, c3, c4, c5, hd⟩ := OS.at6 (HU.out.keep (Keeps.below hB.out)) hlt
      have CJ := Lib.hid (CS.out j x Ad x.b.length cd hx)
      have hnx := Lib.hid (run_next l s j x hx)
      replace hd := Lib.hid hd
      clear hx CS
      generalize stepX (runX s (l.take j)) x = r at *
      go_wp2_with (first
        | (show wpList _ _ _ (Oper.mk _ (.store _ (.tmp 8) _) _ _ _ _ :: _) _ _; refine wpList_store_row rfl _ (.tmp 8) (.tmp 20) rfl (wr).heap.size _ rfl rfl _ _ (Whole.made (wr) _ _) (by kernel_rfl) rfl (by simp [Value.oneCell']) ?_; rw [World.setRow_alloc_new]; generalize hW : World.alloc _ _ = w4; have p8 := Lib.hid (made_eq hW).1; have b4 := Lib.hid (made_eq hW).2; clear hW; replace hp := Lib.hid (hp.out.on b4.out); replace hd := Lib.hid (hd.out.keep (Keeps.below b4.out)); replace hT := Lib.hid (hT.out.on b4.out); have B4 := Lib.hid (hB.out.trans (b4.out.mono hB.out.size)); clear b4)
        | (show wpList _ _ _ (Oper.mk _ (.load _ (.tmp 8)) _ _ _ _ :: _) _ _; refine wpList_load_row rfl 36 (.tmp 8) rfl (wr.heap.size) rfl _ _ _ _ (p8.out) Try.underlying36 rfl (by kernel_rfl) ?_))
      refine (CJ.out w4 _ _ es hp.out he.out hd.out B4.out.size).mono ?_
      rintro e w5 ⟨v5, es5, D5, rfl, he5, hp5, hd5, hg5, ho5⟩
      obtain ⟨A1, n1, d1, rfl⟩ := sv_sl hd5
      have hT5 := Lib.hid (hT.out.kept (hg5.block g hT.out.lt (fun e => hne.out e.symm)))
      have B5 := Lib.hid (B4.out.grown hg5 B4.out.size fun k hk => (hp.out.lt hk).1)
      have hne5 := Lib.hid (own_far hne.out ho5 hT.out.lt)
      replace he5 := Lib.hid he5
      replace hp5 := Lib.hid hp5
      clear hd5 hg5 ho5 hT hp hd hne B4 CJ c0 c1 c2 c3 c4 c5
      unfold av
      go_wp2_with (show wpList _ _ _ (Oper.mk _ (.store _ (.tmp 29) _) _ _ _ _ :: _) _ _; refine wpList_tell rfl _ (.tmp 29) (.tmp 28) rfl g l.length j _ [.int .i64 r.2.e, .int .i64 r.2.c.k, .slice A1 n1 d1, .int .i64 r.2.c.lo, .int .i64 r.2.c.hi, .int .i64 r.2.c.v] rfl rfl (by omega) hlt rfl hT5.out (by kernel_rfl) (ans_one _ _ _ _ _ _ _ _) (ans_nu _ _ _ _ _ _ _ _) ?_; intro w6 hT6 hb6)
      go_roundw
      case rel => exact ⟨j + 1, es5, by omega, by go_num, Lib.hid (by rw [he5.out, hnx.out]), Lib.hid (po_told hT5.out hb6.out hp5.out hne5.out), hne5, hT6, Lib.hid (But.below B5.out hb6.out hwg.out B5.out.size)⟩
      case measure => simp [intOf]; omega
    · obtain rfl : j = l.length := by omega
      have hfin := Lib.hid (show es.map (·.1) = runX s l by rw [he.out, List.take_length])
      go_wp2
      go_ret2
      exact ⟨_, some ⟨g, 0, none⟩, rfl, hfin.out ▸ hp.out.ps, hB.out⟩
end Go.Proofs.Ytejkpjaaefobnaa
