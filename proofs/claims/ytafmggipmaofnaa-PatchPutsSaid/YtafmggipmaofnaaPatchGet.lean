/- Layer 8: claimed sizes, a row without bytes, Get. -/
import Derived.Test.YtafmggipmaofnaaPatchPut
import Derived.Test.YtafmggipmaofnaaBeRead
import Derived.Test.YtafmggipmaofnaaPatchMem
import Derived.Test.YtafmggipmaofnaaPatchDiff
import Derived.Test.YtafmggipmaofnaaPatchCheck
import Derived.Test.YtafmggipmaofnaaSub
/- Layer 8: how many bytes a patch claims. -/
namespace Go.Proofs.Ytafmggipmaofnaa
set_option maxRecDepth 20000
open Go.RowKit

def num2 (l : List UInt8) (a : Nat) : Nat := if a + 2 ≤ l.length then numOf ((l.drop a).take 2) else 0
def clm (l : List UInt8) : Nat → Nat → Nat
  | 0, s => s
  | k + 1, s => clm l k (s + (4 + num2 l (s + 2)))
def claimedN (l : List UInt8) : Nat := clm l (num2 l 3) 5
theorem numOf2 {l : List UInt8} (h : l.length = 2) : numOf l ≤ 65535 := by
  match l, h with
  | [a, b], _ =>
    have h1 := a.toNat_lt
    have h2 := b.toNat_lt
    simp only [numOf, List.foldl_cons, List.foldl_nil]
    omega
theorem num2_le (l : List UInt8) (a : Nat) : num2 l a ≤ 65535 := by
  unfold num2
  split
  · exact numOf2 (by simp; omega)
  · omega
theorem num2_any (v : Value) (l : List UInt8) (a : Nat) (w : World) (hl : l.length ≤ 1073741824) (hv : SV w v (bys l)) :
    Calls Try.prog 44 #[v, .int .i64 a, .int .i64 2] w fun e w' => ∃ b, e = .returned (.tuple #[.int .i64 (num2 l a), .bool b]) ∧ w = w' := by
  unfold num2
  split
  · rename_i h
    refine (num_yes v l a 2 w hl hv (by omega) (by omega) h).mono fun e w' ⟨h1, h2⟩ => ⟨true, ?_, h2⟩
    have := numOf2 (l := (l.drop a).take 2) (by simp; omega)
    rw [h1, show wrap64 (numOf ((l.drop a).take 2) : Int) = (numOf ((l.drop a).take 2) : Int) by unfold wrap64; omega]
  · rename_i h
    exact (num_no v l a 2 w hl hv (by unfold isAt; omega)).mono fun e w' ⟨h1, h2⟩ => ⟨false, h1, h2⟩

set_option maxHeartbeats 1000000 in
theorem claimed_any (v : Value) (l : List UInt8) (w : World) (hl : l.length ≤ 1073741824) (hv : SV w v (bys l)) :
    Calls Try.prog 35 #[v] w fun e w' => e = .returned (.int .i64 (claimedN l)) ∧ Below w.heap.size w w' := by
  have NU := Lib.hid (fun a => num2_any v l a w hl hv)
  have hc := num2_le l 3
  unfold claimedN
  generalize hcl : num2 l 3 = c at *
  obtain ⟨A, m, rfl, _⟩ := hv
  rw [bys_len] at NU ⊢
  have N3 := Lib.hid (NU.out 3)
  rw [hcl] at N3
  go_enter Try.func35, Try.ntmps35
  go_wp2_with fail
  refine N3.out.mono ?_
  rintro e w1 ⟨b, rfl, rfl⟩
  go_wp2
  go_loopw [3, 14] (fun s i wr => ∃ k t : Nat, k ≤ c ∧ i = .int .i64 k ∧ s = .int .i64 t ∧ clm l (c - k) t = clm l c 5 ∧ t ≤ 5 + k * 65539 ∧ wr = w) (fun _ i _ => c - (intOf i).toNat)
  case atStart => exact ⟨0, 5, by omega, rfl, rfl, rfl, by omega, rfl⟩
  case round =>
    obtain ⟨k, t, hk, rfl, rfl, hcm, ht, rfl⟩ := hrel
    by_cases hlt : k < c
    · have hn := num2_le l (t + 2)
      have NT := NU.out (t + 2)
      rw [show ((t + 2 : Nat) : Int) = (t : Int) + 2 by omega] at NT
      replace NT := Lib.hid NT
      have hst := Lib.hid (show clm l (c - (k + 1)) (t + (4 + num2 l (t + 2))) = clm l c 5 by rw [← hcm, show c - k = (c - (k + 1)) + 1 by omega]; rfl)
      generalize num2 l (t + 2) = n at *
      clear hcm hcl
      have tb : t ≤ 4300000000 := by omega
      have HT := Lib.hid (show t + (4 + n) ≤ 5 + (k + 1) * 65539 by omega)
      clear ht
      go_wp2_with fail
      refine NT.out.mono ?_
      rintro e w1 ⟨b, rfl, rfl⟩
      go_wp2
      go_roundw
      case rel => exact ⟨k + 1, t + (4 + n), by omega, by go_num, by go_num, hst.out, HT.out, by trivial⟩
      case measure => simp [intOf]; omega
    · obtain rfl : k = c := by omega
      go_wp2
      go_ret
      rw [Nat.sub_self] at hcm
      exact ⟨by rw [← hcm]; rfl, Below.refl _ _⟩
end Go.Proofs.Ytafmggipmaofnaa

/- A row of structs whose cells are no bytes, appended to: a reader is not touched by it. -/
namespace Go.Proofs.Ytafmggipmaofnaa
open Go.RowKit Go.Sort

/-- The block of a row holds no byte. -/
def NU (w : World) (t : TypeId) (v : Value) : Prop := ∀ g, v.ownBlock = some g → ∃ cur, w.heap[g]? = some (.cells cur t (0, 0)) ∧ ∀ u ∈ cur.toList, isU8 u = false
theorem NU.kept {w w' : World} {t : TypeId} {v : Value} {row : Option Nat} (h : NU w t v) (hg : w.grownBy w' row) (hne : v.ownBlock = none ∨ v.ownBlock ≠ row) : NU w' t v := fun g hv => by
  obtain ⟨cur, h1, h2⟩ := h g hv
  refine ⟨cur, (hg.block g (Array.getElem?_eq_some_iff.1 h1).1 fun e => ?_).trans h1, h2⟩
  rcases hne with h3 | h3
  · rw [h3] at hv; cases hv
  · exact h3 (by rw [hv, e])
theorem zero_nu (k : Nat) : ∀ u ∈ (Builtin.zeroCells #[.int .i64 0, .slice none 0 0] k).toList, isU8 u = false := by
  intro u hu
  simp only [Builtin.zeroCells, Array.toList_map, List.mem_map] at hu
  obtain ⟨i, _, rfl⟩ := hu
  have h2 : i % 2 < 2 := Nat.mod_lt _ (by omega)
  have : i % 2 = 0 ∨ i % 2 = 1 := by omega
  rcases this with h | h <;> simp [h, isU8]
section
variable {P : Program}
theorem app2_nu {w w' : World} {base : Nat} {t ty e : TypeId} {i : TypeInfo} {bytes : Nat} (ht : P.underlying t = some (.slice e)) (hi : P.info? e = some i) (hz : i.zero = some (.agg #[.int .i64 0, .slice none 0 0])) (hsize : i.size = 2) (hby : i.bytes = bytes) {v v' : Value} {n : Nat} {xs : List Value}
    (hown : w.ownsRow base e 2 v n xs) {g c : Nat} {x y : Value} (hc : w.rangeAt g 0 [x, y]) (h1 : x.oneCell' = true) (h2 : y.oneCell' = true) (hn : n ≤ 1000000) (hb : bytes ≤ 1000) (hN : NU w e v) (hx : isU8 x = false) (hy : isU8 y = false)
    (hr : (Builtin.append_ #[t, t] ty #[v, .slice (some ⟨g, 0, none⟩) 1 c]).run P w = .ok v' w') : NU w' e v' := by
  have hnews : ∀ j u, ([x, y] : List Value)[j]? = some u → w.cell? ((⟨g, 0, none⟩ : Addr).add j) = some u := fun j u hu => by rw [Addr.add_lit]; exact hc j u hu
  have hall : ∀ u ∈ ([x, y] : List Value), isU8 u = false := fun u hu => by simp at hu; rcases hu with rfl | rfl <;> assumption
  have hmul : (n + 1) * i.bytes ≤ 1000001 * 1000 := Nat.mul_le_mul (by omega) (by omega)
  rcases hown.2 with ⟨rfl, rfl⟩ | ⟨g', cap, cur, rfl, hbg, hg, hnc, hcm, hcs, htake⟩
  · have h3 := run_append_nil (P := P) w t ty e i _ ht hi hz ⟨g, 0, none⟩ 1 c [x, y] (by rw [hsize]; rfl) hnews (by omega) (by omega) (by omega)
    rw [hr] at h3
    injection h3 with h3 h4
    subst h3 h4
    intro k hk
    simp only [Value.ownBlock, Option.some.injEq] at hk
    subst hk
    refine ⟨_, heap_alloc_new w.drew _, fun u hu => ?_⟩
    simp only [Array.toList_append, List.mem_append] at hu
    rcases hu with hu | hu
    · exact hall u hu
    · exact zero_nu _ u hu
  · obtain ⟨cur', e1, e2⟩ := hN g' rfl
    rw [hg] at e1
    injection e1 with e1
    injection e1 with e1
    subst e1
    by_cases hroom : n + 1 ≤ cap
    · have h3 := run_append_room (P := P) w t ty e i ht hi g' n cap cur hg ⟨g, 0, none⟩ 1 c [x, y] (by rw [hsize]; rfl) hnews (fun u hu => by simp at hu; rcases hu with rfl | rfl <;> assumption) hroom (by rw [hsize, hcs]; simp; omega)
      rw [hr] at h3
      injection h3 with h3 h4
      subst h3 h4
      intro k hk
      simp only [Value.ownBlock, Option.some.injEq] at hk
      subst hk
      refine ⟨_, setRow_heap w g' cur _ e (0, 0) hg, fun u hu => ?_⟩
      simp only [List.mem_append] at hu
      rcases hu with (hu | hu) | hu
      · exact e2 u (List.mem_of_mem_take hu)
      · exact hall u hu
      · exact e2 u (List.mem_of_mem_drop hu)
    · have holds := hown.cells (g := g') rfl
      have h3 := run_append_grow (P := P) w t ty e i _ ht hi hz ⟨g', 0, none⟩ n cap xs (by rw [hown.1, hsize]) holds ⟨g, 0, none⟩ 1 c [x, y] (by rw [hsize]; rfl) hnews (by omega) (by omega) (growslice_fits (by omega) (by omega))
      rw [hr] at h3
      injection h3 with h3 h4
      subst h3 h4
      intro k hk
      simp only [Value.ownBlock, Option.some.injEq] at hk
      subst hk
      refine ⟨_, heap_alloc_new w.drew _, fun u hu => ?_⟩
      simp only [Array.toList_append, List.mem_append] at hu
      rcases hu with (hu | hu) | hu
      · rw [← htake] at hu
        exact e2 u (List.mem_of_mem_take hu)
      · exact hall u hu
      · exact zero_nu _ u hu
/-- The reader stays while a row that holds no byte grows. -/
theorem RDR.grown {g : Nat} {s : List UInt8 × Bool} {w w' : World} {t : TypeId} {v : Value} (h : RDR g s w) (hg : w.grownBy w' v.ownBlock) (hN : NU w t v) (hne : t ≠ 80) : RDR g s w' := by
  obtain ⟨A, c, h1, h2, h3⟩ := h
  have far : ∀ k, v.ownBlock = some k → k ≠ g := fun k hk e => by
    obtain ⟨cur, e1, _⟩ := hN k hk
    subst e
    rw [show w.heap[k]? = _ from h1] at e1
    injection e1 with e1
    injection e1 with _ e1
    exact hne e1.symm
  refine ⟨A, c, (hg.block g h1.lt fun e => far g e.symm rfl).trans h1, ?_, h3⟩
  obtain ⟨A', c', e, g1, g2, g3, g4⟩ := h2
  refine ⟨A', c', e, g1, g2, g3, fun hl => ?_⟩
  obtain ⟨b, off, rfl, hc⟩ := g4 hl
  refine ⟨b, off, rfl, fun j u hu => hg.cell (hc j u hu) ?_⟩
  intro e
  have e' : v.ownBlock = some b := by first | exact e | exact e.symm
  obtain ⟨cur, e1, e2⟩ := hN b e'
  have hcu := hc j u hu
  rw [cell_of_row w b (off + j) cur t (0, 0) e1] at hcu
  have := e2 u (Array.mem_toList_iff.2 (Array.mem_of_getElem? hcu))
  simp only [bys, List.getElem?_map, Option.map_eq_some_iff] at hu
  obtain ⟨x, _, rfl⟩ := hu
  cases this
end
section
variable {P : Program} {F : Fence} {m : Nat} {l : List Oper} {n : Nat} {C : World → Prop} {bars : List Nat} {D : List Tmp} {Q : Exit → Act → World → Prop}
/-- The walk of a region, what is known of a slot told at its start. -/
theorem wpIn_region_kn {a : Act} {w : World} (kn0 : Kn) (hk0 : ∀ p ∈ kn0, ∀ V, p.2 V { w with drawn := w.drawn + 1 }) (hst0 : ∀ p ∈ kn0, ∀ V w w', p.2 V w → Below w.heap.size w w' → p.2 V w') (hco0 : ∀ p ∈ kn0, ∀ V V', p.2 V = p.2 V') (hF0 : WideF F) {id : Nat} (n : Nat) (bars : List Nat) (D : List Tmp) (hkd0 : ∀ p ∈ kn0, p.1 ∈ D) (hm : P.follows .mixedOrders = true) (hT : tailV l n = true) (hF : factsB l n bars D = true) (hnd : noDefer l = true) (hC : C { w with drawn := w.drawn + 1 })
    (h : wpF P l.toArray C bars D (fun a w => wpListIn F m P l.toArray Q (l.drop n) a w) (l.take n).zipIdx (fun _ => a) kn0) : (Code.region id l.toArray true).wpIn F m P Q a w := by
  unfold tailV at hT
  simp only [Bool.and_eq_true, decide_eq_true_eq] at hT
  obtain ⟨⟨⟨hn, he⟩, ht⟩, hq⟩ := hT
  refine wpIn_region_any hm ?_
  have hlen : (l.take n).zipIdx.length = n := by simp; omega
  have K := facts_in (P := P) (F := F) (m := m) (C := C) (bars := bars) (D := D) (Q := Q) hF0 hnd hn
    (fun i o hi ho e hem hb => by
      have := List.all_eq_true.1 he i (List.mem_range.2 hi)
      rw [ho] at this
      simp only [Option.map_some, Option.getD_some, Array.all_eq_true_iff_forall_mem] at this
      have h2 := this e hem
      simpa [hb] using h2)
    (fun k hk hkl i hi => by
      have h1 := List.all_eq_true.1 ht k (List.mem_range.2 hkl)
      simp only [Bool.or_eq_true, decide_eq_true_eq, List.all_eq_true, List.mem_range] at h1
      rcases h1 with h1 | h1
      · omega
      · simpa using h1 i hi)
    hq hF n (l.take n).zipIdx (Array.replicate l.length false) a { w with drawn := w.drawn + 1 } kn0 hlen
    ⟨by simp, fun j _ hj => by simp [hj], fun x j => by
        rw [List.mem_zipIdx_iff_getElem?]
        simp only [List.getElem?_take]
        constructor
        · intro h'
          split at h'
          · rename_i hj
            exact ⟨hj, h', by have := (List.getElem?_eq_some_iff.1 h').1; simp [this]⟩
          · cases h'
        · rintro ⟨g1, g2, _⟩
          rw [if_pos g1]; exact g2,
      by
        rw [List.pairwise_iff_getElem]
        intro i j hi hj hij
        simp only [List.getElem_zipIdx]
        omega,
      fun j x hx hl => by
        have := (List.getElem?_eq_some_iff.1 hx).1
        simp [this] at hl⟩
    hC hk0 hst0 hco0 hkd0 h
  rw [show n + (l.length - n) = l.toArray.size by simp; omega] at K
  exact K

theorem wp_region_kn {id : Nat} {a : Act} {w : World} (kn0 : Kn) (hk0 : ∀ p ∈ kn0, ∀ V, p.2 V { w with drawn := w.drawn + 1 }) (hst0 : ∀ p ∈ kn0, ∀ V w w', p.2 V w → Below w.heap.size w w' → p.2 V w') (hco0 : ∀ p ∈ kn0, ∀ V V', p.2 V = p.2 V') (n : Nat) (bars : List Nat) (D : List Tmp) (hkd0 : ∀ p ∈ kn0, p.1 ∈ D) (hm : P.follows .mixedOrders = true) (hT : tailV l n = true) (hF : factsB l n bars D = true) (hnd : noDefer l = true) (hC : C { w with drawn := w.drawn + 1 })
    (h : wpF P l.toArray C bars D (fun a w => wpListIn Fence.wide 0 P l.toArray Q (l.drop n) a w) (l.take n).zipIdx (fun _ => a) kn0) : (Code.region id l.toArray true).wp P Q a w :=
  wpIn_wide.1 (wpIn_region_kn kn0 hk0 hst0 hco0 wideF_wide n bars D hkd0 hm hT hF hnd hC h)
end
section
variable {P : Program} {ops : Array Oper} {W : World} {C : World → Prop} {D : List Tmp} {bars : List Nat} {Q : Act → World → Prop} {o : Oper} {i : Nat} {rest : List (Oper × Nat)} {Fr : (Nat → Value) → Act} {kn : Kn}
/-- A call as a bar. -/
theorem f_callB (F : Value → World → Prop) (hs : Stays F) (hw : ∀ V, Region.wanted o (yielded ops (Fr V).tmps) = true) (hi : i ∈ bars) (hd : keyOf (o, i) ∈ D) (f : FuncId) (xs : Array Operand) (ts : Array TypeId) (ho : o.op = .call { callee := .value (.func f), args := xs, argTypes := ts }) (henter : Enters P f)
    (args : (Nat → Value) → Array Value) (hc : ∀ V w, C w → knows ops o kn V w → Calls P f (args V) w fun e w' => ∃ v, e = .returned v ∧ F v w' ∧ C w')
    (hargs : ∀ V, xs.toList.map (Fr V).eval = (args V).toList) (hr : wpF P ops C bars D Q rest (fun V => (Fr V).put o.dst (V i)) [(keyOf (o, i), fun V => F (V i))]) : wpF P ops C bars D Q ((o, i) :: rest) Fr kn :=
  f_bar F hw hi hd hs (fun V w hC hk => to_call f xs ts ho (args V) henter (hargs V) (hc V w hC hk)) hr
end
section
variable {P : Program} {F : Fence} {m : Nat} {ops : Array Oper} {Q : Exit → Act → World → Prop} {a : Act} {w w' : World} {rest : List Oper} {o : Oper} {v : Value}
/-- One struct appended onto a row without bytes, however many there are. -/
theorem wpListIn_appN (hF : WideF F) (hw : Region.wanted o (yielded ops a.tmps) = true) (s x : Operand) (t : TypeId) (ho : o.op = .call { callee := .builtin .append, args := #[s, x], argTypes := #[t, t] })
    (base : Nat) (e : TypeId) (i : TypeInfo) (bytes : Nat) (ht : P.underlying t = some (.slice e)) (hi : P.info? e = some i) (hz : i.zero = some (.agg #[.int .i64 0, .slice none 0 0]))
    (hsize : i.size = 2) (hby : i.bytes = bytes) (v : Value) (n : Nat) (xs : List Value) (hs : a.eval s = v) (hown : w.ownsRow base e 2 v n xs) (g c : Nat) (hx : a.eval x = .slice (some ⟨g, 0, none⟩) 1 c) (y z' : Value)
    (hc : w.rangeAt g 0 [y, z']) (h1 : y.oneCell' = true) (h2 : z'.oneCell' = true) (hn : n ≤ 1000000) (hb : bytes ≤ 1000) (hbase : base ≤ w.heap.size) (hN : NU w e v) (u1 : isU8 y = false) (u2 : isU8 z' = false)
    (h : ∀ v' w', Hid (w'.ownsRow base e 2 v' (n + 1) (xs ++ [y, z'])) → Hid (w.grownBy w' v.ownBlock) → Hid (v'.ownBlock = v.ownBlock ∨ v'.ownBlock = some w.heap.size) → Hid (NU w' e v') → wpListIn F m P ops Q rest (a.put o.dst v') w') : wpListIn F m P ops Q (o :: rest) a w := by
  have hmul : (n + 1) * bytes ≤ 1000001 * 1000 := Nat.mul_le_mul (by omega) (by omega)
  obtain ⟨v', w', hr, g1, g2, _, g3⟩ := run_append_own_at (P := P) w base t o.type e i _ 2 bytes ht hi hz hsize hby rfl (by decide) v n xs hown ⟨g, 0, none⟩ 1 c [y, z'] rfl
    (fun j u hu => by rw [Addr.add_lit]; exact hc j u hu) (fun u hu => by simp at hu; rcases hu with rfl | rfl <;> assumption) (by unfold maxLen; omega) (by omega) hbase
  refine wpListIn_run hF hw (by rw [ho]; intro c hc; cases hc) (v := v') (w' := w') ?_ (h v' w' (Lib.hid g1) (Lib.hid g2) (Lib.hid g3) (Lib.hid (app2_nu ht hi hz hsize hby hown hc h1 h2 hn hb hN u1 u2 hr)))
  unfold execOp
  simp only [ho, resolve, invoke, builtin, Sem.run_bind, Sem.run_pure, Result.andThen_ok, List.map_toArray, List.map_cons, List.map_nil, hs, hx, hr]
end
end Go.Proofs.Ytafmggipmaofnaa

/- Layer 8: Get, of any bytes. -/
namespace Go.Proofs.Ytafmggipmaofnaa
open Go.RowKit Go.Sort

abbrev Rs := List UInt8 × Bool
/-- A run as the reader tells it, and the reader behind it. -/
def rrn (s : Rs) : Rn := ⟨rdI s 2, rdB (rdS (rdS s 2) 2) (rdI (rdS s 2) 2).toNat⟩
def rnx (s : Rs) : Rs := rdS (rdS (rdS s 2) 2) (rdI (rdS s 2) 2).toNat
def rst (s : Rs) : Nat → Rs
  | 0 => s
  | k + 1 => rnx (rst s k)
def rrun (s : Rs) (k : Nat) : List Rn := (List.range k).map fun j => rrn (rst s j)
theorem rrun_snoc (s : Rs) (k : Nat) : rrun s (k + 1) = rrun s k ++ [rrn (rst s k)] := by unfold rrun; rw [List.range_succ, List.map_append]; rfl
theorem rdS_dn (s : Rs) (n : Nat) : (rdS s n).1.length ≤ s.1.length := by unfold rdS; split <;> simp
theorem rnx_len (s : Rs) : (rnx s).1.length ≤ s.1.length := Nat.le_trans (rdS_dn _ _) (Nat.le_trans (rdS_dn _ _) (rdS_dn _ _))
theorem rst_len (s : Rs) : ∀ k, (rst s k).1.length ≤ s.1.length
  | 0 => Nat.le_refl _
  | k + 1 => Nat.le_trans (rnx_len _) (rst_len s k)
theorem rdI_bd (s : Rs) (m : Nat) (hm : m ≤ 2) : 0 ≤ rdI s m ∧ rdI s m ≤ 65535 := by
  unfold rdI
  split
  · have h : numOf (s.1.take m) ≤ 65535 := by
      have hl : (s.1.take m).length ≤ 2 := by simp; omega
      generalize s.1.take m = t at *
      match t, hl with
      | [], _ => simp [numOf]
      | [a], _ =>
        have := a.toNat_lt
        simp only [numOf, List.foldl_cons, List.foldl_nil]
        omega
      | [a, b], _ => exact numOf2 rfl
    unfold wrap64
    omega
  · omega
def getP (l : List UInt8) : Pt × Int × Int :=
  if l.length < claimedN l then (⟨0, false, []⟩, 0, 13) else
    let s0 : Rs := (l.take (claimedN l), false)
    let f := rdI (rdS s0 2) 1
    let s2 := rdS (rdS s0 2) 1
    let x : Pt := ⟨rdI s0 2, decide (f = 1), rrun (rdS s2 2) (rdI s2 2).toNat⟩
    if decide (1 < f) || !okP8 x then (⟨0, false, []⟩, 0, 12) else (x, (claimedN l : Int), 0)

/-- What the loop keeps. -/
structure GI (w0 : World) (g gp : Nat) (pg : Int) (fb : Bool) (s : Rs) (V : Value) (es : List (Rn × Value)) (wr : World) : Prop where
  rd : RDR g s wr
  pt : Whole wr gp 37 #[.int .i64 pg, .bool fb, V]
  res : Whole wr w0.heap.size 37 #[.int .i64 0, .bool false, .slice none 0 0]
  own : ROwn wr w0.heap.size V es
  nu : NU wr 56 V
  below : Below w0.heap.size w0 wr
  g0 : w0.heap.size ≤ g
  gp0 : w0.heap.size < gp
theorem rdr_whole {g : Nat} {s : Rs} {w : World} (h : RDR g s w) : ∃ cs, Whole w g 80 cs := by
  obtain ⟨A, c, h1, _⟩ := h
  exact ⟨_, h1⟩
theorem whole_ne {w : World} {g k : Nat} {t t' : TypeId} {cs cs' : Array Value} (h : Whole w g t cs) (h' : Whole w k t' cs') (hne : t ≠ t') : g ≠ k := by
  rintro rfl
  have e := (show w.heap[g]? = some (.cells cs t (0, 0)) from h).symm.trans h'
  injection e with e
  injection e with _ e
  exact hne e
theorem GI.but {w0 : World} {g gp : Nat} {pg : Int} {fb : Bool} {s s' : Rs} {V : Value} {es : List (Rn × Value)} {wr w' : World} (h : GI w0 g gp pg fb s V es wr) (hb : But g wr w') (hr : RDR g s' w') : GI w0 g gp pg fb s' V es w' := by
  obtain ⟨cs, hc⟩ := rdr_whole h.rd
  refine ⟨hr, h.pt.but hb (whole_ne h.pt hc (by decide)), h.res.but hb (whole_ne h.res hc (by decide)), h.own.kept hb (.inr (own_not h.own.row hc (by decide))) (fun x hx => .inr (own_not (h.own.each x hx) hc (by decide))), h.nu.kept hb (.inr (own_not h.own.row hc (by decide))), But.below h.below hb h.g0 h.below.size, h.g0, h.gp0⟩
theorem GI.on {w0 : World} {g gp : Nat} {pg : Int} {fb : Bool} {s : Rs} {V : Value} {es : List (Rn × Value)} {wr w' : World} (h : GI w0 g gp pg fb s V es wr) (hb : Below wr.heap.size wr w') : GI w0 g gp pg fb s V es w' :=
  ⟨h.rd.keep hb, h.pt.on hb, h.res.on hb, h.own.on hb, h.nu.kept (grown_of hb) (by cases V.ownBlock <;> simp), h.below.trans (hb.mono h.below.size), h.g0, h.gp0⟩
/-- One run more. -/
theorem GI.more {w0 : World} {g gp : Nat} {pg : Int} {fb : Bool} {s : Rs} {V V' E : Value} {es : List (Rn × Value)} {wr w' : World} {r : Rn} (h : GI w0 g gp pg fb s V es wr) (hE : wr.ownsRow w0.heap.size 5 1 E r.d.length (bys r.d))
    (HO : w'.ownsRow w0.heap.size 56 2 V' (es.length + 1) (flat es ++ [.int .i64 r.p, E])) (HG : wr.grownBy w' V.ownBlock) (HN : NU w' 56 V') :
    GI w0 g gp pg fb s V' (es ++ [(r, E)]) (w'.setCell ⟨gp, 2, none⟩ V') := by
  have hpt : Whole w' gp 37 #[.int .i64 pg, .bool fb, V] := whole_grown h.pt HG (own_not h.own.row h.pt (by decide))
  have hres : Whole w' w0.heap.size 37 #[.int .i64 0, .bool false, .slice none 0 0] := whole_grown h.res HG (own_not h.own.row h.res (by decide))
  have hset := But.set gp w' 2 V'
  have hrd := h.rd.grown HG h.nu (by decide)
  have hE' : w'.ownsRow w0.heap.size 5 1 E r.d.length (bys r.d) := hE.kept HG (own_types hE h.own.row (by decide))
  obtain ⟨cs, hc⟩ := rdr_whole hrd
  refine ⟨?_, by have := hpt.put 2 V'; simpa using this, hres.apart (by have := h.gp0; omega) _, ⟨?_, fun x hx => ?_⟩, HN.kept hset (.inr (own_not HO hpt (by decide))), ?_, h.g0, h.gp0⟩
  · exact hrd.but hpt hset (by
      have : V.ownBlock = V.ownBlock := rfl
      obtain ⟨A, n, c, rfl⟩ := own_slice h.own.row
      rfl) (whole_ne hc hpt (by decide))
  · rw [List.length_append, flat_app, flat_one]
    exact HO.kept hset (.inr (own_not HO hpt (by decide)))
  · rcases List.mem_append.1 hx with hx | hx
    · have h1 := h.own.each x hx
      have h2 := h1.kept HG (own_types h1 h.own.row (by decide))
      exact h2.kept hset (.inr (own_not h2 hpt (by decide)))
    · simp only [List.mem_singleton] at hx
      subst hx
      exact hE'.kept hset (.inr (own_not hE' hpt (by decide)))
  · exact (h.below.grown HG h.below.size fun k hk => (h.own.row.lt k hk).1).grown hset (Nat.le_trans h.below.size HG.size) fun k hk => by injection hk with hk; have := h.gp0; omega
end Go.Proofs.Ytafmggipmaofnaa

/- Layer 8: Get, of any bytes: its walk. -/
namespace Go.Proofs.Ytafmggipmaofnaa
open Go.RowKit Go.Sort

theorem sane_rrun (s : Rs) (k : Nat) (hs : s.1.length ≤ 1073741824) : Sane (rrun s k) := by
  intro r hr
  unfold rrun at hr
  obtain ⟨j, _, rfl⟩ := List.mem_map.1 hr
  have h1 := rdI_bd (rst s j) 2 (by omega)
  refine ⟨⟨by show -9223372036854775808 ≤ rdI (rst s j) 2; omega, by show rdI (rst s j) 2 ≤ 9223372036854775807; omega⟩, ?_⟩
  show (rdB _ _).length ≤ _
  unfold rdB
  split
  · have h2 := rst_len s j
    have h3 := rdS_dn (rdS (rst s j) 2) 2
    have h4 := rdS_dn (rst s j) 2
    simp
    omega
  · simp

/-- A slice of the call's own reads as these runs. -/
def RSO (w : World) (M : Nat) (v : Value) (rs : List Rn) : Prop := ∃ es : List (Rn × Value), es.map (·.1) = rs ∧ ROwn w M v es
theorem RSO.rs {w : World} {M : Nat} {v : Value} {rs : List Rn} (h : RSO w M v rs) : RS w v rs := by
  obtain ⟨es, he, ho⟩ := h
  rw [← he]
  exact ho.rs
theorem RSO.set {w : World} {M gz : Nat} {v : Value} {rs : List Rn} {cs0 : Array Value} (h : RSO w M v rs) (hp : Whole w gz 37 cs0) (cs : Array Value) : RSO (w.setRow gz cs) M v rs := by
  obtain ⟨es, he, ho⟩ := h
  have hb : But gz w (w.setRow gz cs) := ⟨rfl, rfl, rfl, by simp [World.setRow], fun j _ hne => setRow_other _ _ j _ (fun h => hne (by rw [h]))⟩
  exact ⟨es, he, ho.kept hb (.inr (own_not ho.row hp (by decide))) (fun x hx => .inr (own_not (ho.each x hx) hp (by decide)))⟩
theorem ends_own {w0 : World} {g gp : Nat} {pg : Int} {fb : Bool} {s : Rs} {V : Value} {es : List (Rn × Value)} {wr : World} {rs : List Rn} (h : GI w0 g gp pg fb s V es wr) (he : es.map (·.1) = rs) (cs : Array Value) : RSO (wr.setRow w0.heap.size cs) w0.heap.size V rs :=
  RSO.set ⟨es, he, h.own⟩ h.res cs

set_option maxHeartbeats 4000000 in
theorem get8_main (v : Value) (l : List UInt8) (w : World) (hl : l.length ≤ 1000000) (hv : SV w v (bys l)) (hc : claimedN l ≤ l.length) :
    Calls Try.prog 21 #[v] w fun e w' => ∃ vr, e = .returned (.tuple #[pv vr (getP l).1, .int .i64 (getP l).2.1, .int .i64 (getP l).2.2]) ∧ RSO w' w.heap.size vr (getP l).1.rs ∧ Below w.heap.size w w' := by
  have hG : getP l = if decide (1 < rdI (rdS (l.take (claimedN l), false) 2) 1) || !okP8 ⟨rdI (l.take (claimedN l), false) 2, decide (rdI (rdS (l.take (claimedN l), false) 2) 1 = 1), rrun (rdS (rdS (rdS (l.take (claimedN l), false) 2) 1) 2) (rdI (rdS (rdS (l.take (claimedN l), false) 2) 1) 2).toNat⟩ then (⟨0, false, []⟩, 0, 12) else (⟨rdI (l.take (claimedN l), false) 2, decide (rdI (rdS (l.take (claimedN l), false) 2) 1 = 1), rrun (rdS (rdS (rdS (l.take (claimedN l), false) 2) 1) 2) (rdI (rdS (rdS (l.take (claimedN l), false) 2) 1) 2).toNat⟩, (claimedN l : Int), 0) := by
    unfold getP
    rw [if_neg (by omega)]
  have CL := Lib.hid (fun w' (h : Below w.heap.size w w') => claimed_any v l w' (by omega) (hv.keep (Keeps.below h)))
  have hs0 : (l.take (claimedN l)).length ≤ 1000000 := by simp; omega
  have RR := Lib.hid (fun (w' : World) (v' : Value) (h : SV w' v' (bys (l.take (claimedN l)))) => rdRead v' (l.take (claimedN l)) w' (by omega) h)
  obtain ⟨A, c, rfl, g1, g2, _⟩ := id hv
  rw [bys_len] at CL g1 hv ⊢
  have HV := Lib.hid hv
  clear hv
  generalize hcl : claimedN l = n at *
  generalize hl0 : l.take n = l0 at *
  generalize hs0' : ((l0, false) : Rs) = s0 at *
  have b0 := rdI_bd s0 2 (by omega)
  generalize hpg : rdI s0 2 = pg at *
  generalize hs1 : rdS s0 2 = s1 at *
  have b1 := rdI_bd s1 1 (by omega)
  generalize hf : rdI s1 1 = f at *
  generalize hs2 : rdS s1 1 = s2 at *
  have b2 := rdI_bd s2 2 (by omega)
  have hcn : (rdI s2 2).toNat ≤ 65535 := by omega
  have hcc := Lib.hid (show rdI s2 2 = ((rdI s2 2).toNat : Int) by omega)
  generalize (rdI s2 2).toNat = cnt at *
  generalize hs3 : rdS s2 2 = s3 at *
  have hl3 : s3.1.length ≤ 1000000 := by
    have h1 := rdS_dn s2 2
    have h2 := rdS_dn s1 1
    have h3 := rdS_dn s0 2
    rw [hs1] at h3
    rw [hs2] at h2
    rw [hs3] at h1
    rw [← hs0'] at h3
    simp only at h3
    omega
  have HSN := Lib.hid (sane_rrun s3 cnt (by omega))
  replace hG := Lib.hid hG
  have RD0 := Lib.hid (fun (w' : World) (g : Nat) (h : RDR g s0 w') => rdNum g 2 s0 w' h (by omega) (by omega))
  have RD1 := Lib.hid (fun (w' : World) (g : Nat) (h : RDR g s1 w') => rdNum g 1 s1 w' h (by omega) (by omega))
  have RD2 := Lib.hid (fun (w' : World) (g : Nat) (h : RDR g s2 w') => rdNum g 2 s2 w' h (by omega) (by omega))
  rw [hpg, hs1] at RD0
  rw [hf, hs2] at RD1
  rw [hcc.out, hs3] at RD2
  replace hl0 := Lib.hid hl0
  clear hs1 hs2 hs3 hpg hf hs0'
  go_enter Try.func21, Try.ntmps21
  go_wp2_with fail
  have B0 := Lib.hid ((Below.refl w.heap.size w).alloc (Nat.le_refl _) (.cells #[.int .i64 0, .bool false, .slice none 0 0] 37))
  have p0 := Lib.hid (Whole.made w 37 #[.int .i64 0, .bool false, .slice none 0 0])
  generalize w.alloc (.cells #[.int .i64 0, .bool false, .slice none 0 0] 37) = w0 at *
  refine (CL.out _ B0.out).mono ?_
  rintro e w1 ⟨rfl, b1'⟩
  have B1 := Lib.hid (B0.out.trans (b1'.mono B0.out.size))
  have p1 := Lib.hid (p0.out.on b1')
  clear b1' p0 CL
  have HV1 := Lib.hid (HV.out.keep (Keeps.below B1.out))
  go_wp2_with ((refine wpList_takesv rfl (.tmp 17) (.tmp 18) rfl Try.underlying32 (by kernel_rfl) _ rfl (l) (HV1.out) _ _ rfl (n) (rfl) (hc) ?_); intro v1 S1)
  rw [hl0.out] at S1
  refine (RR.out _ _ S1.out).mono ?_
  rintro e w2 ⟨g, rfl, hg0, R0, b2'⟩
  have B2 := Lib.hid (B1.out.trans (b2'.mono B1.out.size))
  have p2 := Lib.hid (p1.out.on b2')
  have hg1 := Lib.hid (Nat.lt_of_lt_of_le p1.out.lt hg0)
  replace R0 := Lib.hid R0
  clear b2' p1 hg0 RR
  go_wp2_with fail
  refine (RD0.out _ g R0.out).mono ?_
  rintro e w3 ⟨rfl, R1, k3⟩
  have B3 := Lib.hid (But.below B2.out k3 (Nat.le_of_lt hg1.out) B2.out.size)
  have p3 := Lib.hid (p2.out.but k3 (Nat.ne_of_lt hg1.out))
  replace R1 := Lib.hid R1
  clear k3 p2 R0 RD0
  go_wp2_with fail
  have aa := (Below.refl w3.heap.size w3).alloc (Nat.le_refl _) (.cells #[.int .i64 pg, .bool false, .slice none 0 0] 37)
  have B4 := Lib.hid (B3.out.trans (aa.mono B3.out.size))
  have p4 := Lib.hid (p3.out.on aa)
  have q4 := Lib.hid (Whole.made w3 37 #[.int .i64 pg, .bool false, .slice none 0 0])
  have R1' := Lib.hid (R1.out.keep aa)
  have hgp := Lib.hid R1.out.lt
  have hgr := Lib.hid p3.out.lt
  clear aa B3 p3 R1
  generalize w3.heap.size = gp at *
  generalize w3.alloc (.cells #[.int .i64 pg, .bool false, .slice none 0 0] 37) = w4 at *
  refine (RD1.out _ g R1'.out).mono ?_
  rintro e w5 ⟨rfl, R2, k5⟩
  have B5 := Lib.hid (But.below B4.out k5 (Nat.le_of_lt hg1.out) B4.out.size)
  have p5 := Lib.hid (p4.out.but k5 (Nat.ne_of_lt hg1.out))
  have q5 := Lib.hid (q4.out.but k5 (Nat.ne_of_gt hgp.out))
  have f5 := q5.out.free 1
  have c5 := q5.out.cell 1
  simp at c5
  replace R2 := Lib.hid R2
  clear k5 p4 q4 B4 R1' RD1
  go_wp2_with fail
  have hs := But.set gp w5 1 (.bool (f == 1))
  have q6 := Lib.hid (show Whole (w5.setCell ⟨gp, 1, none⟩ (.bool (f == 1))) gp 37 #[.int .i64 pg, .bool (f == 1), .slice none 0 0] by have := q5.out.put 1 (.bool (f == 1)); simpa using this)
  have p6 := Lib.hid (p5.out.but hs (Nat.ne_of_lt hgr.out))
  have B6 := Lib.hid (But.below B5.out hs (Nat.le_of_lt hgr.out) B5.out.size)
  have R2' := Lib.hid (R2.out.but q5.out hs rfl (Nat.ne_of_lt hgp.out))
  clear hs q5 p5 B5 R2 f5 c5
  generalize w5.setCell ⟨gp, 1, none⟩ (.bool (f == 1)) = w6 at *
  refine (RD2.out _ g R2'.out).mono ?_
  rintro e w7 ⟨rfl, R3, k7⟩
  have B7 := Lib.hid (But.below B6.out k7 (Nat.le_of_lt hg1.out) B6.out.size)
  have p7 := Lib.hid (p6.out.but k7 (Nat.ne_of_lt hg1.out))
  have q7 := Lib.hid (q6.out.but k7 (Nat.ne_of_gt hgp.out))
  replace R3 := Lib.hid R3
  clear k7 p6 q6 B6 R2' RD2
  generalize hfb : (f == 1) = fb at *
  replace hfb := Lib.hid hfb
  obtain ⟨i0, hi, hz0, hz1, hz2⟩ := info_parts info_run
  replace hi := Lib.hid hi
  replace hz0 := Lib.hid hz0
  replace hz1 := Lib.hid hz1
  replace hz2 := Lib.hid hz2
  go_wp2_with fail
  go_loopw [31] (fun i wr => ∃ k : Nat, k ≤ cnt ∧ i = .int .i64 (k : Int) ∧ ∃ vs es, es.map (·.1) = rrun s3 k ∧ GI w g gp pg fb (rst s3 k) vs es wr) (fun i _ => cnt - (intOf i).toNat)
  case atStart => exact ⟨0, Nat.zero_le _, rfl, .slice none 0 0, [], rfl, ⟨R3.out, q7.out, p7.out, ROwn.nil _ _, (fun k hk => by cases hk), B7.out, Nat.le_of_lt hg1.out, hgr.out⟩⟩
  case round =>
    obtain ⟨k, hk, rfl, vs, es, hes, hI⟩ := hrel
    clear R3 q7 p7 B7
    by_cases hlt : k < cnt
    · have hlen : es.length = k := by have := congrArg List.length hes; simpa [rrun] using this
      have hlk := rst_len s3 k
      have hrs := rrun_snoc s3 k
      have hnx : rst s3 (k + 1) = rnx (rst s3 k) := rfl
      generalize rst s3 k = s at *
      have e1 : rrn s = ⟨rdI s 2, rdB (rdS (rdS s 2) 2) (rdI (rdS s 2) 2).toNat⟩ := rfl
      have e2 : rnx s = rdS (rdS (rdS s 2) 2) (rdI (rdS s 2) 2).toNat := rfl
      have hmm := rdI_bd (rdS s 2) 2 (by omega)
      have l1 := rdS_dn s 2
      have l2 := rdS_dn (rdS s 2) 2
      have RDa := Lib.hid (fun (w' : World) (h : RDR g s w') => rdNum g 2 s w' h (by omega) (by omega))
      have RDb := Lib.hid (fun (w' : World) (h : RDR g (rdS s 2) w') => rdNum g 2 (rdS s 2) w' h (by omega) (by omega))
      have RDc := Lib.hid (fun (w' : World) (h : RDR g (rdS (rdS s 2) 2) w') => rdBytes g (rdI (rdS s 2) 2).toNat (rdS (rdS s 2) 2) w' h (by omega))
      have hm : rdI (rdS s 2) 2 = ((rdI (rdS s 2) 2).toNat : Int) := by omega
      rw [hm] at RDb
      rw [e1] at hrs
      rw [e2] at hnx
      clear e1 e2 hmm l1 l2 hm
      generalize (rdI (rdS s 2) 2).toNat = m at *
      generalize rdB (rdS (rdS s 2) 2) m = d at *
      generalize rdS (rdS (rdS s 2) 2) m = sE at *
      generalize rdS (rdS s 2) 2 = s2 at *
      generalize rdS s 2 = s1 at *
      generalize rdI s 2 = p at *
      replace hrs := Lib.hid hrs
      replace hnx := Lib.hid hnx
      replace hes := Lib.hid hes
      replace hlen := Lib.hid hlen
      have HI := Lib.hid hI
      clear hI
      go_wp2_with fail
      refine (RDa.out _ HI.out.rd).mono ?_
      rintro e w8 ⟨rfl, R8, k8⟩
      have HJ := Lib.hid (HI.out.but k8 R8)
      clear R8 k8 HI RDa
      go_wp2_with fail
      have hws := Lib.hid HJ.out.below.size
      have hgg : Hid (gp ≠ g) := Lib.hid (by obtain ⟨cs, hc⟩ := rdr_whole HJ.out.rd; exact whole_ne HJ.out.pt hc (by decide))
      have q8 := Lib.hid HJ.out.pt
      refine wp_region_kn [(39, fun _ x => RDR g s1 x)] (fun p hp V => by simp only [List.mem_singleton] at hp; subst hp; exact HJ.out.rd.keep (free_draw _)) (fun p hp V x x' h hb => by simp only [List.mem_singleton] at hp; subst hp; exact RDR.keep h hb) (fun p hp V V' => by simp only [List.mem_singleton] at hp; subst hp; rfl) 9 [5, 6] [39, 40, 41, 42, 43] (by simp) (by kernel_rfl) (by kernel_rfl) (by kernel_rfl) (by kernel_rfl) (butC_draw _ g) ?_
      simp only [List.take_succ_cons, List.take_zero, List.drop_succ_cons, List.drop_zero, List.zipIdx_cons, List.zipIdx_nil, Nat.zero_add, Nat.reduceAdd]
      repeat (show wpF _ _ _ _ _ _ (_ :: _) _ _; first
        | (refine f_skip (fun V => by rfl) ?_; simp only [Act.put, List.setIfInBounds_toArray, List.set_cons_succ, List.set_cons_zero])
        | (refine f_load_cell (by first | exact cls_free _ | exact cls_row _ _ _ _ | exact cls_fill _ _ _ _ _ | exact cls_butC _ _ | exact cls_butD _ _ _ _ _ _ _) (fun V => by rfl) _ _ rfl _ (fun V => by rfl) _ (fun w hb => ((q8.out.but hb hgg.out).cell 2).trans rfl) _ Try.underlying25 rfl ?_; simp only [Act.put, List.setIfInBounds_toArray, List.set_cons_succ, List.set_cons_zero])
        | (refine f_callB (fun v x => v = .int .i64 (m : Int) ∧ RDR g s2 x) (fun _ _ _ h hb => ⟨h.1, h.2.keep hb⟩) (fun V => by rfl) (by decide) (by decide) 37 _ _ rfl (enters_of Try.func37 rfl rfl) (fun V => #[.pointer (some ⟨g, 0, none⟩), .int .i64 2]) (fun V x hb hk => (RDb.out x (hk.slot 39 rfl rfl)).mono (fun e x' ⟨h1, h2, h3⟩ => ⟨_, h1, ⟨rfl, h2⟩, But.trans hb h3⟩)) (fun V => by rfl) ?_; simp only [Act.put, List.setIfInBounds_toArray, List.set_cons_succ, List.set_cons_zero, keyOf, Option.getD_some])
        | (refine f_callB (fun v x => fOwn w.heap.size 5 (bys d) v x ∧ RDR g sE x) (fun _ _ _ h hb => ⟨stays_own _ _ _ _ _ _ h.1 hb, h.2.keep hb⟩) (fun V => by rfl) (by decide) (by decide) 38 _ _ rfl (enters_of Try.func38 rfl rfl) (fun V => #[.pointer (some ⟨g, 0, none⟩), V 5]) (fun V x hb hk => by
            obtain ⟨h1, h2⟩ := hk.slot 40 rfl rfl
            show Calls _ _ #[_, V 5] _ _
            rw [h1]
            refine (RDc.out x h2).mono ?_
            rintro e x' ⟨v, h3, h4, h5, h6⟩
            exact ⟨v, h3, ⟨by unfold fOwn; rw [bys_len]; exact own_lower h4 (Nat.le_trans hws.out (show But g w8 x from hb).size), h5⟩, But.trans hb h6⟩) (fun V => by rfl) ?_; simp only [Act.put, List.setIfInBounds_toArray, List.set_cons_succ, List.set_cons_zero, keyOf, Option.getD_some])
        | (refine f_build2 (by first | exact cls_free _ | exact cls_row _ _ _ _ | exact cls_fill _ _ _ _ _ | exact cls_butC _ _ | exact cls_butD _ _ _ _ _ _ _) 56 _ _ rfl (fun V => by rfl) (by decide) w.heap.size (.int .i64 p) (bys d) _ (fun V => by rfl) (fun V => by rfl) (fun A n c w => run_build w _ _ _ (by kernel_rfl)) (fun V w hb hk => (hk.slot 41 rfl rfl).1) ?_; simp only [Act.put, List.setIfInBounds_toArray, List.set_cons_succ, List.set_cons_zero, keyOf, Option.getD_some])
        | (refine f_lit2 (cls_butC _ _) 25 _ rfl (fun V => by rfl) (by decide) w.heap.size (fun x hb => Nat.le_trans hws.out (show But g w8 x from hb).size) (.int .i64 p) (bys d) _ (fun V => by rfl) (fun A n c w => by kernel_rfl) (fun V w hb hk => hk.slot 42 rfl rfl) ?_; simp only [Act.put, List.setIfInBounds_toArray, List.set_cons_succ, List.set_cons_zero, keyOf, Option.getD_some])
        | (refine f_quiet (by first | exact cls_free _ | exact cls_row _ _ _ _ | exact cls_fill _ _ _ _ _ | exact cls_butC _ _ | exact cls_butD _ _ _ _ _ _ _) (fun V => by rfl) (fun V => ⟨_, rfl, by simp⟩) ?_; apply Exists.intro; refine And.intro (fun V w hw K hK => ?_) ?_; ((try simp only [Act.put, List.setIfInBounds_toArray, List.set_cons_succ, List.set_cons_zero] at hK); go_big_quiet_op; exact hK); simp only [Act.put, List.setIfInBounds_toArray, List.set_cons_succ, List.set_cons_zero]))
      refine f_nil ?_
      intro V w9 hq hkn
      have hq' : But g w8 w9 := hq
      obtain ⟨E, ge, hV, hW, _, hE, h1⟩ := all_slot hkn 43 rfl
      have h41 := all_slot hkn 41 rfl
      have HK := Lib.hid (HJ.out.but hq' h41.2)
      have hE' : w9.ownsRow w.heap.size 5 1 E d.length (bys d) := by have h := hE; unfold fOwn at h; rwa [bys_len] at h
      replace hE' := Lib.hid hE'
      clear hkn h41 hq hq' HJ q8 RDb RDc hE
      simp only [hV]
      have hEe : isU8 E = false := by obtain ⟨AE, nE, cE, rfl⟩ := own_slice hE'.out; rfl
      have hlen' : es.length ≤ 1000000 := by rw [hlen.out]; omega
      refine wpListIn_appN wideF_wide rfl (.tmp 36) (.tmp 43) 25 rfl w.heap.size 56 i0 32 Try.underlying25 hi.out hz0.out hz1.out hz2.out vs es.length (flat es) rfl HK.out.own.row ge 1 rfl (.int .i64 p) E (hW.mid 0 2 rfl) rfl h1 hlen' (by omega) HK.out.below.size HK.out.nu rfl hEe ?_
      intro v' w10 HO HG HB HN
      have hpt2 : Whole w10 gp 37 #[.int .i64 pg, .bool fb, vs] := whole_grown HK.out.pt HG.out (own_not HK.out.own.row HK.out.pt (by decide))
      have c2 := hpt2.cell 2
      simp at c2
      have f2 := hpt2.free 2
      obtain ⟨A', n', c', rfl⟩ := own_slice HO.out
      have HM := Lib.hid (HK.out.more (r := ⟨p, d⟩) hE'.out HO.out HG.out HN.out)
      clear hpt2 hW h1 hE' HK hEe hlen' hV
      gi_wp2
      go_wp2
      go_roundw
      case rel => exact ⟨k + 1, by omega, by go_num, _, es ++ [(⟨p, d⟩, E)], by rw [List.map_append, hes.out, hrs.out]; rfl, by rw [hnx.out]; exact HM.out⟩
      case measure => simp [intOf]; omega
    · obtain rfl : k = cnt := by omega
      obtain ⟨Av, nv, cv, rfl⟩ := own_slice hI.own.row
      have HE := Lib.hid hes
      have RSv := Lib.hid (hes ▸ hI.own.rs)
      have HI := Lib.hid hI
      clear hI hes
      have hde : decide (f = 1) = fb := by rw [← hfb.out]; rfl
      rw [hde] at hG
      replace hG := hG.out
      replace HSN := HSN.out
      generalize rrun s3 k = rs at *
      replace HSN := Lib.hid HSN
      have p9 := HI.out.res
      have B9 := Lib.hid HI.out.below
      have d9 := Lib.hid HI.out.pt
      clear hde HV
      by_cases hf1 : 1 < f
      · simp only [hf1, decide_true, Bool.true_or, if_true] at hG
        replace hG := Lib.hid hG
        go_wp2_with (refine wpList_store_row rfl _ _ _ rfl (w.heap.size) _ rfl rfl _ _ p9 (by kernel_rfl) rfl (by simp [Value.oneCell']) ?_)
        refine bodyPost_ret (v := .tuple #[.agg #[.int .i64 0, .bool false, .slice none 0 0], .int .i64 0, .int .i64 12]) ?_ rfl ⟨.slice none 0 0, by rw [hG.out]; rfl, by rw [hG.out]; exact ⟨[], rfl, ROwn.nil _ _⟩, below_setRow B9.out (Nat.le_refl _) _⟩
        exact results_cell_tmp2 rfl _ _ (w.heap.size) _ _ (0, 0) _ rfl (setRow_heap _ _ _ _ _ _ p9) Try.underlying37 rfl (by kernel_rfl) _ _ rfl rfl
      · simp only [hf1, decide_false, Bool.false_or] at hG
        have CK := Lib.hid (check8_any ⟨pg, fb, rs⟩ _ wr (by unfold i64; simp only; omega) RSv.out HSN.out)
        unfold pv ck8 at CK
        cases hok : okP8 ⟨pg, fb, rs⟩ with
        | false =>
          rw [hok] at hG CK
          simp only [Bool.not_false, if_true, Bool.false_eq_true, if_false] at hG CK
          replace hG := Lib.hid hG
          go_wp2_with (first
            | (refine wpList_load_rowg rfl _ _ rfl (gp) rfl _ _ _ _ (d9.out) Try.underlying37 rfl (by kernel_rfl) ?_)
            | (go_at_call 12; refine CK.out.mono ?_; rintro e w11 ⟨rfl, b11⟩; replace p9 := p9.on b11; have B11 := Lib.hid (B9.out.trans (b11.mono B9.out.size)); clear b11)
            | (refine wpList_store_row rfl _ _ _ rfl (w.heap.size) _ rfl rfl _ _ p9 (by kernel_rfl) rfl (by simp [Value.oneCell']) ?_))
          refine bodyPost_ret (v := .tuple #[.agg #[.int .i64 0, .bool false, .slice none 0 0], .int .i64 0, .int .i64 12]) ?_ rfl ⟨.slice none 0 0, by rw [hG.out]; rfl, by rw [hG.out]; exact ⟨[], rfl, ROwn.nil _ _⟩, below_setRow B11.out (Nat.le_refl _) _⟩
          exact results_cell_tmp2 rfl _ _ (w.heap.size) _ _ (0, 0) _ rfl (setRow_heap _ _ _ _ _ _ p9) Try.underlying37 rfl (by kernel_rfl) _ _ rfl rfl
        | true =>
          rw [hok] at hG CK
          simp only [Bool.not_true, if_true, Bool.false_eq_true, if_false] at hG CK
          replace hG := Lib.hid hG
          go_wp2_with (first
            | (refine wpList_load_rowg rfl _ _ rfl (gp) rfl _ _ _ _ (d9.out) Try.underlying37 rfl (by kernel_rfl) ?_)
            | (go_at_call 12; refine CK.out.mono ?_; rintro e w11 ⟨rfl, b11⟩; replace p9 := p9.on b11; have d11 := Lib.hid (d9.out.on b11); have B11 := Lib.hid (B9.out.trans (b11.mono B9.out.size)); have RS9 := Lib.hid (ends_own (HI.out.on b11) HE.out); clear b11)
            | (refine wpList_load_rowg rfl _ _ rfl (gp) rfl _ _ _ _ (d11.out) Try.underlying37 rfl (by kernel_rfl) ?_)
            | (refine wpList_store_row rfl _ _ _ rfl (w.heap.size) _ rfl rfl _ _ p9 (by kernel_rfl) rfl (by simp [Value.oneCell']) ?_))
          refine bodyPost_ret (v := .tuple #[.agg #[.int .i64 pg, .bool fb, .slice Av nv cv], .int .i64 n, .int .i64 0]) ?_ rfl ⟨.slice Av nv cv, by rw [hG.out]; rfl, ?_, below_setRow B11.out (Nat.le_refl _) _⟩
          · exact results_cell_tmp2 rfl _ _ (w.heap.size) _ _ (0, 0) _ rfl (setRow_heap _ _ _ _ _ _ p9) Try.underlying37 rfl (by kernel_rfl) _ _ rfl rfl
          · rw [hG.out]
            exact RS9.out _

set_option maxHeartbeats 4000000 in
theorem get8_short (v : Value) (l : List UInt8) (w : World) (hl : l.length ≤ 1000000) (hv : SV w v (bys l)) (hc : ¬ claimedN l ≤ l.length) :
    Calls Try.prog 21 #[v] w fun e w' => ∃ vr, e = .returned (.tuple #[pv vr (getP l).1, .int .i64 (getP l).2.1, .int .i64 (getP l).2.2]) ∧ RSO w' w.heap.size vr (getP l).1.rs ∧ Below w.heap.size w w' := by
  have hG : getP l = (⟨0, false, []⟩, 0, 13) := by
    unfold getP
    rw [if_pos (by omega)]
  rw [hG]
  have CL := Lib.hid (fun w' (h : Below w.heap.size w w') => claimed_any v l w' (by omega) (hv.keep (Keeps.below h)))
  obtain ⟨A, c, rfl, g1, g2, _⟩ := id hv
  rw [bys_len] at CL g1 ⊢
  clear hv hG
  generalize claimedN l = n at *
  go_enter Try.func21, Try.ntmps21
  go_wp2_with fail
  have B0 := Lib.hid ((Below.refl w.heap.size w).alloc (Nat.le_refl _) (.cells #[.int .i64 0, .bool false, .slice none 0 0] 37))
  have p0 := Lib.hid (Whole.made w 37 #[.int .i64 0, .bool false, .slice none 0 0])
  generalize w.alloc (.cells #[.int .i64 0, .bool false, .slice none 0 0] 37) = w0 at *
  refine (CL.out _ B0.out).mono ?_
  rintro e w1 ⟨rfl, b1'⟩
  have B1 := Lib.hid (B0.out.trans (b1'.mono B0.out.size))
  have p1 := p0.out.on b1'
  clear b1' p0 CL
  go_wp2_with (refine wpList_store_row rfl _ _ _ rfl (w.heap.size) _ rfl rfl _ _ p1 (by kernel_rfl) rfl (by simp [Value.oneCell']) ?_)
  refine bodyPost_ret (v := .tuple #[.agg #[.int .i64 0, .bool false, .slice none 0 0], .int .i64 0, .int .i64 13]) ?_ rfl ⟨.slice none 0 0, rfl, ⟨[], rfl, ROwn.nil _ _⟩, below_setRow B1.out (Nat.le_refl _) _⟩
  exact results_cell_tmp2 rfl _ _ (w.heap.size) _ _ (0, 0) _ rfl (setRow_heap _ _ _ _ _ _ p1) Try.underlying37 rfl (by kernel_rfl) _ _ rfl rfl

theorem get8_any (v : Value) (l : List UInt8) (w : World) (hl : l.length ≤ 1000000) (hv : SV w v (bys l)) :
    Calls Try.prog 21 #[v] w fun e w' => ∃ vr, e = .returned (.tuple #[pv vr (getP l).1, .int .i64 (getP l).2.1, .int .i64 (getP l).2.2]) ∧ RSO w' w.heap.size vr (getP l).1.rs ∧ Below w.heap.size w w' :=
  if hc : claimedN l ≤ l.length then get8_main v l w hl hv hc else get8_short v l w hl hv hc
end Go.Proofs.Ytafmggipmaofnaa
