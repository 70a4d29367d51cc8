/- Words on memory that all walks of this seat use: a slice value that reads as a list of one-cell values; append onto such slices; what a slice of bytes holds. Nothing here speaks of the program. -/
import Derived.WalkKit
import Derived.OwnWalkIn
import Derived.RangeFuncBox
import Derived.Lib.Hide
import Derived.Maps.AppendAt
import Derived.Lib.AppendStr
import Derived.Laws.BytesArg
namespace Go.Proofs.YtlpgmmcdcjkkiaaDoor
set_option maxRecDepth 20000
open Go.RowKit

/-- Every cell that was there still holds what it held. -/
def Keeps (w w' : World) : Prop := ∀ p v, w.cell? p = some v → w'.cell? p = some v
theorem Keeps.refl (w : World) : Keeps w w := fun _ _ h => h
theorem Keeps.trans {a b c : World} (h : Keeps a b) (k : Keeps b c) : Keeps a c := fun p v hp => k p v (h p v hp)
theorem Keeps.below {w w' : World} (h : Below w.heap.size w w') : Keeps w w' := fun p _ hp => (h.cell (World.block_lt_of_cell? w p hp)).trans hp
theorem Keeps.alloc (w : World) (o : Obj) : Keeps w (w.alloc o) := Keeps.below ((Below.refl _ w).alloc (Nat.le_refl _) o)
theorem Keeps.drew (w : World) : Keeps w w.drew := fun _ _ h => h

/-- The slice value v reads as the one-cell values xs: nil, or a row of cells. -/
def SV (w : World) (v : Value) (xs : List Value) : Prop :=
  ∃ A c, v = .slice A xs.length c ∧ xs.length ≤ c ∧ c ≤ maxLen ∧ (A = none → c = 0) ∧
    (xs ≠ [] → ∃ b off, A = some ⟨b, off, none⟩ ∧ ∀ j u, xs[j]? = some u → w.cell? ⟨b, off + j, none⟩ = some u)

theorem SV.keep {w w' : World} {v : Value} {xs : List Value} (h : SV w v xs) (k : Keeps w w') : SV w' v xs := by
  obtain ⟨A, c, h1, h2, h3, h4, h5⟩ := h
  refine ⟨A, c, h1, h2, h3, h4, fun hne => ?_⟩
  obtain ⟨b, off, hA, hc⟩ := h5 hne
  exact ⟨b, off, hA, fun j u hu => k _ _ (hc j u hu)⟩
theorem SV.nil (w : World) : SV w (.slice none 0 0) [] := ⟨none, 0, rfl, Nat.le_refl _, by simp [maxLen], fun _ => rfl, fun h => (h rfl).elim⟩
theorem SV.own {w : World} {base : Nat} {e : TypeId} {v : Value} {n : Nat} {xs : List Value} (h : w.ownsRow base e 1 v n xs) : SV w v xs := by
  have hl := h.1
  rcases h.2 with ⟨rfl, rfl⟩ | ⟨g, cap, cur, rfl, hb, hg, hn, hm, hs, ht⟩
  · have : xs = [] := List.eq_nil_of_length_eq_zero (by simpa using hl)
    subst this
    exact SV.nil w
  · have hn' : xs.length = n := by simpa using hl
    refine ⟨some ⟨g, 0, none⟩, cap, by rw [hn'], by omega, hm, (fun h => by cases h), fun _ => ⟨g, 0, rfl, fun j u hu => ?_⟩⟩
    have := h.cells (g := g) rfl j u hu
    rwa [Addr.add_lit] at this

/-- A slice to which append may be made: a row of the call's own, or one that is full. -/
def Dst (w : World) (base : Nat) (e : TypeId) (v : Value) (xs : List Value) : Prop :=
  w.ownsRow base e 1 v xs.length xs ∨ (SV w v xs ∧ ∃ A, v = .slice A xs.length xs.length)

theorem Dst.alloc {w : World} {base : Nat} {e : TypeId} {v : Value} {xs : List Value} (h : Dst w base e v xs) (o : Obj) : Dst (w.alloc o) base e v xs := by
  rcases h with h | ⟨h, hA⟩
  · exact .inl (h.alloc o)
  · exact .inr ⟨h.keep (Keeps.alloc w o), hA⟩
theorem SV.lit1 (w : World) (u : Value) (e : TypeId) : SV (w.alloc (.cells #[u] e)) (.slice (some ⟨w.heap.size, 0, none⟩) 1 1) [u] :=
  SV.own (World.ownsRow_lit (base := 0) (e := e) (size := 1) w #[u] 1 (Nat.zero_le _) (by decide) rfl)

section
variable {P : Program} (w : World)

theorem run_append_nosrc (t ty e : TypeId) (i : TypeInfo) (ht : P.underlying t = some (.slice e)) (hi : P.info? e = some i)
    (A : Option Addr) (n c : Nat) (hnc : n ≤ c) (B : Option Addr) (d : Nat) :
    (Builtin.append_ #[t, t] ty #[.slice A n c, .slice B 0 d]).run P w = .ok (.slice A n c) w := by
  cases A <;> cases B <;> simp [Builtin.append_, run_underlying ht, sizeOf, typeInfo, hi, Builtin.lenOf, Builtin.firstCells, hnc, storeCells, loadCells, loadCellsFrom]

/-- append of a slice that reads as 'news' onto one that is owned or full. -/
theorem run_append_dst (base : Nat) (t ty e : TypeId) (i : TypeInfo) (z : Value) (bytes : Nat) (ht : P.underlying t = some (.slice e)) (hi : P.info? e = some i) (hz : i.zero = some z)
    (hsize : i.size = 1) (hby : i.bytes = bytes) (hzs : z.cells.size = 1)
    (v : Value) (xs : List Value) (hd : Dst w base e v xs) (x : Value) (news : List Value) (hs : SV w x news) (h1 : ∀ u ∈ news, u.oneCell' = true)
    (h63 : xs.length + news.length ≤ maxLen) (hbytes : (xs.length + news.length) * bytes ≤ 140737488355328) (hbase : base ≤ w.heap.size) :
    ∃ v' w' row, (Builtin.append_ #[t, t] ty #[v, x]).run P w = .ok v' w' ∧ Dst w' base e v' (xs ++ news) ∧ (news ≠ [] ∨ w.ownsRow base e 1 v xs.length xs → w'.ownsRow base e 1 v' (xs.length + news.length) (xs ++ news)) ∧
      w.grownBy w' row ∧ (∀ k, row = some k → base ≤ k ∧ k < w.heap.size ∧ w.ownsRow base e 1 v xs.length xs ∧ v.ownBlock = some k) ∧ (∀ k, v'.ownBlock = some k → v.ownBlock = some k ∨ w.heap.size ≤ k) := by
  obtain ⟨B, d, rfl, hd1, hd2, hd3, hd4⟩ := hs
  by_cases hnews : news = []
  · subst hnews
    have hv : ∃ A c, v = .slice A xs.length c ∧ xs.length ≤ c := by
      rcases hd with h | ⟨⟨A, c, h, h2, _⟩, _⟩
      · obtain ⟨A, c, h, h2, _⟩ := SV.own h
        exact ⟨A, c, h, h2⟩
      · exact ⟨A, c, h, h2⟩
    obtain ⟨A, c, rfl, hc⟩ := hv
    refine ⟨_, w, none, run_append_nosrc w t ty e i ht hi A xs.length c hc B d, by simpa using hd, ?_, World.grownBy.refl w _, (fun k h => by cases h), fun k h => .inl h⟩
    rintro (h | h)
    · exact (h rfl).elim
    · simpa using h
  · obtain ⟨b, off, rfl, hcell⟩ := hd4 hnews
    have hpos : 0 < news.length := List.length_pos_iff.2 hnews
    have hcell' : ∀ j u, news[j]? = some u → w.cell? ((⟨b, off, none⟩ : Addr).add j) = some u := fun j u hu => by rw [Addr.add_lit]; exact hcell j u hu
    rcases hd with hown | ⟨⟨A, c, rfl, hc1, hc2, hc3, hc4⟩, A', hA'⟩
    · obtain ⟨v', w', hrun, h2, h3, _, h5⟩ := run_append_own_at (P := P) w base t ty e i z 1 bytes ht hi hz hsize hby hzs (by decide) v xs.length xs hown ⟨b, off, none⟩ news.length d news (by simp) hcell' h1 h63 hbytes hbase
      refine ⟨v', w', v.ownBlock, hrun, .inl (by simpa using h2), fun _ => h2, h3, fun k hk => ⟨(hown.lt k hk).1, (hown.lt k hk).2, hown, hk⟩, fun k hk => ?_⟩
      rcases h5 with h | h
      · exact .inl (h ▸ hk)
      · rw [h] at hk; injection hk with hk; exact .inr (by omega)
    · obtain ⟨rfl, -, rfl⟩ : A = A' ∧ xs.length = xs.length ∧ c = xs.length := by injection hA' with a b c; exact ⟨a, b, c⟩
      have fin : ∀ (v' : Value) (w' : World), w'.ownsRow w.heap.size e 1 v' (xs.length + news.length) (xs ++ news) → w'.ownsRow base e 1 v' (xs.length + news.length) (xs ++ news) := by
        intro v' w' h
        refine ⟨h.1, ?_⟩
        rcases h.2 with h' | ⟨g, cap, cur, hv, hb, rest⟩
        · exact .inl h'
        · exact .inr ⟨g, cap, cur, hv, by omega, rest⟩
      cases A with
      | none =>
        have h0 : xs = [] := List.eq_nil_of_length_eq_zero (hc3 rfl)
        subst h0
        have hown : w.ownsRow base e 1 (.slice none ([] : List Value).length ([] : List Value).length) 0 [] := World.ownsRow_nil w base e 1
        obtain ⟨v', w', hrun, h2, h3, _, h5⟩ := run_append_own_at (P := P) w base t ty e i z 1 bytes ht hi hz hsize hby hzs (by decide) _ 0 [] hown ⟨b, off, none⟩ news.length d news (by simp) hcell' h1 (by simpa using h63) (by simpa using hbytes) hbase
        refine ⟨v', w', none, hrun, .inl (by simpa using h2), fun _ => by simpa using h2, by simpa [Value.ownBlock] using h3, (fun k h => by cases h), fun k hk => ?_⟩
        rcases h5 with h | h
        · exact .inl (h ▸ hk)
        · rw [h] at hk; injection hk with hk; exact .inr (by omega)
      | some ad =>
        have holds : ∀ j u, xs[j]? = some u → w.cell? (ad.add j) = some u := by
          intro j u hu
          have hne : xs ≠ [] := by rintro rfl; simp at hu
          obtain ⟨b', off', hA, hcc⟩ := hc4 hne
          injection hA with hA
          subst hA
          rw [Addr.add_lit]
          exact hcc j u hu
        obtain ⟨v', w', hrun, h2, h3⟩ := run_append_arg_grows (P := P) w t ty e i z 1 bytes ht hi hz hsize hby hzs (by decide) ad xs.length xs.length xs (by simp) holds ⟨b, off, none⟩ news.length d news (by simp) hcell' (by omega) h63 hbytes
        refine ⟨v', w', none, hrun, .inl (by simpa using fin v' w' h2), fun _ => fin v' w' h2, h3, (fun k h => by cases h), fun k hk => ?_⟩
        exact .inr (h2.lt k hk).1

/-- What an append has done. -/
structure App (w w' : World) (base : Nat) (e : TypeId) (v v' : Value) (xs news : List Value) : Prop where
  dst : Dst w' base e v' (xs ++ news)
  own : news ≠ [] ∨ w.ownsRow base e 1 v xs.length xs → w'.ownsRow base e 1 v' (xs ++ news).length (xs ++ news)
  row : ∃ row, w.grownBy w' row ∧ ∀ k, row = some k → base ≤ k ∧ k < w.heap.size ∧ w.ownsRow base e 1 v xs.length xs ∧ v.ownBlock = some k
  blk : ∀ k, v'.ownBlock = some k → v.ownBlock = some k ∨ w.heap.size ≤ k

theorem App.below {w w' : World} {base : Nat} {e : TypeId} {v v' : Value} {xs news : List Value} (h : App w w' base e v v' xs news) (hb : base ≤ w.heap.size) : Below base w w' := by
  obtain ⟨row, hg, hr⟩ := h.row
  exact (Below.refl base w).grown hg hb fun k hk => (hr k hk).1
theorem App.boxed {w w' : World} {base : Nat} {e : TypeId} {v v' : Value} {xs news : List Value} (h : App w w' base e v v' xs news) {B : Nat} {t : TypeId} {u : Value} (hB : Boxed w B t u) (hte : t ≠ e) : Boxed w' B t u := by
  obtain ⟨row, hg, hr⟩ := h.row
  refine hB.kept hg fun hrow => ?_
  obtain ⟨_, _, hown, hk⟩ := hr B hrow.symm
  exact hB.not_row hte hown hk.symm
theorem App.other {w w' : World} {base : Nat} {e : TypeId} {v v' : Value} {xs news : List Value} (h : App w w' base e v v' xs news) {k : Nat} (hk : k < w.heap.size) (hne : v.ownBlock ≠ some k) : w'.heap[k]? = w.heap[k]? := by
  obtain ⟨row, hg, hr⟩ := h.row
  exact hg.block k hk fun hrow => hne (hr k hrow.symm).2.2.2
theorem App.size {w w' : World} {base : Nat} {e : TypeId} {v v' : Value} {xs news : List Value} (h : App w w' base e v v' xs news) : w.heap.size ≤ w'.heap.size := by
  obtain ⟨row, hg, hr⟩ := h.row
  exact hg.size

theorem App.others {w w' : World} {base : Nat} {e : TypeId} {v v' : Value} {xs news : List Value} (h : App w w' base e v v' xs news) : KeepsOthers w w' := by
  obtain ⟨row, hg, hr⟩ := h.row
  refine KeepsOthers.of_grownBy hg fun j o hj ho => ?_
  obtain ⟨_, _, hown, hk⟩ := hr j hj
  rcases hown.2 with ⟨rfl, _⟩ | ⟨g, cap, cur, rfl, _, hh, _⟩
  · cases hk
  · have : g = j := by simpa [Value.ownBlock] using hk
    subst this
    rw [hh] at ho
    cases ho
    rfl
/-- A row of the call's own, behind a call that leaves alone what was there. -/
theorem ownsRow_later {w w' : World} {base : Nat} {e : TypeId} {size : Nat} {v : Value} {n : Nat} {xs : List Value} (h : w.ownsRow base e size v n xs) (hb : Below w.heap.size w w') : w'.ownsRow base e size v n xs :=
  h.kept (row := none) ⟨hb.os, hb.tape, hb.output, hb.size, fun k hk _ => hb.block k hk⟩ (by cases hv : v.ownBlock <;> simp)
theorem own_pos {w : World} {base : Nat} {e : TypeId} {size : Nat} {v : Value} {n : Nat} {xs : List Value} (h : w.ownsRow base e size v n xs) (hn : 0 < n) : ∃ g cap, v = .slice (some ⟨g, 0, none⟩) n cap := by
  rcases h.2 with ⟨_, rfl⟩ | ⟨g, cap, cur, rfl, _⟩
  · omega
  · exact ⟨g, cap, rfl⟩
theorem box_far {W : World} {B C : Nat} {t : TypeId} {u : Value} (h : Boxed W B t u) (hne : B ≠ C) (v : Value) : Boxed (W.setCell ⟨C, 0, none⟩ v) B t u := (Below.heap_setCell W ⟨C, 0, none⟩ v B hne).trans h

theorem run_app (base : Nat) (t ty e : TypeId) (i : TypeInfo) (z : Value) (bytes : Nat) (ht : P.underlying t = some (.slice e)) (hi : P.info? e = some i) (hz : i.zero = some z)
    (hsize : i.size = 1) (hby : i.bytes = bytes) (hzs : z.cells.size = 1)
    (v : Value) (xs : List Value) (hd : Dst w base e v xs) (x : Value) (news : List Value) (hs : SV w x news) (h1 : ∀ u ∈ news, u.oneCell' = true)
    (h63 : xs.length + news.length ≤ maxLen) (hbytes : (xs.length + news.length) * bytes ≤ 140737488355328) (hbase : base ≤ w.heap.size) :
    ∃ v' w', (Builtin.append_ #[t, t] ty #[v, x]).run P w = .ok v' w' ∧ App w w' base e v v' xs news := by
  obtain ⟨v', w', row, hr, h2, h3, h4, h5, h6⟩ := run_append_dst (P := P) w base t ty e i z bytes ht hi hz hsize hby hzs v xs hd x news hs h1 h63 hbytes hbase
  exact ⟨v', w', hr, h2, fun h => by rw [List.length_append]; exact h3 h, ⟨row, h4, h5⟩, h6⟩

theorem wp_app {o : Oper} {a : Act} {K : Act → World → Prop} {Q : Exit → Act → World → Prop} (s x : Operand) (t : TypeId)
    (ho : o.op = .call { callee := .builtin .append, args := #[s, x], argTypes := #[t, t] })
    (base : Nat) (e : TypeId) (i : TypeInfo) (z : Value) (bytes : Nat) (ht : P.underlying t = some (.slice e)) (hi : P.info? e = some i) (hz : i.zero = some z)
    (hsize : i.size = 1) (hby : i.bytes = bytes) (hzs : z.cells.size = 1)
    (v : Value) (xs : List Value) (hs : a.eval s = v) (hd : Dst w base e v xs) (xv : Value) (news : List Value) (hx : a.eval x = xv) (hsv : SV w xv news) (h1 : ∀ u ∈ news, u.oneCell' = true)
    (h63 : xs.length + news.length ≤ maxLen) (hbytes : (xs.length + news.length) * bytes ≤ 140737488355328) (hbase : base ≤ w.heap.size)
    (h : ∀ v' w', App w w' base e v v' xs news → K (a.put o.dst v') w') : o.wp P a w K Q := by
  obtain ⟨v', w', hr, h2⟩ := run_app (P := P) w base t o.type e i z bytes ht hi hz hsize hby hzs v xs hd xv news hsv h1 h63 hbytes hbase
  unfold Oper.wp execOp
  simp only [ho, resolve, invoke, builtin, Sem.run_bind, Sem.run_pure, Result.andThen_ok, List.map_toArray, List.map_cons, List.map_nil, hs, hx, hr]
  exact h v' w' h2

theorem wpList_app {ops : Array Oper} {rest : List Oper} {o : Oper} {a : Act} {Q : Exit → Act → World → Prop} (hw : Region.wanted o (yielded ops a.tmps) = true) (s x : Operand) (t : TypeId)
    (ho : o.op = .call { callee := .builtin .append, args := #[s, x], argTypes := #[t, t] })
    (base : Nat) (e : TypeId) (i : TypeInfo) (z : Value) (bytes : Nat) (ht : P.underlying t = some (.slice e)) (hi : P.info? e = some i) (hz : i.zero = some z)
    (hsize : i.size = 1) (hby : i.bytes = bytes) (hzs : z.cells.size = 1)
    (v : Value) (xs : List Value) (hs : a.eval s = v) (hd : Dst w base e v xs) (xv : Value) (news : List Value) (hx : a.eval x = xv) (hsv : SV w xv news) (h1 : ∀ u ∈ news, u.oneCell' = true)
    (h63 : xs.length + news.length ≤ maxLen) (hbytes : (xs.length + news.length) * bytes ≤ 140737488355328) (hbase : base ≤ w.heap.size)
    (h : ∀ v' w', App w w' base e v v' xs news → wpList P ops Q rest (a.put o.dst v') w') : wpList P ops Q (o :: rest) a w :=
  wpList_step fun K hK => by
    rw [if_pos hw]
    exact wp_app w s x t ho base e i z bytes ht hi hz hsize hby hzs v xs hs hd xv news hx hsv h1 h63 hbytes hbase fun v' w' h2 => hK _ _ (h v' w' h2)

theorem wpListIn_app {F : Fence} {n : Nat} {ops : Array Oper} {rest : List Oper} {o : Oper} {a : Act} {Q : Exit → Act → World → Prop} (hw : Region.wanted o (yielded ops a.tmps) = true) (s x : Operand) (t : TypeId)
    (ho : o.op = .call { callee := .builtin .append, args := #[s, x], argTypes := #[t, t] })
    (base : Nat) (e : TypeId) (i : TypeInfo) (z : Value) (bytes : Nat) (ht : P.underlying t = some (.slice e)) (hi : P.info? e = some i) (hz : i.zero = some z)
    (hsize : i.size = 1) (hby : i.bytes = bytes) (hzs : z.cells.size = 1)
    (v : Value) (xs : List Value) (hs : a.eval s = v) (hd : Dst w base e v xs) (xv : Value) (news : List Value) (hx : a.eval x = xv) (hsv : SV w xv news) (h1 : ∀ u ∈ news, u.oneCell' = true)
    (h63 : xs.length + news.length ≤ maxLen) (hbytes : (xs.length + news.length) * bytes ≤ 140737488355328) (hbase : base ≤ w.heap.size)
    (h : ∀ v' w', App w w' base e v v' xs news → wpListIn F n P ops Q rest (a.put o.dst v') w') : wpListIn F n P ops Q (o :: rest) a w :=
  wpListIn_step fun K hK => by
    rw [if_pos hw]
    obtain ⟨v', w', hr, h2⟩ := run_app (P := P) w base t o.type e i z bytes ht hi hz hsize hby hzs v xs hd xv news hsv h1 h63 hbytes hbase
    unfold Oper.wpIn
    refine ⟨?_, ?_⟩
    · simp [Oper.about, ho, resolve, Target.leads, Sem.run_pure]
    · rw [Oper.semAt_plain F _ _ (by rw [ho]; intro c hc'; cases hc')]
      simp [execOp, ho, resolve, invoke, builtin, hs, hx, hr, Result.andThen]
      exact hK _ _ (h v' w' h2)
end

/-- Bytes as values. -/
def bys (l : List UInt8) : List Value := l.map fun b => .int .u8 b.toNat
theorem bys_one (l : List UInt8) : ∀ u ∈ bys l, u.oneCell' = true := by
  intro u hu
  obtain ⟨b, _, rfl⟩ := List.mem_map.1 hu
  rfl
@[simp] theorem bys_len (l : List UInt8) : (bys l).length = l.length := by simp [bys]
theorem bys_ne {l : List UInt8} (h : 0 < l.length) : bys l ≠ [] := by
  intro e
  have := congrArg List.length e
  simp only [bys_len, List.length_nil] at this
  omega
theorem bys_app (l m : List UInt8) : bys (l ++ m) = bys l ++ bys m := by simp [bys]


/-- A slice of bytes as a string. -/
theorem run_bytes_string {P : Program} {w : World} {v : Value} {l : List UInt8} (h : SV w v (bys l)) (src e : TypeId) (hs : P.underlying src = some (.slice e)) (he : P.underlying e = some (.int .u8)) :
    ∀ dst, P.underlying dst = some .string → (convert src dst v).run P w = .ok (.string ⟨l.toArray⟩) w := by
  intro dst hd
  obtain ⟨A, c, rfl, h1, h2, h3, h4⟩ := h
  have hb : bys l = (l.map fun b => (b.toNat : Int)).map (Value.int .u8) := by simp [bys]
  have hf : ∀ l : List UInt8, (⟨ByteArray.empty.data ++ ((l.map fun b => (b.toNat : Int)).map fun n => UInt8.ofNat n.toNat).toArray⟩ : ByteArray) = ⟨l.toArray⟩ := by
    intro l
    have : ((l.map fun b => (b.toNat : Int)).map fun n => UInt8.ofNat n.toNat) = l := by
      rw [List.map_map]; conv => rhs; rw [← List.map_id l]
      exact List.map_congr_left fun b _ => by simp
    rw [this]
    simp [ByteArray.empty, ByteArray.emptyWithCapacity]
    rfl
  cases A with
  | none =>
    have h0 : l = [] := by
      have := h3 rfl
      simp only [bys_len] at h1
      exact List.eq_nil_of_length_eq_zero (by omega)
    subst h0
    exact run_convert_bytes_nil w src e hs he _ _ dst hd
  | some ad =>
    have hl : (loadCells ad (bys l).length).run P w = .ok (bys l).toArray w := by
      refine run_loadCells_list w ad (bys l) (fun j u hu => ?_)
      obtain ⟨b, off, hA, hc⟩ := h4 (by intro h; simp [h] at hu)
      injection hA with hA
      subst hA
      rw [Addr.add_lit]
      exact hc j u hu
    rw [run_convert_bytes_string w src dst e _ _ c hs he hd, run_bytesToString w _ _ c (l.map fun b => (b.toNat : Int)) (by rw [hl, hb]), foldl_push_bytes, hf]

/-- What the reading tells of a slice of integers that came in: it is nil, or it leads to a row of 'cap' cells that hold the numbers 'zs'. -/
def IsRow (k : IntKind) (w : World) (a : Option Addr) (len cap : Nat) (zs : List Int) : Prop :=
  (a = none ∧ len = 0 ∧ cap = 0 ∧ zs = []) ∨
  ∃ x, a = some x ∧ len ≤ cap ∧ cap ≤ maxLen ∧ zs.length = cap ∧ (∀ i, i < zs.length → w.cell? (x.add i) = some (.int k (zs.getD i 0))) ∧ ∀ n ∈ zs, (Lit.int k n).wf = true

theorem wf_bd {a : Int} (h : (Lit.int .i64 a).wf = true) : -9223372036854775808 ≤ a ∧ a ≤ 9223372036854775807 := by
  have h2 : IntKind.i64.min ≤ a ∧ a ≤ IntKind.i64.max := by simpa [Lit.wf] using h
  simp [IntKind.min, IntKind.max, IntKind.bits, IntKind.signed] at h2
  omega
theorem row_bytes {w : World} {a : Option Addr} {len cap : Nat} {zs : List Int} (h : IsRow .u8 w a len cap zs) : ∃ l : List UInt8, l.length = len ∧ SV w (.slice a len cap) (bys l) ∧ l.length ≤ 9223372036854775807 := by
  rcases h with ⟨rfl, rfl, rfl, rfl⟩ | ⟨x, rfl, hl, hm, hz, hcell, hwf⟩
  · exact ⟨[], rfl, SV.nil w, by simp⟩
  · have hb : ∀ n ∈ zs, 0 ≤ n ∧ n ≤ 255 := by
      intro n hn
      have h2 : IntKind.u8.min ≤ n ∧ n ≤ IntKind.u8.max := by simpa [Lit.wf] using hwf n hn
      simp [IntKind.min, IntKind.max, IntKind.bits, IntKind.signed] at h2
      omega
    refine ⟨(zs.take len).map fun n => UInt8.ofNat n.toNat, by simp; omega, ⟨some x, cap, by simp; omega, by simp; omega, hm, (fun h => by cases h), fun hne => ?_⟩, by unfold maxLen at hm; simp; omega⟩
    have hpos : 0 < len := by
      rcases Nat.eq_zero_or_pos len with h0 | h0
      · subst h0; simp [bys] at hne
      · exact h0
    have h0 := hcell 0 (by omega)
    obtain ⟨b, off, spot⟩ := x
    have hspot : spot = none := by simpa [Addr.add] using World.cell?_spot h0
    subst hspot
    refine ⟨b, off, rfl, fun j u hu => ?_⟩
    have hj : j < len := by
      have := (List.getElem?_eq_some_iff.1 hu).1
      simp at this
      omega
    have := hcell j (by omega)
    rw [Addr.add_lit] at this
    rw [this, ← hu]
    have hjz : j < zs.length := by omega
    have hv := hb zs[j] (List.getElem_mem hjz)
    simp only [bys, List.getElem?_map, List.getElem?_take, if_pos hj, List.getElem?_eq_getElem hjz, List.getD, Option.map_some, Option.getD_some, Option.some.injEq, Value.int.injEq, true_and]
    simp only [UInt8.toNat_ofNat']
    omega

theorem ret_int {k : IntKind} {a b : Int} (h : a = b) : Ending.returned (.int k a) = .returned (.int k b) := by rw [h]
theorem ret_bool {a b : Bool} (h : a = b) : Ending.returned (.bool a) = .returned (.bool b) := by rw [h]
theorem ret2_int {k : IntKind} {a b : Int} {x : Value} (h : a = b) : Ending.returned (.tuple #[.int k a, x]) = .returned (.tuple #[.int k b, x]) := by rw [h]
end Go.Proofs.YtlpgmmcdcjkkiaaDoor
