/- append at pairs, by the lists; the reference's Put: a state in which a key has a cell. -/
import Derived.Test.YtlpgmmcdcjkkiaaDoorModelCopy
import Derived.Test.YtlpgmmcdcjkkiaaDoorModelRef3
namespace Go.Proofs.YtlpgmmcdcjkkiaaDoor
set_option maxRecDepth 20000
open Go.RowKit Go.Sort

theorem bl_yes {x y : List UInt8} (h : x < y) : Op.bytesLess x y = true := by rw [bless_eq]; exact decide_eq_true h
theorem bl_no {x y : List UInt8} (h : ¬ x < y) : Op.bytesLess x y = false := by rw [bless_eq]; exact decide_eq_false h
theorem run_appPO (w : World) (M : Nat) (v : Value) (es fs : List (Pr × Value)) (B : Option Addr) (d : Nat) (ty : TypeId) (h : PO w M v es) (hM : M ≤ w.heap.size)
    (hs : 0 < fs.length → ∃ b off, B = some ⟨b, off, none⟩ ∧ w.rangeAt b off (flatP fs)) (hf : ∀ x ∈ fs, SV w x.2 (bys x.1.c.d)) (hlen : es.length + fs.length ≤ 1000000) :
    ∃ v' w', (Builtin.append_ #[30, 30] ty #[v, .slice B fs.length d]).run Tryd.prog w = .ok v' w' ∧ PO w' M v' (es ++ fs) ∧ Below M w w' := by
  obtain ⟨i, hi, hz0, hz1, hz2⟩ := info_parts Tryd.ipair
  by_cases h0 : fs = []
  · subst h0
    rw [List.append_nil]
    have hv : ∃ A n c, v = .slice A n c ∧ n ≤ c := by
      obtain ⟨⟨rfl, rfl⟩ | ⟨g, cap, L, rfl, hMg, hk⟩, _⟩ := id h
      · exact ⟨none, 0, 0, rfl, Nat.le_refl _⟩
      · exact ⟨_, _, _, rfl, hk.le⟩
    obtain ⟨A, n, c, rfl, hnc⟩ := hv
    exact ⟨_, w, run_append_nosrc (P := Tryd.prog) w 30 ty 38 i Tryd.underlying30 hi A n c hnc B d, h, Below.refl _ _⟩
  · have hm : 0 < fs.length := List.length_pos_iff.2 h0
    obtain ⟨b, off, rfl, hr⟩ := hs hm
    have hsrc : ∀ j u, (flatP fs)[j]? = some u → w.cell? ((⟨b, off, none⟩ : Addr).add j) = some u := fun j u hu => by rw [Addr.add_lit]; exact hr j u hu
    have SRC := Src.ofSlice (P := Tryd.prog) (size := 6) w Tryd.underlying30 ⟨b, off, none⟩ fs.length d (flatP fs) (flatP_len fs) hsrc (flatP_one' hf)
    obtain ⟨⟨rfl, rfl⟩ | ⟨g, cap, L, rfl, hMg, hk⟩, hs2⟩ := h
    · obtain ⟨cap, L, w', hrun, hb, hbl⟩ := run_growP w 30 ty none 0 0 [] rfl (fun h => by omega) (fun u hu => by cases hu) _ fs.length (flatP fs) SRC (flatP_nu hf) (by omega) (by omega)
      rw [Nat.zero_add] at hrun hb
      rw [List.nil_append] at hb
      exact ⟨_, w', hrun, ⟨.inr ⟨w.heap.size, cap, L, rfl, hM, hb⟩, fun x hx => (hf x hx).keep (Keeps.below hbl)⟩, hbl.mono hM⟩
    · have hall : ∀ x ∈ es ++ fs, SV w x.2 (bys x.1.c.d) := fun x hx => (List.mem_append.1 hx).elim (hs2 x) (hf x)
      have hle := hk.le
      by_cases hroom : es.length + fs.length ≤ cap
      · have hfit : es.length * 6 + (flatP fs).length ≤ L.length := by rw [flatP_len, hk.len]; omega
        obtain ⟨w', hrun, hG, hB⟩ := run_app_roomK (P := Tryd.prog) w 30 ty 38 i Tryd.underlying30 hi g es.length cap L _ hk.cells ⟨b, off, none⟩ fs.length d (flatP fs) (by rw [hz1, flatP_len]) hsrc (flatP_one' hf) hroom (by rw [hz1]; exact hfit)
        rw [hz1] at hG
        refine ⟨_, w', hrun, ⟨.inr ⟨g, cap, _, by rw [List.length_append], hMg, hG, (length_splice _ _ _ hfit).trans hk.len, by rw [List.length_append]; exact hroom, hk.max, ?_, ?_⟩, fun x hx => sv_blk hk hB (hall x hx)⟩, ⟨hB.os, hB.tape, hB.output, hB.size, fun k hkm => hB.block k (by omega) (by simp; omega)⟩⟩
        · rw [List.length_append, take_splice_all _ _ _ _ (by rw [flatP_len]; omega) hfit, hk.take, flatP_app]
        · intro u hu
          rcases mem_splice hu with hu | hu
          · exact hk.nu u hu
          · exact flatP_nu hf u hu
      · obtain ⟨cap', L', w', hrun, hb, hbl⟩ := run_growP w 30 ty (some ⟨g, 0, none⟩) es.length cap (flatP es) (flatP_len es) (fun _ => ⟨g, 0, rfl, fun j u hu => by rw [Nat.zero_add]; exact hk.get j u hu⟩) (flatP_nu hs2) _ fs.length (flatP fs) SRC (flatP_nu hf) (by omega) (by omega)
        refine ⟨_, w', hrun, ⟨.inr ⟨w.heap.size, cap', L', by rw [List.length_append], hM, ?_⟩, fun x hx => (hall x hx).keep (Keeps.below hbl)⟩, hbl.mono hM⟩
        rw [List.length_append, flatP_app]
        exact hb
theorem wpList_appPO {ops : Array Oper} {rest : List Oper} {o : Oper} {a : Act} {Q : Exit → Act → World → Prop} {w : World} (hw : Region.wanted o (yielded ops a.tmps) = true) (s x : Operand) (ho : o.op = .call { callee := .builtin .append, args := #[s, x], argTypes := #[30, 30] })
    (M : Nat) (v : Value) (es fs : List (Pr × Value)) (hs' : a.eval s = v) (B : Option Addr) (d : Nat) (hx : a.eval x = .slice B fs.length d) (h : PO w M v es) (hM : M ≤ w.heap.size)
    (hs : 0 < fs.length → ∃ b off, B = some ⟨b, off, none⟩ ∧ w.rangeAt b off (flatP fs)) (hf : ∀ x ∈ fs, SV w x.2 (bys x.1.c.d)) (hlen : es.length + fs.length ≤ 1000000)
    (hr : ∀ v' w', Hid (PO w' M v' (es ++ fs)) → Hid (Below M w w') → wpList Tryd.prog ops Q rest (a.put o.dst v') w') : wpList Tryd.prog ops Q (o :: rest) a w := by
  obtain ⟨v', w', hrun, h1, h2⟩ := run_appPO w M v es fs B d o.type h hM hs hf hlen
  refine wpList_runx hw _ w' ?_ (hr v' w' (Lib.hid h1) (Lib.hid h2))
  unfold execOp
  simp only [ho, resolve, invoke, builtin, Sem.run_bind, Sem.run_pure, Result.andThen_ok, List.map_toArray, List.map_cons, List.map_nil, hs', hx, hrun]
theorem run_cut9 {P : Program} {t e : TypeId} {A : Option Addr} {n c k : Nat} {kd : IntKind} (ht : P.underlying t = some (.slice e)) (hs : (P.info? e).map (·.size) = some 6) (hk : k ≤ n) (w : World) :
    (Instr.sliceAt t (.slice A n c) (some (.int kd k)) none none).run P w = .ok (.slice (if c = k then A else A.map (·.add (k * 6))) (n - k) (c - k)) w := by
  cases hq : P.info? e with
  | none => simp [hq] at hs
  | some inf =>
    have hs' : inf.size = 6 := by simpa [hq] using hs
    have h1 : (0 : Int) ≤ k ∧ (k : Int) ≤ n := by omega
    have h2 : (sizeOf e).run P w = .ok 6 w := by simp [sizeOf, typeInfo, hq, hs']
    simp [Instr.sliceAt, run_underlying ht, Instr.slice, Instr.sliceBounds, Instr.sliceBound, asIntOf, h1, h2]
    intro h; omega
/-- A part of a slice of pairs, by its cells. -/
def CutP (w : World) (l : List Pr) (v : Value) : Prop := ∃ B d, ∃ fs : List (Pr × Value), v = .slice B fs.length d ∧ fs.map (·.1) = l ∧ (0 < fs.length → ∃ b off, B = some ⟨b, off, none⟩ ∧ w.rangeAt b off (flatP fs)) ∧ ∀ x ∈ fs, SV w x.2 (bys x.1.c.d)
theorem cutP_of {w : World} {A : Option Addr} {n c : Nat} {l : List Pr} (h : PS w (.slice A n c) l) (k : Nat) (hk : k ≤ n) : CutP w (l.drop k) (.slice (if c = k then A else A.map (·.add (k * 6))) (n - k) (c - k)) := by
  obtain ⟨rfl, h1, h2⟩ := h.bd
  obtain ⟨es, he, hsv, hc⟩ := h.cells
  have hel : es.length = l.length := by rw [← he, List.length_map]
  refine ⟨_, _, es.drop k, by rw [List.length_drop, hel], by rw [List.map_drop, he], fun hp => ?_, fun x hx => hsv x (List.mem_of_mem_drop hx)⟩
  rw [List.length_drop, hel] at hp
  obtain ⟨b, off, rfl, hr⟩ := hc (by omega)
  refine ⟨b, off + k * 6, by rw [if_neg (by omega)]; simp [Addr.add_lit], fun j u hu => ?_⟩
  rw [← flatP_drop, List.getElem?_drop] at hu
  rw [Nat.add_assoc]
  exact hr _ _ hu
theorem wpList_cut9 {P : Program} {ops : Array Oper} {rest : List Oper} {o : Oper} {a : Act} {w : World} {Q : Exit → Act → World → Prop} {ty e : TypeId} (hw : Region.wanted o (yielded ops a.tmps) = true) (x i : Operand) (ho : o.op = .slice ty x (some i) none none) (hu : P.underlying ty = some (.slice e)) (hs : (P.info? e).map (·.size) = some 6)
    (A : Option Addr) (n c : Nat) (hx : a.eval x = .slice A n c) (l : List Pr) (hps : PS w (.slice A n c) l) (kd : IntKind) (j : Int) (hi : a.eval i = .int kd j) (k : Nat) (hj : j = k) (hk : k ≤ n)
    (h : ∀ v, CutP w (l.drop k) v → wpList P ops Q rest (a.put o.dst v) w) : wpList P ops Q (o :: rest) a w := by
  subst hj
  refine wpList_runx hw _ w ?_ (h _ (cutP_of hps k hk))
  have h1 := run_cut9 (P := P) (kd := kd) (A := A) (c := c) hu hs hk w
  unfold execOp
  simp only [ho, hx, hi, Option.map_some, Option.map_none, Sem.run_bind, h1, Result.andThen_ok, Sem.run_pure]

/-- A slice that reads as these pairs came back. -/
def Puts (l : List Pr) (w : World) (e : Ending) (w' : World) : Prop := ∃ v', e = .returned v' ∧ PS w' v' l ∧ Below w.heap.size w w'
theorem map_take_len {es : List (Pr × Value)} {s : List Pr} {j : Nat} (h : es.map (·.1) = s.take j) (hj : j ≤ s.length) : es.length = j := by
  have := congrArg List.length h
  simpa [Nat.min_eq_left hj] using this
theorem app_len {es fs : List (Pr × Value)} {s : List Pr} {E : Nat} (h : fs.map (·.1) = s.drop E) (hs : s.length ≤ 100000) (he : es.length ≤ s.length + 1) : es.length + fs.length ≤ 1000000 := by
  have := congrArg List.length h
  simp at this
  omega
theorem lit_range (w : World) (p : Pr) (D : Value) (t : TypeId) : (w.alloc (.cells (pcs p D).toArray t)).rangeAt w.heap.size 0 (flatP [(p, D)]) := fun j u hu => by
  rw [flatP_one] at hu
  rw [Nat.zero_add]
  exact ((Whole.made w t (pcs p D).toArray).cell j).trans (by simpa using hu)
theorem put_eq {es X fs : List (Pr × Value)} {s : List Pr} {k : List UInt8} {c : Cl} {j E : Nat} (he : es.map (·.1) = s.take j) (hj : j = lowP s k) (hX : X.map (·.1) = one k c) (hf : fs.map (·.1) = s.drop E) (hE : E = endP s k) : ((es ++ X) ++ fs).map (·.1) = putS s k c := by
  subst hj hE
  simp [putS, he, hX, hf]
theorem hasP_at {s : List Pr} {k : List UInt8} {p : Pr} {j : Nat} (hj : j = lowP s k) (hp : s[j]? = some p) : endP s k = if p.k = k then j + 1 else j := by
  subst hj
  unfold endP hasP
  rw [hp]
  simp
theorem hasP_end {s : List Pr} {k : List UInt8} {j : Nat} (hj : j = lowP s k) (hl : j = s.length) : j = endP s k := by
  subst hj
  unfold endP hasP
  rw [List.getElem?_eq_none (by omega)]
  rfl
theorem po_slice {w : World} {M : Nat} {v : Value} {es : List (Pr × Value)} (h : PO w M v es) : ∃ A c, v = .slice A es.length c ∧ es.length ≤ c ∧ c ≤ 9223372036854775807 := by
  obtain ⟨⟨rfl, rfl⟩ | ⟨g, cap, L, rfl, hM, hb⟩, h2⟩ := h
  · exact ⟨none, 0, rfl, Nat.le_refl _, by decide⟩
  · exact ⟨_, cap, rfl, hb.le, hb.max⟩
theorem lowP_here {s : List Pr} {k : List UInt8} {j : Nat} (hl : j ≤ lowP s k) (h : ∀ p, s[j]? = some p → ¬ p.k < k) : j = lowP s k :=
  lowP_one (Nat.le_trans hl (lowP_le s k)) (fun i p hi hp => lowP_lt s k i p (by omega) hp) h
theorem sv_one' {w : World} {x : Pr × Value} (h : SV w x.2 (bys x.1.c.d)) : ∀ y ∈ [x], SV w y.2 (bys y.1.c.d) := fun y hy => by
  simp at hy
  subst hy
  exact h
set_option maxHeartbeats 2000000 in
theorem rput9_any (v : Value) (s : List Pr) (k : List UInt8) (A : Option Addr) (n m : Nat) (c : Cl) (w : World) (hv : PS w v s) (hc : SV w (.slice A n m) (bys c.d)) (hl : s.length ≤ 100000) :
    Calls Tryd.prog 51 #[v, kst k, cv (.slice A n m) c] w (Puts (putS s k c) w) := by
  obtain ⟨Av, d, rfl, _⟩ := id hv
  have l3 := hv.bd.2
  have HC := Lib.hid hc
  have HL := Lib.hid hl
  have HV := Lib.hid hv
  clear hv hc
  unfold kst cv
  go_enter Tryd.func51, Tryd.ntmps51
  go_wp2
  have p5 := Lib.hid (Whole.made w 36 #[.int .i64 c.k, .slice A n m, .int .i64 c.lo, .int .i64 c.hi, .int .i64 c.v])
  have B0 := Lib.hid ((Below.refl w.heap.size w).alloc (Nat.le_refl _) (.cells #[.int .i64 c.k, .slice A n m, .int .i64 c.lo, .int .i64 c.hi, .int .i64 c.v] 36))
  replace HV := Lib.hid (HV.out.keep (Keeps.alloc w (.cells #[.int .i64 c.k, .slice A n m, .int .i64 c.lo, .int .i64 c.hi, .int .i64 c.v] 36)))
  replace HC := Lib.hid (HC.out.keep (Keeps.alloc w (.cells #[.int .i64 c.k, .slice A n m, .int .i64 c.lo, .int .i64 c.hi, .int .i64 c.v] 36)))
  generalize w.alloc (.cells #[.int .i64 c.k, .slice A n m, .int .i64 c.lo, .int .i64 c.hi, .int .i64 c.v] 36) = w0 at *
  go_loopw [7, 8] (fun out i wr => ∃ (j : Nat) (es : List (Pr × Value)), j ≤ s.length ∧ i = .int .i64 j ∧ Hid (j ≤ lowP s k) ∧ Hid (es.map (·.1) = s.take j) ∧ Hid (PO wr w0.heap.size out es) ∧ Hid (Below w0.heap.size w0 wr)) (fun _ i _ => s.length - (intOf i).toNat)
  case atStart => exact ⟨0, [], by omega, rfl, Lib.hid (Nat.zero_le _), Lib.hid (by simp), Lib.hid (PO.nil _ _), Lib.hid (Below.refl _ _)⟩
  case round =>
    obtain ⟨j, es, hj, rfl, hlow, he, ho, hB⟩ := hrel
    obtain rfl : es.length = j := map_take_len he.out hj
    obtain ⟨Ao, co, rfl, ho1, ho2⟩ := po_slice ho.out
    have q5 := Lib.hid (p5.out.on hB.out)
    have y0 : wr.cell? ⟨w.heap.size, 0, none⟩ = some (.int .i64 c.k) := q5.out.cell 0
    have hl1 := Lib.hid (show es.length + 1 ≤ 1000000 by omega)
    have hl2 := Lib.hid (show (es ++ [((⟨k, c⟩ : Pr), Value.slice A n m)]).length ≤ s.length + 1 by rw [List.length_append]; exact Nat.add_le_add_right hj 1)
    have hl3 := Lib.hid (show es.length ≤ s.length + 1 by omega)
    by_cases hlt : es.length < s.length
    · obtain ⟨b, off, p, Ad, cd, rfl, hp, c0, c1, c2, c3, c4, c5, hd⟩ := PS.at6 HV.out hlt
      have kp := Keeps.below hB.out
      have C0 := Lib.hid c0
      replace c0 := kp _ _ c0
      replace c1 := kp _ _ c1
      replace c2 := kp _ _ c2
      replace c3 := kp _ _ c3
      replace c4 := kp _ _ c4
      replace c5 := kp _ _ c5
      replace hd := Lib.hid (hd.keep kp)
      clear kp
      by_cases hk : p.k < k
      · have hbl := bl_yes hk
        have hlow2 := Lib.hid (show es.length + 1 ≤ lowP s k from Nat.lt_of_le_of_ne hlow.out (fun e => lowP_at s k p (e ▸ hp) hk))
        have he2 := Lib.hid (show (es ++ [(p, Value.slice Ad p.c.d.length cd)]).map (·.1) = s.take (es.length + 1) by rw [List.take_add_one, hp, List.map_append, he.out]; rfl)
        replace hp := Lib.hid hp
        clear hk hlow he C0
        go_wp2_with (show wpList _ _ _ (Oper.mk (some 31) (.call _) _ _ _ _ :: _) _ _; refine wpList_appPO rfl (.tmp 25) (.tmp 30) rfl _ _ _ ([(p, .slice Ad p.c.d.length cd)]) rfl _ _ rfl (ho.out.on ((Below.refl _ _).alloc (Nat.le_refl _) _)) (Nat.le_trans hB.out.size (by simp)) (fun _ => ⟨_, 0, rfl, lit_range _ p _ _⟩) (sv_one' (hd.out.keep (Keeps.alloc _ _))) hl1.out ?_; intro v1 w1 hp1 hb1)
        go_roundw
        case rel => exact ⟨es.length + 1, _, by omega, by go_num, hlow2, he2, hp1, Lib.hid ((hB.out.alloc hB.out.size _).trans hb1.out)⟩
        case measure => simp [intOf]; omega
      · have hbl := bl_no hk
        replace hlow := Lib.hid (lowP_here hlow.out (fun q hq => by rw [hp] at hq; injection hq with hq; rw [← hq]; exact hk))
        have hend := hasP_at hlow.out hp
        clear hk c1 c2 c3 c4 c5 hd
        by_cases hkk : p.k = k
        · rw [if_pos hkk] at hend
          have hEe := Lib.hid hend.symm
          have hE := Lib.hid (show es.length + 1 ≤ s.length by omega)
          have heq : (p.k == k) = true := by simpa using hkk
          clear hkk hend hp
          by_cases hk0 : c.k = 0
          · skip
            go_wp2_with (first
              | (show wpList _ _ _ (Oper.mk (some 61) (.slice _ _ _ _ _) _ _ _ _ :: _) _ _; refine wpList_cut9 rfl (.tmp 59) (.tmp 60) rfl Tryd.underlying30 (by kernel_rfl) _ _ _ rfl s (HV.out.keep (Keeps.below hB.out)) _ _ rfl (es.length + 1) (by simp) hE.out ?_; rintro v2 ⟨B2, d2, fs, rfl, hf1, hf2, hf3⟩; replace hf1 := Lib.hid hf1; replace hf2 := Lib.hid hf2; replace hf3 := Lib.hid hf3)
              | (show wpList _ _ _ (Oper.mk (some 62) (.call _) _ _ _ _ :: _) _ _; refine wpList_appPO rfl (.tmp 58) (.tmp 61) rfl _ _ _ (fs) rfl _ _ rfl ho.out hB.out.size hf2.out hf3.out (app_len hf1.out HL.out hl3.out) ?_; intro v3 w3 hp3 hb3))
            go_ret
            exact ⟨v3, rfl, (by have h9 := put_eq (s := s) (k := k) (c := c) (X := []) he.out hlow.out (show _ = one k c by simp [one, hk0]) hf1.out hEe.out; rw [List.append_nil] at h9; exact h9) ▸ hp3.out.ps, B0.out.trans ((hB.out.trans hb3.out).mono B0.out.size)⟩
          · skip
            go_wp2_with (first
              | (show wpList _ _ _ (Oper.mk _ (.load _ (.tmp 5)) _ _ _ _ :: _) _ _; refine wpList_load_row rfl 36 (.tmp 5) rfl (w.heap.size) rfl _ _ _ _ (q5.out) Tryd.underlying36 rfl (by kernel_rfl) ?_)
              | (show wpList _ _ _ (Oper.mk (some 42) (.call _) _ _ _ _ :: _) _ _; refine wpList_appPO rfl (.tmp 37) (.tmp 41) rfl _ _ _ ([(⟨k, c⟩, .slice A n m)]) rfl _ _ rfl (ho.out.on ((Below.refl _ _).alloc (Nat.le_refl _) _)) (Nat.le_trans hB.out.size (by simp)) (fun _ => ⟨_, 0, rfl, lit_range _ ⟨k, c⟩ _ _⟩) (sv_one' (HC.out.keep ((Keeps.below hB.out).trans (Keeps.alloc _ _)))) hl1.out ?_; intro v1 w1 hp1 hb1; have B1 := Lib.hid ((hB.out.alloc hB.out.size _).trans hb1.out); have f0 : w1.cell? ⟨b, off + es.length * 6, none⟩ = some (.string ⟨p.k.toArray⟩) := (Keeps.below B1.out) _ _ C0.out)
              | (show wpList _ _ _ (Oper.mk (some 61) (.slice _ _ _ _ _) _ _ _ _ :: _) _ _; refine wpList_cut9 rfl (.tmp 59) (.tmp 60) rfl Tryd.underlying30 (by kernel_rfl) _ _ _ rfl s (HV.out.keep (Keeps.below B1.out)) _ _ rfl (es.length + 1) (by simp) hE.out ?_; rintro v2 ⟨B2, d2, fs, rfl, hf1, hf2, hf3⟩; replace hf1 := Lib.hid hf1; replace hf2 := Lib.hid hf2; replace hf3 := Lib.hid hf3)
              | (show wpList _ _ _ (Oper.mk (some 62) (.call _) _ _ _ _ :: _) _ _; refine wpList_appPO rfl (.tmp 58) (.tmp 61) rfl _ _ _ (fs) rfl _ _ rfl hp1.out B1.out.size hf2.out hf3.out (app_len hf1.out HL.out hl2.out) ?_; intro v3 w3 hp3 hb3))
            go_ret
            exact ⟨v3, rfl, put_eq (s := s) (k := k) (c := c) (X := [(⟨k, c⟩, .slice A n m)]) he.out hlow.out (by simp [one, hk0]) hf1.out hEe.out ▸ hp3.out.ps, B0.out.trans ((B1.out.trans hb3.out).mono B0.out.size)⟩
        · rw [if_neg hkk] at hend
          have hEe := Lib.hid hend.symm
          have hE := Lib.hid (show es.length ≤ s.length by omega)
          have heq : (p.k == k) = false := by simpa using hkk
          clear hkk hend hp
          by_cases hk0 : c.k = 0
          · skip
            go_wp2_with (first
              | (show wpList _ _ _ (Oper.mk (some 61) (.slice _ _ _ _ _) _ _ _ _ :: _) _ _; refine wpList_cut9 rfl (.tmp 59) (.tmp 60) rfl Tryd.underlying30 (by kernel_rfl) _ _ _ rfl s (HV.out.keep (Keeps.below hB.out)) _ _ rfl (es.length) rfl hE.out ?_; rintro v2 ⟨B2, d2, fs, rfl, hf1, hf2, hf3⟩; replace hf1 := Lib.hid hf1; replace hf2 := Lib.hid hf2; replace hf3 := Lib.hid hf3)
              | (show wpList _ _ _ (Oper.mk (some 62) (.call _) _ _ _ _ :: _) _ _; refine wpList_appPO rfl (.tmp 58) (.tmp 61) rfl _ _ _ (fs) rfl _ _ rfl ho.out hB.out.size hf2.out hf3.out (app_len hf1.out HL.out hl3.out) ?_; intro v3 w3 hp3 hb3))
            go_ret
            exact ⟨v3, rfl, (by have h9 := put_eq (s := s) (k := k) (c := c) (X := []) he.out hlow.out (show _ = one k c by simp [one, hk0]) hf1.out hEe.out; rw [List.append_nil] at h9; exact h9) ▸ hp3.out.ps, B0.out.trans ((hB.out.trans hb3.out).mono B0.out.size)⟩
          · skip
            go_wp2_with (first
              | (show wpList _ _ _ (Oper.mk _ (.load _ (.tmp 5)) _ _ _ _ :: _) _ _; refine wpList_load_row rfl 36 (.tmp 5) rfl (w.heap.size) rfl _ _ _ _ (q5.out) Tryd.underlying36 rfl (by kernel_rfl) ?_)
              | (show wpList _ _ _ (Oper.mk (some 42) (.call _) _ _ _ _ :: _) _ _; refine wpList_appPO rfl (.tmp 37) (.tmp 41) rfl _ _ _ ([(⟨k, c⟩, .slice A n m)]) rfl _ _ rfl (ho.out.on ((Below.refl _ _).alloc (Nat.le_refl _) _)) (Nat.le_trans hB.out.size (by simp)) (fun _ => ⟨_, 0, rfl, lit_range _ ⟨k, c⟩ _ _⟩) (sv_one' (HC.out.keep ((Keeps.below hB.out).trans (Keeps.alloc _ _)))) hl1.out ?_; intro v1 w1 hp1 hb1; have B1 := Lib.hid ((hB.out.alloc hB.out.size _).trans hb1.out); have f0 : w1.cell? ⟨b, off + es.length * 6, none⟩ = some (.string ⟨p.k.toArray⟩) := (Keeps.below B1.out) _ _ C0.out)
              | (show wpList _ _ _ (Oper.mk (some 61) (.slice _ _ _ _ _) _ _ _ _ :: _) _ _; refine wpList_cut9 rfl (.tmp 59) (.tmp 60) rfl Tryd.underlying30 (by kernel_rfl) _ _ _ rfl s (HV.out.keep (Keeps.below B1.out)) _ _ rfl (es.length) rfl hE.out ?_; rintro v2 ⟨B2, d2, fs, rfl, hf1, hf2, hf3⟩; replace hf1 := Lib.hid hf1; replace hf2 := Lib.hid hf2; replace hf3 := Lib.hid hf3)
              | (show wpList _ _ _ (Oper.mk (some 62) (.call _) _ _ _ _ :: _) _ _; refine wpList_appPO rfl (.tmp 58) (.tmp 61) rfl _ _ _ (fs) rfl _ _ rfl hp1.out B1.out.size hf2.out hf3.out (app_len hf1.out HL.out hl2.out) ?_; intro v3 w3 hp3 hb3))
            go_ret
            exact ⟨v3, rfl, put_eq (s := s) (k := k) (c := c) (X := [(⟨k, c⟩, .slice A n m)]) he.out hlow.out (by simp [one, hk0]) hf1.out hEe.out ▸ hp3.out.ps, B0.out.trans ((B1.out.trans hb3.out).mono B0.out.size)⟩
    · have hle : es.length = s.length := by omega
      replace hlow := Lib.hid (lowP_here hlow.out (fun q hq => by rw [List.getElem?_eq_none (by omega)] at hq; cases hq))
      have hEe := Lib.hid (hasP_end hlow.out hle)
      have hE := Lib.hid (show es.length ≤ s.length by omega)
      clear hle
      by_cases hk0 : c.k = 0
      · skip
        go_wp2_with (first
          | (show wpList _ _ _ (Oper.mk (some 61) (.slice _ _ _ _ _) _ _ _ _ :: _) _ _; refine wpList_cut9 rfl (.tmp 59) (.tmp 60) rfl Tryd.underlying30 (by kernel_rfl) _ _ _ rfl s (HV.out.keep (Keeps.below hB.out)) _ _ rfl (es.length) rfl hE.out ?_; rintro v2 ⟨B2, d2, fs, rfl, hf1, hf2, hf3⟩; replace hf1 := Lib.hid hf1; replace hf2 := Lib.hid hf2; replace hf3 := Lib.hid hf3)
          | (show wpList _ _ _ (Oper.mk (some 62) (.call _) _ _ _ _ :: _) _ _; refine wpList_appPO rfl (.tmp 58) (.tmp 61) rfl _ _ _ (fs) rfl _ _ rfl ho.out hB.out.size hf2.out hf3.out (app_len hf1.out HL.out hl3.out) ?_; intro v3 w3 hp3 hb3))
        go_ret
        exact ⟨v3, rfl, (by have h9 := put_eq (s := s) (k := k) (c := c) (X := []) he.out hlow.out (show _ = one k c by simp [one, hk0]) hf1.out hEe.out; rw [List.append_nil] at h9; exact h9) ▸ hp3.out.ps, B0.out.trans ((hB.out.trans hb3.out).mono B0.out.size)⟩
      · skip
        go_wp2_with (first
          | (show wpList _ _ _ (Oper.mk _ (.load _ (.tmp 5)) _ _ _ _ :: _) _ _; refine wpList_load_row rfl 36 (.tmp 5) rfl (w.heap.size) rfl _ _ _ _ (q5.out) Tryd.underlying36 rfl (by kernel_rfl) ?_)
          | (show wpList _ _ _ (Oper.mk (some 42) (.call _) _ _ _ _ :: _) _ _; refine wpList_appPO rfl (.tmp 37) (.tmp 41) rfl _ _ _ ([(⟨k, c⟩, .slice A n m)]) rfl _ _ rfl (ho.out.on ((Below.refl _ _).alloc (Nat.le_refl _) _)) (Nat.le_trans hB.out.size (by simp)) (fun _ => ⟨_, 0, rfl, lit_range _ ⟨k, c⟩ _ _⟩) (sv_one' (HC.out.keep ((Keeps.below hB.out).trans (Keeps.alloc _ _)))) hl1.out ?_; intro v1 w1 hp1 hb1; have B1 := Lib.hid ((hB.out.alloc hB.out.size _).trans hb1.out); skip)
          | (show wpList _ _ _ (Oper.mk (some 61) (.slice _ _ _ _ _) _ _ _ _ :: _) _ _; refine wpList_cut9 rfl (.tmp 59) (.tmp 60) rfl Tryd.underlying30 (by kernel_rfl) _ _ _ rfl s (HV.out.keep (Keeps.below B1.out)) _ _ rfl (es.length) rfl hE.out ?_; rintro v2 ⟨B2, d2, fs, rfl, hf1, hf2, hf3⟩; replace hf1 := Lib.hid hf1; replace hf2 := Lib.hid hf2; replace hf3 := Lib.hid hf3)
          | (show wpList _ _ _ (Oper.mk (some 62) (.call _) _ _ _ _ :: _) _ _; refine wpList_appPO rfl (.tmp 58) (.tmp 61) rfl _ _ _ (fs) rfl _ _ rfl hp1.out B1.out.size hf2.out hf3.out (app_len hf1.out HL.out hl2.out) ?_; intro v3 w3 hp3 hb3))
        go_ret
        exact ⟨v3, rfl, put_eq (s := s) (k := k) (c := c) (X := [(⟨k, c⟩, .slice A n m)]) he.out hlow.out (by simp [one, hk0]) hf1.out hEe.out ▸ hp3.out.ps, B0.out.trans ((B1.out.trans hb3.out).mono B0.out.size)⟩
end Go.Proofs.YtlpgmmcdcjkkiaaDoor
