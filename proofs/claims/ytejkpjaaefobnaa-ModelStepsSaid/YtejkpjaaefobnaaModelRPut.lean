/- append at pairs, by the lists; the reference's Put: a state in which a key has a cell. -/
import Derived.Test.YtejkpjaaefobnaaModelCopy
import Derived.Test.YtejkpjaaefobnaaModelRef3
namespace Go.Proofs.Ytejkpjaaefobnaa
set_option maxRecDepth 20000
open Go.RowKit Go.Sort

theorem bl_yes {x y : List UInt8} (h : x < y) : Op.bytesLess x y = true := by rw [bless_eq]; exact decide_eq_true h
theorem bl_no {x y : List UInt8} (h : ¬ x < y) : Op.bytesLess x y = false := by rw [bless_eq]; exact decide_eq_false h
theorem run_appPO (w : World) (M : Nat) (v : Value) (es fs : List (Pr × Value)) (B : Option Addr) (d : Nat) (ty : TypeId) (h : PO w M v es) (hM : M ≤ w.heap.size)
    (hs : 0 < fs.length → ∃ b off, B = some ⟨b, off, none⟩ ∧ w.rangeAt b off (flatP fs)) (hf : ∀ x ∈ fs, SV w x.2 (bys x.1.c.d)) (hlen : es.length + fs.length ≤ 1000000) :
    ∃ v' w', (Builtin.append_ #[22, 22] ty #[v, .slice B fs.length d]).run Try.prog w = .ok v' w' ∧ PO w' M v' (es ++ fs) ∧ Below M w w' := by
  obtain ⟨i, hi, hz0, hz1, hz2⟩ := info_parts Try.ipair
  by_cases h0 : fs = []
  · subst h0
    rw [List.append_nil]
    have hv : ∃ A n c, v = .slice A n c ∧ n ≤ c := by
      obtain ⟨⟨rfl, rfl⟩ | ⟨g, cap, L, rfl, hMg, hk⟩, _⟩ := id h
      · exact ⟨none, 0, 0, rfl, Nat.le_refl _⟩
      · exact ⟨_, _, _, rfl, hk.le⟩
    obtain ⟨A, n, c, rfl, hnc⟩ := hv
    exact ⟨_, w, run_append_nosrc (P := Try.prog) w 22 ty 54 i Try.underlying22 hi A n c hnc B d, h, Below.refl _ _⟩
  · have hm : 0 < fs.length := List.length_pos_iff.2 h0
    obtain ⟨b, off, rfl, hr⟩ := hs hm
    have hsrc : ∀ j u, (flatP fs)[j]? = some u → w.cell? ((⟨b, off, none⟩ : Addr).add j) = some u := fun j u hu => by rw [Addr.add_lit]; exact hr j u hu
    have SRC := Src.ofSlice (P := Try.prog) (size := 6) w Try.underlying22 ⟨b, off, none⟩ fs.length d (flatP fs) (flatP_len fs) hsrc (flatP_one' hf)
    obtain ⟨⟨rfl, rfl⟩ | ⟨g, cap, L, rfl, hMg, hk⟩, hs2⟩ := h
    · obtain ⟨cap, L, w', hrun, hb, hbl⟩ := run_growP w 22 ty none 0 0 [] rfl (fun h => by omega) (fun u hu => by cases hu) _ fs.length (flatP fs) SRC (flatP_nu hf) (by omega) (by omega)
      rw [Nat.zero_add] at hrun hb
      rw [List.nil_append] at hb
      exact ⟨_, w', hrun, ⟨.inr ⟨w.heap.size, cap, L, rfl, hM, hb⟩, fun x hx => (hf x hx).keep (Keeps.below hbl)⟩, hbl.mono hM⟩
    · have hall : ∀ x ∈ es ++ fs, SV w x.2 (bys x.1.c.d) := fun x hx => (List.mem_append.1 hx).elim (hs2 x) (hf x)
      have hle := hk.le
      by_cases hroom : es.length + fs.length ≤ cap
      · have hfit : es.length * 6 + (flatP fs).length ≤ L.length := by rw [flatP_len, hk.len]; omega
        obtain ⟨w', hrun, hG, hB⟩ := run_app_roomK (P := Try.prog) w 22 ty 54 i Try.underlying22 hi g es.length cap L _ hk.cells ⟨b, off, none⟩ fs.length d (flatP fs) (by rw [hz1, flatP_len]) hsrc (flatP_one' hf) hroom (by rw [hz1]; exact hfit)
        rw [hz1] at hG
        refine ⟨_, w', hrun, ⟨.inr ⟨g, cap, _, by rw [List.length_append], hMg, hG, (length_splice _ _ _ hfit).trans hk.len, by rw [List.length_append]; exact hroom, hk.max, ?_, ?_⟩, fun x hx => sv_blk hk hB (hall x hx)⟩, ⟨hB.os, hB.tape, hB.output, hB.size, fun k hkm => hB.block k (by omega) (by simp; omega)⟩⟩
        · rw [List.length_append, take_splice_all _ _ _ _ (by rw [flatP_len]; omega) hfit, hk.take, flatP_app]
        · intro u hu
          rcases mem_splice hu with hu | hu
          · exact hk.nu u hu
          · exact flatP_nu hf u hu
      · obtain ⟨cap', L', w', hrun, hb, hbl⟩ := run_growP w 22 ty (some ⟨g, 0, none⟩) es.length cap (flatP es) (flatP_len es) (fun _ => ⟨g, 0, rfl, fun j u hu => by rw [Nat.zero_add]; exact hk.get j u hu⟩) (flatP_nu hs2) _ fs.length (flatP fs) SRC (flatP_nu hf) (by omega) (by omega)
        refine ⟨_, w', hrun, ⟨.inr ⟨w.heap.size, cap', L', by rw [List.length_append], hM, ?_⟩, fun x hx => (hall x hx).keep (Keeps.below hbl)⟩, hbl.mono hM⟩
        rw [List.length_append, flatP_app]
        exact hb
theorem wpList_appPO {ops : Array Oper} {rest : List Oper} {o : Oper} {a : Act} {Q : Exit → Act → World → Prop} {w : World} (hw : Region.wanted o (yielded ops a.tmps) = true) (s x : Operand) (ho : o.op = .call { callee := .builtin .append, args := #[s, x], argTypes := #[22, 22] })
    (M : Nat) (v : Value) (es fs : List (Pr × Value)) (hs' : a.eval s = v) (B : Option Addr) (d : Nat) (hx : a.eval x = .slice B fs.length d) (h : PO w M v es) (hM : M ≤ w.heap.size)
    (hs : 0 < fs.length → ∃ b off, B = some ⟨b, off, none⟩ ∧ w.rangeAt b off (flatP fs)) (hf : ∀ x ∈ fs, SV w x.2 (bys x.1.c.d)) (hlen : es.length + fs.length ≤ 1000000)
    (hr : ∀ v' w', Hid (PO w' M v' (es ++ fs)) → Hid (Below M w w') → wpList Try.prog ops Q rest (a.put o.dst v') w') : wpList Try.prog ops Q (o :: rest) a w := by
  obtain ⟨v', w', hrun, h1, h2⟩ := run_appPO w M v es fs B d o.type h hM hs hf hlen
  refine wpList_runx hw _ w' ?_ (hr v' w' (Lib.hid h1) (Lib.hid h2))
  unfold execOp
  simp only [ho, resolve, invoke, builtin, Sem.run_bind, Sem.run_pure, Result.andThen_ok, List.map_toArray, List.map_cons, List.map_nil, hs', hx, hrun]
theorem run_cut9 {P : Program} {t e : TypeId} {A : Option Addr} {n c k : Nat} {kd : IntKind} (ht : P.underlying t = some (.slice e)) (hs : (P.info? e).map (·.size) = some 6) (hk : k ≤ n) (w : World) :
    (Instr.sliceAt t (.slice A n c) (some (.int kd k)) none none).run P w = .ok (.slice (if c = k then A else A.map (·.add (k * 6))) (n - k) (c - k)) w := by
  cases hq : P.info? e with
  | none => simp [hq] at hs
  | some inf =>
    have hs' : inf.size = 6 := by simpa [hq] using hs
    have h1 : (0 : Int) ≤ k ∧ (k : Int) ≤ n := by omega
    have h2 : (sizeOf e).run P w = .ok 6 w := by simp [sizeOf, typeInfo, hq, hs']
    simp [Instr.sliceAt, run_underlying ht, Instr.slice, Instr.sliceBounds, Instr.sliceBound, asIntOf, h1, h2]
    intro h; omega
/-- A part of a slice of pairs, by its cells. -/
def CutP (w : World) (l : List Pr) (v : Value) : Prop := ∃ B d, ∃ fs : List (Pr × Value), v = .slice B fs.length d ∧ fs.map (·.1) = l ∧ (0 < fs.length → ∃ b off, B = some ⟨b, off, none⟩ ∧ w.rangeAt b off (flatP fs)) ∧ ∀ x ∈ fs, SV w x.2 (bys x.1.c.d)
theorem cutP_of {w : World} {A : Option Addr} {n c : Nat} {l : List Pr} (h : PS w (.slice A n c) l) (k : Nat) (hk : k ≤ n) : CutP w (l.drop k) (.slice (if c = k then A else A.map (·.add (k * 6))) (n - k) (c - k)) := by
  obtain ⟨rfl, h1, h2⟩ := h.bd
  obtain ⟨es, he, hsv, hc⟩ := h.cells
  have hel : es.length = l.length := by rw [← he, List.length_map]
  refine ⟨_, _, es.drop k, by rw [List.length_drop, hel], by rw [List.map_drop, he], fun hp => ?_, fun x hx => hsv x (List.mem_of_mem_drop hx)⟩
  rw [List.length_drop, hel] at hp
  obtain ⟨b, off, rfl, hr⟩ := hc (by omega)
  refine ⟨b, off + k * 6, by rw [if_neg (by omega)]; simp [Addr.add_lit], fun j u hu => ?_⟩
  rw [← flatP_drop, List.getElem?_drop] at hu
  rw [Nat.add_assoc]
  exact hr _ _ hu
theorem wpList_cut9 {P : Program} {ops : Array Oper} {rest : List Oper} {o : Oper} {a : Act} {w : World} {Q : Exit → Act → World → Prop} {ty e : TypeId} (hw : Region.wanted o (yielded ops a.tmps) = true) (x i : Operand) (ho : o.op = .slice ty x (some i) none none) (hu : P.underlying ty = some (.slice e)) (hs : (P.info? e).map (·.size) = some 6)
    (A : Option Addr) (n c : Nat) (hx : a.eval x = .slice A n c) (l : List Pr) (hps : PS w (.slice A n c) l) (kd : IntKind) (j : Int) (hi : a.eval i = .int kd j) (k : Nat) (hj : j = k) (hk : k ≤ n)
    (h : ∀ v, CutP w (l.drop k) v → wpList P ops Q rest (a.put o.dst v) w) : wpList P ops Q (o :: rest) a w := by
  subst hj
  refine wpList_runx hw _ w ?_ (h _ (cutP_of hps k hk))
  have h1 := run_cut9 (P := P) (kd := kd) (A := A) (c := c) hu hs hk w
  unfold execOp
  simp only [ho, hx, hi, Option.map_some, Option.map_none, Sem.run_bind, h1, Result.andThen_ok, Sem.run_pure]

/-- A slice that reads as these pairs came back. -/
def Puts (l : List Pr) (w : World) (e : Ending) (w' : World) : Prop := ∃ v', e = .returned v' ∧ PS w' v' l ∧ Below w.heap.size w w'
end Go.Proofs.Ytejkpjaaefobnaa
