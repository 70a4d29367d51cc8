/- Bytes copied into the middle of an array; an array cut from a place on. Nothing here speaks of the program. -/
import Derived.Test.YtafmggipmaofnaaArr
import Derived.Test.YtafmggipmaofnaaPageMath
namespace Go.Proofs.Ytafmggipmaofnaa
set_option maxRecDepth 20000
open Go.RowKit Go.ChangeShapes Go.WideShapes

theorem ab_put (l c : List UInt8) (a : Nat) : ((ab l).toList.take a ++ bys c ++ (ab l).toList.drop (a + (bys c).length)).toArray = ab (putAt l a c) := by
  rw [ab_list, bys_len]
  unfold ab putAt
  congr 1
  simp [bys]
section
variable {P : Program}
/-- x[a:] of an array, by its address. -/
theorem run_cut_arr {t e : TypeId} {n a g : Nat} {k1 : IntKind} {j : Int} (ht : P.underlying t = some (.array n e)) (hs : (P.info? e).map (·.size) = some 1) (hj : j = a) (ha : a < n) (w : World) :
    (Instr.sliceAt t (.pointer (some ⟨g, 0, none⟩)) (some (.int k1 j)) none none).run P w = .ok (.slice (some ⟨g, a, none⟩) (n - a) (n - a)) w := by
  subst hj
  cases hq : P.info? e with
  | none => simp [hq] at hs
  | some inf =>
    have hs' : inf.size = 1 := by simpa [hq] using hs
    have h0 : (0 : Int) ≤ a ∧ (a : Int) ≤ n := by omega
    have h1 : a ≤ n := by omega
    have h2 : (sizeOf e).run P w = .ok 1 w := by simp [sizeOf, typeInfo, hq, hs']
    have h3 : n ≠ a := by omega
    simp [Instr.sliceAt, Instr.sureAddr, run_underlying ht, Instr.sliceBounds, Instr.sliceBound, asIntOf, h0, h1, h2, h3, Addr.add_lit]
theorem sv_ab_cut {w : World} {g : Nat} {t : TypeId} {l : List UInt8} (h : Whole w g t (ab l)) (n : Nat) (hn : l.length = n) (hm : n ≤ 1073741824) (a : Nat) (ha : a < n) : SV w (.slice (some ⟨g, a, none⟩) (n - a) (n - a)) (bys (l.drop a)) := by
  have := (sv_ab h n hn hm).cut a (by omega)
  rw [if_neg (by omega)] at this
  simpa [Addr.add_lit] using this

/-- Bytes copied to a place of an array: as many as there is room for. -/
theorem run_copy_at (w : World) (dT sT ty e : TypeId) (hu : P.underlying dT = some (.slice e)) (hsz : (P.info? e).map (·.size) = some 1)
    (g n o m c : Nat) (t : TypeId) (xv : Value) (l0 k : List UInt8) (hl0 : l0.length = n) (hm : o + m ≤ n) (hg : Whole w g t (ab l0)) (hsv : SV w xv (bys k)) :
    ∃ w', (Builtin.copy_ #[dT, sT] ty #[.slice (some ⟨g, o, none⟩) m c, xv]).run P w = .ok (goInt (k.take m).length) w' ∧ Whole w' g t (ab (putAt l0 o (k.take m))) ∧ But g w w' := by
  obtain ⟨A, c', rfl, h1, h2, h3, h4⟩ := hsv
  rw [bys_len] at h1 ⊢
  by_cases h0 : k = []
  · subst h0
    exact ⟨w, by simpa using run_copy_none (P := P) w dT sT ty e _ _ _ _ _ _ hu hsz (by simp), by simpa [putAt] using hg, But.refl g w⟩
  · have hpos := List.length_pos_iff.2 h0
    obtain ⟨b, off, rfl, hc⟩ := h4 (bys_ne hpos)
    have hlen : (bys (k.take m)).length = Nat.min k.length m := by rw [bys_len, List.length_take]; exact Nat.min_comm _ _
    have hrun := run_copy_row (P := P) w dT sT ty e g o m c ⟨b, off, none⟩ k.length c' (ab l0) t (bys (k.take m)) hu hsz hg hlen (fun j v hv => by
      rw [Addr.add_lit]
      refine hc j v ?_
      have : bys (k.take m) = (bys k).take m := by simp [bys]
      rw [this, List.getElem?_take] at hv
      split at hv
      · exact hv
      · cases hv) (by rw [hlen, ab_size]; have := Nat.min_le_right k.length m; simp only [Nat.min_def] at *; omega) (bys_one _)
    rw [ab_put, bys_len] at hrun
    exact ⟨_, hrun, setRow_heap w g (ab l0) _ t (0, 0) hg, ⟨rfl, rfl, rfl, by simp [World.setRow], fun j _ hne => setRow_other w g j _ (fun hj => hne (by rw [hj]))⟩⟩

variable {ops : Array Oper} {W : World} {C : World → Prop} {D : List Tmp} {bars : List Nat} {Q : Act → World → Prop} {o : Oper} {i : Nat} {rest : List (Oper × Nat)} {Fr : (Nat → Value) → Act} {kn : Kn}
/-- x[a:] of an array. -/
theorem f_cut_arr (hcl : Cls C) (hw : ∀ V, Region.wanted o (yielded ops (Fr V).tmps) = true) (ty : TypeId) (x y : Operand) (ho : o.op = .slice ty x (some y) none none) (g : Nat) (hx : ∀ V, (Fr V).eval x = .pointer (some ⟨g, 0, none⟩)) (e : TypeId) (n : Nat) (hu : P.underlying ty = some (.array n e)) (hs : (P.info? e).map (·.size) = some 1)
    (k1 : IntKind) (j : Int) (a : Nat) (hy : ∀ V, (Fr V).eval y = .int k1 j) (hj : j = a) (ha : a < n) (hr : wpF P ops C bars D Q rest (fun V => (Fr V).put o.dst (.slice (some ⟨g, a, none⟩) (n - a) (n - a))) kn) : wpF P ops C bars D Q ((o, i) :: rest) Fr kn :=
  f_is hcl hw (.slice (some ⟨g, a, none⟩) (n - a) (n - a)) (fun V w hb _ => by
    refine to_run (v := .slice (some ⟨g, a, none⟩) (n - a) (n - a)) (w' := w) ?_ ⟨rfl, Below.refl _ _⟩
    have := run_cut_arr (P := P) (g := g) (k1 := k1) hu hs hj ha w
    unfold execOp
    simp only [ho, hx, hy, Option.map_some, Option.map_none, Sem.run_bind, Sem.run_pure, Result.andThen_ok, this]) hr
/-- Bytes copied to a place of the class's array: a bar. -/
theorem f_copy_at {g : Nat} {t : TypeId} {l0 l1 : List UInt8} (hw : ∀ V, Region.wanted o (yielded ops (Fr V).tmps) = true) (hi : i ∈ bars) (hD : keyOf (o, i) ∈ D) (d s : Operand) (dT sT : TypeId)
    (ho : o.op = .call { callee := .builtin .copy, args := #[d, s], argTypes := #[dT, sT] }) (e : TypeId) (hu : P.underlying dT = some (.slice e)) (hsz : (P.info? e).map (·.size) = some 1)
    (n q m c : Nat) (hd : ∀ V, (Fr V).eval d = .slice (some ⟨g, q, none⟩) m c) (sv : (Nat → Value) → Value) (hs : ∀ V, (Fr V).eval s = sv V) (k : List UInt8) (hl0 : l0.length = n) (hm : q + m ≤ n) (hl1 : l1 = putAt l0 q (k.take m))
    (hsv : ∀ V w, Fill W g t l0 l1 w → knows ops o kn V w → SV w (sv V) (bys k))
    (hr : wpF P ops (Fill W g t l0 l1) bars D Q rest (fun V => (Fr V).put o.dst (V i)) [(keyOf (o, i), fun _ w => Whole w g t (ab l1))]) : wpF P ops (Fill W g t l0 l1) bars D Q ((o, i) :: rest) Fr kn :=
  f_bar (fun _ w => Whole w g t (ab l1)) hw hi hD (fun _ _ _ h hb => h.on hb) (fun V w ⟨hb, hh⟩ hk' => by
    have hkm : q + (k.take m).length ≤ l0.length := by simp; omega
    have hl : l1.length = n := by rw [hl1, putAt_len hkm, hl0]
    have hx := hsv V w ⟨hb, hh⟩ hk'
    have : ∃ w', (Builtin.copy_ #[dT, sT] o.type #[.slice (some ⟨g, q, none⟩) m c, sv V]).run P w = .ok (goInt (k.take m).length) w' ∧ Whole w' g t (ab l1) ∧ But g w w' := by
      rcases hh with hh | hh
      · rw [hl1]
        exact run_copy_at (P := P) w dT sT o.type e hu hsz g n q m c t (sv V) l0 k hl0 hm hh hx
      · have h2 := run_copy_at (P := P) w dT sT o.type e hu hsz g n q m c t (sv V) l1 k hl hm hh hx
        have e1 : putAt l1 q (k.take m) = l1 := by
          rw [hl1]
          apply List.ext_getElem?
          intro j
          rw [putAt_get (by rw [putAt_len hkm]; exact hkm), putAt_get hkm]
          repeat' split
          all_goals first | rfl | omega
        rwa [e1] at h2
    obtain ⟨w', hrun, h1, h2⟩ := this
    refine to_run (v := goInt (k.take m).length) (w' := w') ?_ ⟨h1, hb.trans h2, .inr h1⟩
    unfold execOp
    simp only [ho, resolve, invoke, builtin, Sem.run_bind, Sem.run_pure, Result.andThen_ok, List.map_toArray, List.map_cons, List.map_nil, hs, hd, hrun]) hr
end
end Go.Proofs.Ytafmggipmaofnaa
