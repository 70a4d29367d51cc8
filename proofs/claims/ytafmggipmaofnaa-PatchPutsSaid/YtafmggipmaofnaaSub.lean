/- Parts of byte slices, told by what they read as: x[k:], x[:k], x[a:b], in a walk and in a region that draws its order. Nothing here speaks of the program. -/
import Derived.Test.YtafmggipmaofnaaArr
namespace Go.Proofs.Ytafmggipmaofnaa
set_option maxRecDepth 20000
open Go.RowKit Go.Sort

section
variable {P : Program} {e : TypeId} {ty : TypeId}
theorem run_cutsv (hu : P.underlying ty = some (.slice e)) (hs : (P.info? e).map (·.size) = some 1) {w : World} {xv : Value} {l : List UInt8} (hsv : SV w xv (bys l)) (kd : IntKind) (j : Int) (k : Nat) (hj : j = k) (hk : k ≤ l.length) :
    ∃ v, (Instr.sliceAt ty xv (some (.int kd j)) none none).run P w = .ok v w ∧ SV w v (bys (l.drop k)) := by
  have h0 := hsv
  obtain ⟨A, c, rfl, h1, h2, h3, h4⟩ := hsv
  subst hj
  rw [bys_len] at h0 ⊢
  exact ⟨_, run_cut hu hs hk w, h0.cut k hk⟩
theorem run_takesv (hu : P.underlying ty = some (.slice e)) (hs : (P.info? e).map (·.size) = some 1) {w : World} {xv : Value} {l : List UInt8} (hsv : SV w xv (bys l)) (kd : IntKind) (j : Int) (k : Nat) (hj : j = k) (hk : k ≤ l.length) :
    ∃ v, (Instr.sliceAt ty xv none (some (.int kd j)) none).run P w = .ok v w ∧ SV w v (bys (l.take k)) := by
  have h0 := hsv
  obtain ⟨A, c, rfl, h1, h2, h3, h4⟩ := hsv
  subst hj
  rw [bys_len] at h0 h1 ⊢
  refine ⟨_, run_take hu hs (by omega) w, ?_⟩
  have := h0.takev k hk
  rwa [show (bys l).take k = bys (l.take k) by simp [bys]] at this
theorem run_midsv (hu : P.underlying ty = some (.slice e)) (hs : (P.info? e).map (·.size) = some 1) {w : World} {xv : Value} {l : List UInt8} (hsv : SV w xv (bys l)) (k1 k2 : IntKind) (i j : Int) (a n : Nat) (hi : i = a) (hj : j = (a + n : Nat)) (hk : a + n ≤ l.length) :
    ∃ v, (Instr.sliceAt ty xv (some (.int k1 i)) (some (.int k2 j)) none).run P w = .ok v w ∧ SV w v (bys ((l.drop a).take n)) := by
  have h0 := hsv
  obtain ⟨A, c, rfl, h1, h2, h3, h4⟩ := hsv
  rw [bys_len] at h0 h1 ⊢
  refine ⟨_, run_mid hu hs hi hj (by omega) (by omega) w, ?_⟩
  have := h0.mid8 a (a + n) (by omega) hk
  rwa [show a + n - a = n by omega] at this ⊢

variable {ops : Array Oper} {rest : List Oper} {o : Oper} {a : Act} {w : World} {Q : Exit → Act → World → Prop}
theorem wpList_runv (hw : Region.wanted o (yielded ops a.tmps) = true) (R : Value → Prop) (hr : ∃ v, (execOp a.eval o).run P w = .ok (.value v) w ∧ R v) (h : ∀ v, R v → wpList P ops Q rest (a.put o.dst v) w) : wpList P ops Q (o :: rest) a w :=
  wpList_step fun K hK => by
    rw [if_pos hw]
    obtain ⟨v, h1, h2⟩ := hr
    unfold Oper.wp
    rw [h1]
    exact hK _ _ (h v h2)
theorem wpList_cutsv (hw : Region.wanted o (yielded ops a.tmps) = true) (x i : Operand) (ho : o.op = .slice ty x (some i) none none) (hu : P.underlying ty = some (.slice e)) (hs : (P.info? e).map (·.size) = some 1)
    (xv : Value) (hx : a.eval x = xv) (l : List UInt8) (hsv : SV w xv (bys l)) (kd : IntKind) (j : Int) (hi : a.eval i = .int kd j) (k : Nat) (hj : j = k) (hk : k ≤ l.length)
    (h : ∀ v, Hid (SV w v (bys (l.drop k))) → wpList P ops Q rest (a.put o.dst v) w) : wpList P ops Q (o :: rest) a w :=
  wpList_runv hw (fun v => SV w v (bys (l.drop k))) (by
    obtain ⟨v, h1, h2⟩ := run_cutsv (P := P) hu hs hsv kd j k hj hk
    refine ⟨v, ?_, h2⟩
    unfold execOp
    simp only [ho, hx, hi, Option.map_some, Option.map_none, Sem.run_bind, h1, Result.andThen_ok, Sem.run_pure]) fun v hv => h v (Lib.hid hv)
theorem wpList_takesv (hw : Region.wanted o (yielded ops a.tmps) = true) (x i : Operand) (ho : o.op = .slice ty x none (some i) none) (hu : P.underlying ty = some (.slice e)) (hs : (P.info? e).map (·.size) = some 1)
    (xv : Value) (hx : a.eval x = xv) (l : List UInt8) (hsv : SV w xv (bys l)) (kd : IntKind) (j : Int) (hi : a.eval i = .int kd j) (k : Nat) (hj : j = k) (hk : k ≤ l.length)
    (h : ∀ v, Hid (SV w v (bys (l.take k))) → wpList P ops Q rest (a.put o.dst v) w) : wpList P ops Q (o :: rest) a w :=
  wpList_runv hw (fun v => SV w v (bys (l.take k))) (by
    obtain ⟨v, h1, h2⟩ := run_takesv (P := P) hu hs hsv kd j k hj hk
    refine ⟨v, ?_, h2⟩
    unfold execOp
    simp only [ho, hx, hi, Option.map_some, Option.map_none, Sem.run_bind, h1, Result.andThen_ok, Sem.run_pure]) fun v hv => h v (Lib.hid hv)
theorem wpList_midsv (hw : Region.wanted o (yielded ops a.tmps) = true) (x y z : Operand) (ho : o.op = .slice ty x (some y) (some z) none) (hu : P.underlying ty = some (.slice e)) (hs : (P.info? e).map (·.size) = some 1)
    (xv : Value) (hx : a.eval x = xv) (l : List UInt8) (hsv : SV w xv (bys l)) (k1 k2 : IntKind) (i j : Int) (hy : a.eval y = .int k1 i) (hz : a.eval z = .int k2 j) (b n : Nat) (hi : i = b) (hj : j = (b + n : Nat)) (hk : b + n ≤ l.length)
    (h : ∀ v, Hid (SV w v (bys ((l.drop b).take n))) → wpList P ops Q rest (a.put o.dst v) w) : wpList P ops Q (o :: rest) a w :=
  wpList_runv hw (fun v => SV w v (bys ((l.drop b).take n))) (by
    obtain ⟨v, h1, h2⟩ := run_midsv (P := P) hu hs hsv k1 k2 i j b n hi hj hk
    refine ⟨v, ?_, h2⟩
    unfold execOp
    simp only [ho, hx, hy, hz, Option.map_some, Option.map_none, Sem.run_bind, h1, Result.andThen_ok, Sem.run_pure]) fun v hv => h v (Lib.hid hv)
end
section
variable {P : Program} {e : TypeId} {ty : TypeId} {ops : Array Oper} {W : World} {C : World → Prop} {D : List Tmp} {bars : List Nat} {Q : Act → World → Prop} {o : Oper} {i : Nat} {rest : List (Oper × Nat)} {Fr : (Nat → Value) → Act} {kn : Kn}
theorem f_cutsv (hcl : Cls C) (hw : ∀ V, Region.wanted o (yielded ops (Fr V).tmps) = true) (hD : keyOf (o, i) ∈ D) (x y : Operand) (ho : o.op = .slice ty x (some y) none none) (hu : P.underlying ty = some (.slice e)) (hs : (P.info? e).map (·.size) = some 1)
    (xv : (Nat → Value) → Value) (hx : ∀ V, (Fr V).eval x = xv V) (l : List UInt8) (hsv : ∀ V w, C w → knows ops o kn V w → SV w (xv V) (bys l)) (kd : IntKind) (j : Int) (hy : ∀ V, (Fr V).eval y = .int kd j) (k : Nat) (hj : j = k) (hk : k ≤ l.length)
    (hr : wpF P ops C bars D Q rest (fun V => (Fr V).put o.dst (V i)) ((keyOf (o, i), fun V => fSV (bys (l.drop k)) (V i)) :: kn)) : wpF P ops C bars D Q ((o, i) :: rest) Fr kn :=
  f_fact hcl _ hw hD (stays_sv _) (fun V w hb hk' => by
    obtain ⟨v, h1, h2⟩ := run_cutsv (P := P) hu hs (hsv V w hb hk') kd j k hj hk
    refine to_run (v := v) (w' := w) ?_ ⟨h2, Below.refl _ _⟩
    unfold execOp
    simp only [ho, hx, hy, Option.map_some, Option.map_none, Sem.run_bind, h1, Result.andThen_ok, Sem.run_pure]) hr
theorem f_midsv (hcl : Cls C) (hw : ∀ V, Region.wanted o (yielded ops (Fr V).tmps) = true) (hD : keyOf (o, i) ∈ D) (x y z : Operand) (ho : o.op = .slice ty x (some y) (some z) none) (hu : P.underlying ty = some (.slice e)) (hs : (P.info? e).map (·.size) = some 1)
    (xv : (Nat → Value) → Value) (hx : ∀ V, (Fr V).eval x = xv V) (l : List UInt8) (hsv : ∀ V w, C w → knows ops o kn V w → SV w (xv V) (bys l)) (k1 k2 : IntKind) (j1 j2 : Int) (hy : ∀ V, (Fr V).eval y = .int k1 j1) (hz : ∀ V, (Fr V).eval z = .int k2 j2) (b n : Nat) (hi : j1 = b) (hj : j2 = (b + n : Nat)) (hk : b + n ≤ l.length)
    (hr : wpF P ops C bars D Q rest (fun V => (Fr V).put o.dst (V i)) ((keyOf (o, i), fun V => fSV (bys ((l.drop b).take n)) (V i)) :: kn)) : wpF P ops C bars D Q ((o, i) :: rest) Fr kn :=
  f_fact hcl _ hw hD (stays_sv _) (fun V w hb hk' => by
    obtain ⟨v, h1, h2⟩ := run_midsv (P := P) hu hs (hsv V w hb hk') k1 k2 j1 j2 b n hi hj hk
    refine to_run (v := v) (w' := w) ?_ ⟨h2, Below.refl _ _⟩
    unfold execOp
    simp only [ho, hx, hy, hz, Option.map_some, Option.map_none, Sem.run_bind, h1, Result.andThen_ok, Sem.run_pure]) hr
end
end Go.Proofs.Ytafmggipmaofnaa
