/- Step and Run: the program's. -/
import Derived.Test.YtejkpjaaefobnaaModelStepE
import Derived.Test.YtejkpjaaefobnaaModelStepR
import Derived.Test.YtejkpjaaefobnaaModelStepD
import Derived.Test.YtejkpjaaefobnaaModelStepP
namespace Go.Proofs.Ytejkpjaaefobnaa
set_option maxRecDepth 20000
open Go.RowKit Go.Sort

theorem step9_any (w : World) (M : Nat) (v : Value) (es : List (Pr × Value)) (s : List Pr) (A : Option Addr) (n c : Nat) (x : Ox) (h : PO w M v es) (hs : es.map (·.1) = s) (hst : St s) (h64 : ∀ p ∈ s, in64c p.c) (hx : SV w (.slice A n c) (bys x.b)) (hxb : x.b.length ≤ 1073741824) (hxk : x.k.length ≤ 1073741824) (hx64 : in64x x) (hlen : s.length ≤ 100000) (hM : M ≤ w.heap.size) :
    Calls Try.prog 30 #[v, ov (.slice A n c) x] w (Stepped M v s x w) := by
  cases hg : goodX x with
  | false =>
    have hn : n = x.b.length := by have := hx.bd; rw [bys_len] at this; exact this.1
    exact step_no w M v es s A n c x h hs hn (by omega) (by omega) hg
  | true =>
    by_cases h2 : (mkX (fndC s x.k) x).2 = 0
    · by_cases d0 : x.d = 0
      · exact step_read w M v es s A n c x h hs hst h64 hx hxb hx64 hg hlen h2 d0
      · by_cases hk : (mkX (fndC s x.k) x).1.k = 0
        · exact step_del w M v es s A n c x h hs hst h64 hx hxb hx64 hg hlen h2 d0 hk
        · exact step_put w M v es s A n c x h hs hst h64 hx hxb hx64 hg hlen hM h2 d0 hk
    · exact step_err w M v es s A n c x h hs hst h64 hx hxb hx64 hg hlen h2
/-- What Step comes to. -/
def Stepped9 (s : List Pr) (x : Ox) (w : World) (e : Ending) (w' : World) : Prop :=
  ∃ v' D, e = .returned (.tuple #[v', av D (stepX s x).2]) ∧ PS w' v' (stepX s x).1 ∧ SV w' D (bys (stepX s x).2.c.d) ∧ Below w.heap.size w w'
theorem st_small {s : List Pr} (h : St s) : Small s := fun p hp => by
  have h1 := good_len (h.good hp)
  have h2 := key_len (h.key hp)
  omega
theorem step_keeps {w w1 w2 w3 : World} {v1 : Value} {es : List (Pr × Value)} {t : TypeId} {cs : Array Value} (q : Whole w2 (w.heap.size + 1) t cs) (hp : PO w2 w1.drew.heap.size v1 es) (hsz : w1.heap.size = w.heap.size + 1 + 1) (hg : w2.grownBy w3 v1.ownBlock) : Whole w3 (w.heap.size + 1) t cs :=
  (hg.block _ q.lt (fun e => by have h1 := (hp.lt e.symm).1; have h2 : w1.drew.heap.size = w1.heap.size := rfl; omega)).trans q
theorem step_below {w w1 w2 w3 : World} {v1 : Value} {es : List (Pr × Value)} (hb : Below w.heap.size w w2) (hp : PO w2 w1.drew.heap.size v1 es) (hsz : w1.heap.size = w.heap.size + 1 + 1) (hg : w2.grownBy w3 v1.ownBlock) : Below w.heap.size w w3 :=
  hb.grown hg hb.size fun k hk => by have h1 := (hp.lt hk).1; have h2 : w1.drew.heap.size = w1.heap.size := rfl; omega
theorem step_far {w w1 w2 : World} {v1 v' : Value} {es : List (Pr × Value)} (hp : PO w2 w1.drew.heap.size v1 es) (hsz : w1.heap.size = w.heap.size + 1 + 1) (hb : Below w1.drew.heap.size w1.drew w2) (ho : v'.ownBlock = v1.ownBlock ∨ ∃ k, v'.ownBlock = some k ∧ w2.heap.size ≤ k) : v'.ownBlock ≠ some (w.heap.size + 1) := by
  have h2 : w1.drew.heap.size = w1.heap.size := rfl
  intro h
  rcases ho with h1 | ⟨k, h1, h3⟩
  · rw [h1] at h; have := (hp.lt h).1; omega
  · rw [h1] at h; injection h with h; have := hb.size; omega
set_option maxHeartbeats 1000000 in
theorem stepM_any (w : World) (v : Value) (s : List Pr) (A : Option Addr) (n c : Nat) (x : Ox) (h : PS w v s) (hst : St s) (h64 : ∀ p ∈ s, in64c p.c) (hx : SV w (.slice A n c) (bys x.b)) (hxb : x.b.length ≤ 1073741824) (hxk : x.k.length ≤ 1073741824) (hx64 : in64x x) (hlen : s.length ≤ 100000) :
    Calls Try.prog 11 #[v, ov (.slice A n c) x] w (Stepped9 s x w) := by
  have CC := Lib.hid (fun w' (hw : PS w' v s) => copied_any v s w' hw (by omega) (st_small hst))
  have CS := Lib.hid (fun w' M v1 es (hp : PO w' M v1 es) (he : es.map (·.1) = s) (hx' : SV w' (.slice A n c) (bys x.b)) (hM : M ≤ w'.heap.size) => step9_any w' M v1 es s A n c x hp he hst h64 hx' hxb hxk hx64 hlen hM)
  obtain ⟨Av, cv', rfl⟩ := h.slice
  have H := Lib.hid h
  have HX := Lib.hid hx
  clear h hx hst h64 hxb hxk hx64 hlen
  unfold ov kst at CS ⊢
  go_enter Try.func11, Try.ntmps11
  go_wp2
  have hbw := Lib.hid (two_more (Below.refl _ w) (.cells #[.int .i64 x.d, .string ⟨x.k.toArray⟩, .slice A n c, .int .i64 x.lo, .int .i64 x.hi, .int .i64 x.n] 36) (.cells #[.int .i64 0, .int .i64 0, .slice none 0 0, .int .i64 0, .int .i64 0, .int .i64 0] 32))
  have p3 := Lib.hid ((Whole.made w 36 #[.int .i64 x.d, .string ⟨x.k.toArray⟩, .slice A n c, .int .i64 x.lo, .int .i64 x.hi, .int .i64 x.n]).later (.cells #[.int .i64 0, .int .i64 0, .slice none 0 0, .int .i64 0, .int .i64 0, .int .i64 0] 32))
  have p5 := Lib.hid (Whole.second w (.cells #[.int .i64 x.d, .string ⟨x.k.toArray⟩, .slice A n c, .int .i64 x.lo, .int .i64 x.hi, .int .i64 x.n] 36) 32 #[.int .i64 0, .int .i64 0, .slice none 0 0, .int .i64 0, .int .i64 0, .int .i64 0])
  have hsz : ((w.alloc (.cells #[.int .i64 x.d, .string ⟨x.k.toArray⟩, .slice A n c, .int .i64 x.lo, .int .i64 x.hi, .int .i64 x.n] 36)).alloc (.cells #[.int .i64 0, .int .i64 0, .slice none 0 0, .int .i64 0, .int .i64 0, .int .i64 0] 32)).heap.size = w.heap.size + 1 + 1 := by simp
  replace hsz := Lib.hid hsz
  generalize (w.alloc (.cells #[.int .i64 x.d, .string ⟨x.k.toArray⟩, .slice A n c, .int .i64 x.lo, .int .i64 x.hi, .int .i64 x.n] 36)).alloc (.cells #[.int .i64 0, .int .i64 0, .slice none 0 0, .int .i64 0, .int .i64 0, .int .i64 0] 32) = w1 at *
  have y0 : w1.cell? ⟨w.heap.size, 0, none⟩ = some (.int .i64 x.d) := p3.out.cell 0
  have y1 : w1.cell? ⟨w.heap.size, 1, none⟩ = some (.string ⟨x.k.toArray⟩) := p3.out.cell 1
  have y2 : w1.cell? ⟨w.heap.size, 2, none⟩ = some (.slice A n c) := p3.out.cell 2
  have y3 : w1.cell? ⟨w.heap.size, 3, none⟩ = some (.int .i64 x.lo) := p3.out.cell 3
  have y4 : w1.cell? ⟨w.heap.size, 4, none⟩ = some (.int .i64 x.hi) := p3.out.cell 4
  have y5 : w1.cell? ⟨w.heap.size, 5, none⟩ = some (.int .i64 x.n) := p3.out.cell 5
  go_region_with (first
    | (go_at_call 31; refine Calls.mono (CC.out w1.drew (H.out.keep ((Keeps.below hbw.out).trans (Keeps.drew _)))) ?_; rintro e w2 ⟨v1, es, rfl, he, hp, b2⟩; have z0 : w2.cell? ⟨w.heap.size, 0, none⟩ = some (.int .i64 x.d) := ((show Whole w1.drew _ _ _ from p3.out).on b2).cell 0; have z1 : w2.cell? ⟨w.heap.size, 1, none⟩ = some (.string ⟨x.k.toArray⟩) := ((show Whole w1.drew _ _ _ from p3.out).on b2).cell 1; have z2 : w2.cell? ⟨w.heap.size, 2, none⟩ = some (.slice A n c) := ((show Whole w1.drew _ _ _ from p3.out).on b2).cell 2; have z3 : w2.cell? ⟨w.heap.size, 3, none⟩ = some (.int .i64 x.lo) := ((show Whole w1.drew _ _ _ from p3.out).on b2).cell 3; have z4 : w2.cell? ⟨w.heap.size, 4, none⟩ = some (.int .i64 x.hi) := ((show Whole w1.drew _ _ _ from p3.out).on b2).cell 4; have z5 : w2.cell? ⟨w.heap.size, 5, none⟩ = some (.int .i64 x.n) := ((show Whole w1.drew _ _ _ from p3.out).on b2).cell 5; have q5 := Lib.hid ((show Whole w1.drew _ _ _ from p5.out).on b2); have B2 := Lib.hid ((hbw.out.trans (show Below w.heap.size w1 w1.drew from ⟨rfl, rfl, rfl, Nat.le_refl _, fun _ _ => rfl⟩)).trans (b2.mono hbw.out.size)); replace he := Lib.hid he; replace hp := Lib.hid hp; replace b2 := Lib.hid b2)
    | (go_at_call 30; refine Calls.mono (CS.out w2 w1.drew.heap.size v1 es hp.out he.out (HX.out.keep (((Keeps.below hbw.out).trans (Keeps.drew _)).trans (Keeps.below b2.out))) b2.out.size) ?_; rintro e w3 ⟨v', es', D, rfl, he', hp', hD', hg', ho'⟩; obtain ⟨A1, n1, d1, rfl⟩ := sv_sl hD'; unfold av; have r5 := step_keeps q5.out hp.out hsz.out hg'; have B3 := Lib.hid (step_below B2.out hp.out hsz.out hg'); have hv' := Lib.hid (step_far hp.out hsz.out b2.out ho'); have t0 : w3.cell? ⟨w.heap.size + 1, 0, none⟩ = some (.int .i64 0) := r5.cell 0; have t1 : w3.cell? ⟨w.heap.size + 1, 1, none⟩ = some (.int .i64 0) := r5.cell 1; have t2 : w3.cell? ⟨w.heap.size + 1, 2, none⟩ = some (.slice none 0 0) := r5.cell 2; have t3 : w3.cell? ⟨w.heap.size + 1, 3, none⟩ = some (.int .i64 0) := r5.cell 3; have t4 : w3.cell? ⟨w.heap.size + 1, 4, none⟩ = some (.int .i64 0) := r5.cell 4; have t5 : w3.cell? ⟨w.heap.size + 1, 5, none⟩ = some (.int .i64 0) := r5.cell 5; have f0 := r5.free 0; have f1 := r5.free 1; have f2 := r5.free 2; have f3 := r5.free 3; have f4 := r5.free 4; have f5 := r5.free 5; replace r5 := Lib.hid r5; replace he' := Lib.hid he'; replace hp' := Lib.hid hp'; replace hD' := Lib.hid hD'; clear hg' ho'))
  all_goals
    clear t0 t1 t2 t3 t4 t5 f0 f1 f2 f3 f4 f5
    go_wp2
    have h6 := set6 r5.out (.int .i64 (stepX s x).2.e) (.int .i64 (stepX s x).2.c.k) (.slice A1 n1 d1) (.int .i64 (stepX s x).2.c.lo) (.int .i64 (stepX s x).2.c.hi) (.int .i64 (stepX s x).2.c.v)
    generalize World.setCell _ _ _ = w4 at h6 ⊢
    refine bodyPost_ret (v := .tuple #[v', .agg #[.int .i64 (stepX s x).2.e, .int .i64 (stepX s x).2.c.k, .slice A1 n1 d1, .int .i64 (stepX s x).2.c.lo, .int .i64 (stepX s x).2.c.hi, .int .i64 (stepX s x).2.c.v]]) ?_ rfl ?_
    · exact results_tmp_cell rfl _ _ (w.heap.size + 1) _ _ (0, 0) _ rfl h6.1 Try.underlying32 rfl (by kernel_rfl) _ rfl
    · exact ⟨v', .slice A1 n1 d1, rfl, he'.out ▸ (po_but r5.out zA_nu h6.2 hp'.out hv'.out).ps, sv_blk' r5.out zA_nu hD'.out h6.2, But.below B3.out h6.2 (by omega) B3.out.size⟩
end Go.Proofs.Ytejkpjaaefobnaa
