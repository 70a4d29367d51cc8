/- Step and Run: the program's. -/
import Derived.Test.YtlpgmmcdcjkkiaaDoorModelStepE
import Derived.Test.YtlpgmmcdcjkkiaaDoorModelStepR
import Derived.Test.YtlpgmmcdcjkkiaaDoorModelStepD
import Derived.Test.YtlpgmmcdcjkkiaaDoorModelStepP
namespace Go.Proofs.YtlpgmmcdcjkkiaaDoor
set_option maxRecDepth 20000
open Go.RowKit Go.Sort

theorem step9_any (w : World) (M : Nat) (v : Value) (es : List (Pr × Value)) (s : List Pr) (A : Option Addr) (n c : Nat) (x : Ox) (h : PO w M v es) (hs : es.map (·.1) = s) (hst : St s) (h64 : ∀ p ∈ s, in64c p.c) (hx : SV w (.slice A n c) (bys x.b)) (hxb : x.b.length ≤ 1073741824) (hxk : x.k.length ≤ 1073741824) (hx64 : in64x x) (hlen : s.length ≤ 100000) (hM : M ≤ w.heap.size) :
    Calls Tryd.prog 34 #[v, ov (.slice A n c) x] w (Stepped M v s x w) := by
  cases hg : goodX x with
  | false =>
    have hn : n = x.b.length := by have := hx.bd; rw [bys_len] at this; exact this.1
    exact step_no w M v es s A n c x h hs hn (by omega) (by omega) hg
  | true =>
    by_cases h2 : (mkX (fndC s x.k) x).2 = 0
    · by_cases d0 : x.d = 0
      · exact step_read w M v es s A n c x h hs hst h64 hx hxb hx64 hg hlen h2 d0
      · by_cases hk : (mkX (fndC s x.k) x).1.k = 0
        · exact step_del w M v es s A n c x h hs hst h64 hx hxb hx64 hg hlen h2 d0 hk
        · exact step_put w M v es s A n c x h hs hst h64 hx hxb hx64 hg hlen hM h2 d0 hk
    · exact step_err w M v es s A n c x h hs hst h64 hx hxb hx64 hg hlen h2
/-- What Step comes to. -/
def Stepped9 (s : List Pr) (x : Ox) (w : World) (e : Ending) (w' : World) : Prop :=
  ∃ v' D, e = .returned (.tuple #[v', av D (stepX s x).2]) ∧ PS w' v' (stepX s x).1 ∧ SV w' D (bys (stepX s x).2.c.d) ∧ Below w.heap.size w w'
theorem st_small {s : List Pr} (h : St s) : Small s := fun p hp => by
  have h1 := good_len (h.good hp)
  have h2 := key_len (h.key hp)
  omega
theorem step_keeps {w w1 w2 w3 : World} {v1 : Value} {es : List (Pr × Value)} {t : TypeId} {cs : Array Value} (q : Whole w2 (w.heap.size + 1) t cs) (hp : PO w2 w1.drew.heap.size v1 es) (hsz : w1.heap.size = w.heap.size + 1 + 1) (hg : w2.grownBy w3 v1.ownBlock) : Whole w3 (w.heap.size + 1) t cs :=
  (hg.block _ q.lt (fun e => by have h1 := (hp.lt e.symm).1; have h2 : w1.drew.heap.size = w1.heap.size := rfl; omega)).trans q
theorem step_below {w w1 w2 w3 : World} {v1 : Value} {es : List (Pr × Value)} (hb : Below w.heap.size w w2) (hp : PO w2 w1.drew.heap.size v1 es) (hsz : w1.heap.size = w.heap.size + 1 + 1) (hg : w2.grownBy w3 v1.ownBlock) : Below w.heap.size w w3 :=
  hb.grown hg hb.size fun k hk => by have h1 := (hp.lt hk).1; have h2 : w1.drew.heap.size = w1.heap.size := rfl; omega
theorem step_far {w w1 w2 : World} {v1 v' : Value} {es : List (Pr × Value)} (hp : PO w2 w1.drew.heap.size v1 es) (hsz : w1.heap.size = w.heap.size + 1 + 1) (hb : Below w1.drew.heap.size w1.drew w2) (ho : v'.ownBlock = v1.ownBlock ∨ ∃ k, v'.ownBlock = some k ∧ w2.heap.size ≤ k) : v'.ownBlock ≠ some (w.heap.size + 1) := by
  have h2 : w1.drew.heap.size = w1.heap.size := rfl
  intro h
  rcases ho with h1 | ⟨k, h1, h3⟩
  · rw [h1] at h; have := (hp.lt h).1; omega
  · rw [h1] at h; injection h with h; have := hb.size; omega
end Go.Proofs.YtlpgmmcdcjkkiaaDoor
