/- Contracts of layer 1's writers: lowest and its iterator, Put, Text. -/
import Derived.RangeFuncNested
import Derived.RangeFuncBound
import Derived.RangeFuncCalls
import Derived.RangeFuncLeaves
import Derived.RangeFuncBox
import Derived.Shelf.Abstract
import Derived.Shelf.RegionOpen
import Derived.TacticsInMore
import Derived.LoopNIn
import Derived.LoopIn
import Derived.WalkSpells
import Derived.Test.YtlpgmmcdcjkkiaaDoorBeRef
namespace Go.Proofs.YtlpgmmcdcjkkiaaDoor
set_option maxRecDepth 20000
open Go.RowKit Go.Shelf

attribute [local go_sem] Oper.semAt_some

theorem beb_get (m U k : Nat) (h : k < m) : (beb m U)[k]? = some (UInt8.ofNat (U / 256 ^ (m - 1 - k) % 256)) := by
  induction m generalizing k with
  | zero => omega
  | succ m ih =>
    cases k with
    | zero => simp [beb]
    | succ k => simp only [beb, List.getElem?_cons_succ]; rw [ih k (by omega), show m + 1 - 1 - (k + 1) = m - 1 - k by omega]

/-- The box of an int still holds what it held. -/
def Holds1 (B : Nat) (W W' : World) : Prop := ∀ v, Boxed W B 3 v → Boxed W' B 3 v

theorem holds1_t {B : Nat} {a b c : World} (h : Holds1 B a b) (k : Holds1 B b c) : Holds1 B a c := fun v hv => k v (h v hv)
theorem holds1_b {B : Nat} (W : World) (l : Nat) (o o' : Obj) (h : W.heap[l]? = some o) (hc : o.isCells = false) : Holds1 B W (W.putObj l o') := by
  intro v hv
  refine hv.kept (grownBy_putObj' W l o') fun e => ?_
  injection e with e
  subst e
  rw [show W.heap[B]? = _ from hv] at h
  cases h
  cases hc

/-- What the loop of Put knows: the box of 'out', and what it holds. -/
def PutI (w : World) (v0 : Value) (l : List UInt8) (pre : List UInt8) (W : World) : Prop :=
  (∃ v, Boxed W w.heap.size 22 v ∧ (pre = [] ∧ v = v0 ∨ pre ≠ [] ∧ W.ownsRow w.heap.size 5 1 v (l ++ pre).length (bys (l ++ pre)))) ∧ Below w.heap.size w W
theorem putI_own (w : World) (v0 : Value) (l : List UInt8) (B : Nat) (hB : w.heap.size ≤ B) : OwnFrom B (PutI w v0 l) := by
  rintro s X Y row ⟨⟨v, hv, h⟩, hb⟩ hg hrow
  have hrow' : ∀ r, row = some r → ∃ o : Obj, X.heap[r]? = some o ∧ o.isCells = false := fun r e => (hrow r e).2
  refine ⟨⟨v, hv.kept hg (fun e' => ?_), ?_⟩, hb.grown hg hb.size fun k hk => by have := (hrow k hk).1; omega⟩
  · obtain ⟨o, ho, hc⟩ := hrow' _ e'.symm
    rw [show X.heap[w.heap.size]? = _ from hv] at ho; cases ho; cases hc
  · rcases h with h | ⟨hne, hr⟩
    · exact .inl h
    · refine .inr ⟨hne, hr.kept hg ?_⟩
      rcases hr.2 with ⟨rfl, _⟩ | ⟨g, cap, cur, rfl, _, hgb, _⟩
      · exact .inl rfl
      · refine .inr fun e' => ?_
        obtain ⟨o, ho, hc⟩ := hrow' g (by simpa [Value.ownBlock] using e'.symm)
        rw [hgb] at ho; cases ho; cases hc

/-- bytes.Clone: the same bytes in new memory. -/
theorem clone_any (v : Value) (l : List UInt8) (w : World) (hl : l.length ≤ 1073741824) (hv : SV w v (bys l)) :
    Calls Tryd.prog 54 #[v] w fun e w' => ∃ v, e = .returned v ∧ w'.ownsRow w.heap.size 5 1 v l.length (bys l) ∧ Below w.heap.size w w' := by
  obtain ⟨i0, hi, hz0, hz1, hz2⟩ := info_parts Tryd.info5
  have hv' := hv
  obtain ⟨A, c, rfl, h1, h2, h3, h4⟩ := hv
  rw [bys_len] at hv' h1 ⊢
  cases A with
  | none =>
    have h0 : l = [] := List.eq_nil_of_length_eq_zero (by have := h3 rfl; omega)
    subst h0
    obtain rfl : c = 0 := h3 rfl
    have hnil := Lib.run_eql_slice_nil (P := Tryd.prog) w 22 5 none 0 0 0 0 Tryd.underlying22
    go_enter Tryd.func54, Tryd.ntmps54
    go_wp2
    go_ret
    exact ⟨_, rfl, World.ownsRow_nil _ _ _ _, Below.refl _ _⟩
  | some ad =>
    clear h4 h3
    have hnil := Lib.run_eql_slice_nil (P := Tryd.prog) w 22 5 (some ad) l.length c 0 0 Tryd.underlying22
    go_enter Tryd.func54, Tryd.ntmps54
    go_wp2_with (at_builtin; refine wpList_app _ rfl _ _ 22 rfl w.heap.size 5 i0 (.int .u8 0) 1 Tryd.underlying22 hi hz0 hz1 hz2 rfl _ [] rfl (.inl (World.ownsRow_lit w #[] 0 (Nat.le_refl _) (by decide) rfl)) _ (bys l) rfl (hv'.keep (Keeps.alloc _ _)) (bys_one _) (by simp [maxLen]; omega) (by simp; omega) (by simp) ?_; intro v' w1 happ)
    go_ret
    exact ⟨_, rfl, by simpa using happ.own (.inr (World.ownsRow_lit w #[] 0 (Nat.le_refl _) (by decide) rfl)), ((Below.refl _ w).alloc (Nat.le_refl _) _).trans (happ.below (by simp))⟩
end Go.Proofs.YtlpgmmcdcjkkiaaDoor
