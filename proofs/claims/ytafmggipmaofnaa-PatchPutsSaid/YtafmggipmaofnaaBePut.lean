/- Contracts of layer 1's writers: lowest and its iterator, Put, Text. -/
import Derived.RangeFuncNested
import Derived.RangeFuncBound
import Derived.RangeFuncCalls
import Derived.RangeFuncLeaves
import Derived.RangeFuncBox
import Derived.Shelf.Abstract
import Derived.Shelf.RegionOpen
import Derived.TacticsInMore
import Derived.LoopNIn
import Derived.LoopIn
import Derived.WalkSpells
import Derived.Test.YtafmggipmaofnaaBeRef
namespace Go.Proofs.Ytafmggipmaofnaa
set_option maxRecDepth 20000
open Go.RowKit Go.Shelf

attribute [local go_sem] Oper.semAt_some

theorem beb_get (m U k : Nat) (h : k < m) : (beb m U)[k]? = some (UInt8.ofNat (U / 256 ^ (m - 1 - k) % 256)) := by
  induction m generalizing k with
  | zero => omega
  | succ m ih =>
    cases k with
    | zero => simp [beb]
    | succ k => simp only [beb, List.getElem?_cons_succ]; rw [ih k (by omega), show m + 1 - 1 - (k + 1) = m - 1 - k by omega]

/-- The box of an int still holds what it held. -/
def Holds1 (B : Nat) (W W' : World) : Prop := ∀ v, Boxed W B 3 v → Boxed W' B 3 v

set_option maxRecDepth 100000 in
set_option maxHeartbeats 1000000 in
theorem low1_in (F : Fence) (n : Nat) (h16 : F.fn 52) (hro : F.round = none) (hn : 1 ≤ n) (l Bw Bn m : Nat) (hm : m ≤ 8) (x : Int) (J Jx : List UInt8 → World → Prop)
    (hY : ∀ pre y W, J pre W → pre.length < m → YieldAt F (n - 1) Try.prog l #[.int .u8 (y : UInt8).toNat] W fun e W' =>
      (e = .returned (.bool true) ∧ J (pre ++ [y]) W' ∧ Holds1 Bn W W') ∨ (e = .returned (.bool false) ∧ Jx (pre ++ [y]) W'))
    (W : World) (hBw : W.cell? ⟨Bw, 0, none⟩ = some (.int .i64 m)) (hBn : Boxed W Bn 3 (.int .i64 x)) (h0 : J [] W) :
    CallsIn F n Try.prog 52 #[.func (.yield l) #[] #[], .pointer (some ⟨Bw, 0, none⟩), .pointer (some ⟨Bn, 0, none⟩)] W fun e W' => (∃ v, e = .returned v) ∧
      ((∃ ys, ys = beb m (ub x) ∧ J ys W') ∨ (∃ pre, pre <+: beb m (ub x) ∧ Jx pre W')) := by
  refine callsIn_of_wp Try.func52 rfl h16 ?_ hro
  simp only [Try.ntmps52, List.size_toArray, List.length_cons, List.length_nil, Nat.reduceAdd, Nat.reduceSub, Array.replicate_succ, Array.replicate_zero, List.push_toArray, List.append_toArray, List.nil_append, List.cons_append]
  gi_wp2
  gi_loopw [4] (fun i wr => ∃ k : Nat, k ≤ m ∧ i = .int .i64 ((m : Int) - 1 - k) ∧ J ((beb m (ub x)).take k) wr ∧ Boxed wr Bn 3 (.int .i64 x))
    (fun i _ => (intOf i + 1).toNat)
  case atStart => exact ⟨0, by omega, by simp, by simpa using h0, hBn⟩
  case round =>
    obtain ⟨k, hk, rfl, hJ, hbx⟩ := hrel
    have hc := hbx.cell
    by_cases hlt : k < m
    · obtain ⟨fn, tmps, assign, body, hy, hR⟩ := hY _ (UInt8.ofNat (ub x / 256 ^ (m - 1 - k) % 256)) wr hJ (by simp; omega)
      have hpos : 0 ≤ (m : Int) - 1 - k := by omega
      rw [byte_of x (m - 1 - k) (by omega)] at hy
      have HG := Lib.hid (show (beb m (ub x)).take k ++ [UInt8.ofNat (ub x / 256 ^ (m - 1 - k) % 256)] = (beb m (ub x)).take (k + 1) by
        rw [List.take_add_one, beb_get m (ub x) k hlt]; rfl)
      gi_wp2
      refine hR.mono ?_
      rw [HG.out]
      rintro e W3 (⟨rfl, hJ3, hk3⟩ | ⟨rfl, hJx3⟩)
      · have hc3 := hk3 _ hbx
        gi_wp2
        go_roundw
        case rel => exact ⟨k + 1, by omega, by go_num, hJ3, hc3⟩
        case measure => simp [intOf]; omega
      · gi_wp2
        refine bodyPost_ret (results_none rfl _ _ _) rfl ?_
        exact ⟨⟨_, rfl⟩, .inr ⟨_, List.take_prefix _ _, hJx3⟩⟩
    · obtain rfl : k = m := by omega
      gi_wp2
      go_end0
      refine ⟨⟨_, rfl⟩, .inl ⟨_, rfl, ?_⟩⟩
      rwa [List.take_of_length_le (by simp)] at hJ

set_option maxHeartbeats 400000 in
theorem low_in (F : Fence) (n : Nat) (h : F.fn 49) (hro : F.round = none) (m x : Int) (w : World) :
    CallsIn F n Try.prog 49 #[.int .i64 m, .int .i64 x] w fun e w' => e = .returned (.func (.func 52) #[] #[.pointer (some ⟨w.heap.size, 0, none⟩), .pointer (some ⟨w.heap.size + 1, 0, none⟩)]) ∧
      w' = (w.alloc (.cells #[.int .i64 m] 3)).alloc (.cells #[.int .i64 x] 3) := by
  refine callsIn_of_wp Try.func49 rfl h ?_ hro
  simp only [Try.ntmps49, List.size_toArray, List.length_cons, List.length_nil, Nat.reduceAdd, Nat.reduceSub, Array.replicate_succ, Array.replicate_zero, List.push_toArray, List.append_toArray, List.nil_append, List.cons_append]
  gi_wp2
  go_ret
  exact ⟨rfl, rfl⟩

theorem low_stops (F : Fence) (n : Nat) (h : F.fn 52) (hro : F.round = none) (hn : 1 ≤ n) (Bw Bn m : Nat) (hm : m ≤ 8) (x : Int) (w : World) (hBw : Boxed w Bw 3 (.int .i64 m)) (hBn : Boxed w Bn 3 (.int .i64 x)) :
    SeqStopsK F n Try.prog 52 #[.pointer (some ⟨Bw, 0, none⟩), .pointer (some ⟨Bn, 0, none⟩)] (fun y : UInt8 => #[Value.int .u8 y.toNat]) (Holds1 Bn) (fun ys => ys = beb m (ub x)) (fun pre => pre <+: beb m (ub x)) m w :=
  fun l J Jx W hW _ _ hY h0 => low1_in F n h hro hn l Bw Bn m hm x J Jx hY W ((hW.cell (p := ⟨Bw, 0, none⟩) hBw.lt).trans hBw.cell) ((hW.block Bn hBn.lt).trans hBn) h0

theorem holds1_t {B : Nat} {a b c : World} (h : Holds1 B a b) (k : Holds1 B b c) : Holds1 B a c := fun v hv => k v (h v hv)
theorem holds1_b {B : Nat} (W : World) (l : Nat) (o o' : Obj) (h : W.heap[l]? = some o) (hc : o.isCells = false) : Holds1 B W (W.putObj l o') := by
  intro v hv
  refine hv.kept (grownBy_putObj' W l o') fun e => ?_
  injection e with e
  subst e
  rw [show W.heap[B]? = _ from hv] at h
  cases h
  cases hc

/-- What the loop of Put knows: the box of 'out', and what it holds. -/
def PutI (w : World) (v0 : Value) (l : List UInt8) (pre : List UInt8) (W : World) : Prop :=
  (∃ v, Boxed W w.heap.size 32 v ∧ (pre = [] ∧ v = v0 ∨ pre ≠ [] ∧ W.ownsRow w.heap.size 5 1 v (l ++ pre).length (bys (l ++ pre)))) ∧ Below w.heap.size w W
theorem putI_own (w : World) (v0 : Value) (l : List UInt8) (B : Nat) (hB : w.heap.size ≤ B) : OwnFrom B (PutI w v0 l) := by
  rintro s X Y row ⟨⟨v, hv, h⟩, hb⟩ hg hrow
  have hrow' : ∀ r, row = some r → ∃ o : Obj, X.heap[r]? = some o ∧ o.isCells = false := fun r e => (hrow r e).2
  refine ⟨⟨v, hv.kept hg (fun e' => ?_), ?_⟩, hb.grown hg hb.size fun k hk => by have := (hrow k hk).1; omega⟩
  · obtain ⟨o, ho, hc⟩ := hrow' _ e'.symm
    rw [show X.heap[w.heap.size]? = _ from hv] at ho; cases ho; cases hc
  · rcases h with h | ⟨hne, hr⟩
    · exact .inl h
    · refine .inr ⟨hne, hr.kept hg ?_⟩
      rcases hr.2 with ⟨rfl, _⟩ | ⟨g, cap, cur, rfl, _, hgb, _⟩
      · exact .inl rfl
      · refine .inr fun e' => ?_
        obtain ⟨o, ho, hc⟩ := hrow' g (by simpa [Value.ownBlock] using e'.symm)
        rw [hgb] at ho; cases ho; cases hc

set_option maxRecDepth 100000 in
set_option maxHeartbeats 2000000 in
theorem put_in (A : Option Addr) (c : Nat) (l : List UInt8) (m : Nat) (x : Int) (w : World) (hl : l.length ≤ 1073741824) (hv : SV w (.slice A l.length c) (bys l)) (m1 : 1 ≤ m) (m8 : m ≤ 8) :
    CallsIn Fence.wide 3 Try.prog 42 #[.slice A l.length c, .int .i64 m, .int .i64 x] w fun e w' => ∃ v, e = .returned v ∧ w'.ownsRow w.heap.size 5 1 v (l.length + m) (bys (l ++ beb m (ub x))) ∧ Below w.heap.size w w' := by
  refine callsIn_of_wp_marks Try.func42 rfl trivial ?_ rfl
  simp only [Try.ntmps42, List.size_toArray, List.length_cons, List.length_nil, Nat.reduceAdd, Nat.reduceSub, Array.replicate_succ, Array.replicate_zero, List.push_toArray, List.append_toArray, List.nil_append, List.cons_append]
  have hc : l.length ≤ c := by
    obtain ⟨A', c', e, h, _⟩ := hv
    injection e with _ _ e
    rw [bys_len] at h
    omega
  have hm : c ≤ 9223372036854775807 := by
    obtain ⟨A', c', e, _, h, _⟩ := hv
    injection e with _ _ e
    unfold maxLen at h
    omega
  have hF : ∀ f, Fence.wide.fn f := fun _ => trivial
  gi_wp2_with (first
    | (gi_at_call 46; refine (callsIn_wide.2 (fits_yes _ _ (by omega) (by omega))).mono ?_; rintro e w' ⟨rfl, rfl⟩)
    | (gi_at_call 49; refine (low_in Fence.wide _ trivial rfl _ _ _).mono ?_; rintro e w' ⟨rfl, rfl⟩))
  have bO := Boxed.new w 32 (.slice A l.length l.length)
  have bW := Boxed.new (w.alloc (.cells #[.slice A l.length l.length] 32)) 3 (.int .i64 m)
  have bN := Boxed.new ((w.alloc (.cells #[.slice A l.length l.length] 32)).alloc (.cells #[.int .i64 m] 3)) 3 (.int .i64 x)
  rw [World.size_alloc] at bW
  rw [World.size_alloc, World.size_alloc] at bN
  have hB0 : Below w.heap.size w (((w.alloc (.cells #[.slice A l.length l.length] 32)).alloc (.cells #[.int .i64 m] 3)).alloc (.cells #[.int .i64 x] 3)) :=
    (((Below.refl _ w).alloc (Nat.le_refl _) _).alloc (by simp) _).alloc (by simp; omega) _
  have hv0 : SV w (.slice A l.length l.length) (bys l) := by
    obtain ⟨A', c', e, h1, h2, h3, h4⟩ := hv
    injection e with e1 _ e2
    subst e1 e2
    refine ⟨A, l.length, by rw [bys_len], by rw [bys_len]; exact Nat.le_refl _, by unfold maxLen; omega, fun h => ?_, h4⟩
    have := h3 h
    omega
  refine wpIn_rangeFunc_ownG rfl (by decide) (gf := 52) (lb := #[.pointer (some ⟨w.heap.size + 1, 0, none⟩), .pointer (some ⟨w.heap.size + 1 + 1, 0, none⟩)]) rfl trivial (enters_of Try.func52 (by kernel_rfl) rfl)
    (low_stops Fence.wide _ trivial rfl (by decide) (w.heap.size + 1) (w.heap.size + 1 + 1) m m8 x _ (bW.alloc _) bN) holds1_t (fun W l o o' _ h hc _ => holds1_b W l o o' h hc) (Below.refl _ _) (fun _ => rfl)
    (PutI w (.slice A l.length l.length) l) (fun _ _ _ => False) (putI_own w _ l _ (by simp; omega)) (fun _ _ _ _ _ hs _ _ => hs)
    ⟨⟨_, (bO.alloc _).alloc _, .inl ⟨rfl, rfl⟩⟩, hB0⟩
    (fun y => { tmps := #[.slice A l.length c, .int .i64 m, .int .i64 x, undef, undef, undef, .slice none 0 0, .pointer (some ⟨w.heap.size, 0, none⟩), .int .u8 y.toNat,
          .int .i64 m, .bool true, .bool false, undef, undef, .slice A l.length c, .slice A l.length c, .int .i64 l.length, .slice A l.length c,
          .int .i64 l.length, .slice A l.length l.length, .int .i64 m, .int .i64 x,
          .func (.func 52) #[] #[.pointer (some ⟨w.heap.size + 1, 0, none⟩), .pointer (some ⟨w.heap.size + 1 + 1, 0, none⟩)],
          .int .u8 y.toNat, undef, undef, undef, undef, undef], defers := [] }) ?assign ?body ?done ?stop
  case assign =>
    intro l x W K hK
    gi_wp2
    exact hK
  case body =>
    rintro lp pre y W ⟨⟨v, hbx, hdst⟩, hB⟩ hlt
    have hd : Dst W w.heap.size 5 v (bys (l ++ pre)) := by
      rcases hdst with ⟨rfl, rfl⟩ | ⟨_, h⟩
      · exact .inr ⟨by rw [List.append_nil]; exact hv0.keep (Keeps.below hB), A, by simp⟩
      · exact .inl (by simpa using h)
    have hc1 := hbx.cell
    obtain ⟨i0, hi, hz0, hz1, hz2⟩ := info_parts Try.info5
    have HS := Lib.hid hB.size
    have HL := Lib.hid (show pre.length ≤ 8 by omega)
    gi_wp2_with (gi_at_builtin; refine wpListIn_app _ rfl _ _ 32 rfl w.heap.size 5 i0 (.int .u8 0) 1 Try.underlying32 hi hz0 hz1 hz2 rfl v (bys (l ++ pre)) rfl (hd.alloc _) _ [.int .u8 y.toNat] rfl (SV.lit1 _ _ _) (by simp [Value.oneCell']) (by have := HL.out; simp [maxLen]; omega) (by have := HL.out; simp; omega) (by have := HS.out; simp; omega) ?_; intro v' w1 happ; have hown := happ.own (.inl (by simp)); obtain ⟨g', cap', rfl⟩ := own_pos hown (by simp); have hbx1 := happ.boxed (hbx.alloc _) (by decide); have hc2 := hbx1.cell; have hf2 := hbx1.frozen)
    refine ⟨(((KeepsOthers.alloc W _).trans happ.others).trans (KeepsOthers.setCell _ _ _)).from _, fun u hu => box_far (happ.boxed (hu.alloc _) (by decide)) (by omega) _, ⟨_, hbx1.set _, .inr ⟨by simp, ?_⟩⟩, ?_⟩
    · have e : bys (l ++ pre) ++ [Value.int .u8 y.toNat] = bys (l ++ (pre ++ [y])) := by simp [bys]
      have := hown.kept (grownBy_setCell' w1 w.heap.size (.slice (some ⟨g', 0, none⟩) (bys (l ++ pre) ++ [Value.int .u8 y.toNat]).length cap')) (.inr fun h => hbx1.not_row (by decide) hown h.symm)
      rw [e, bys_len] at this
      simpa [Nat.add_assoc] using this
    · exact (hB.trans ((((Below.refl _ W).alloc hB.size _).trans (happ.below (by have := hB.size; simp; omega))))).setCell (p := ⟨w.heap.size, 0, none⟩) (Nat.le_refl _) _
  case done =>
    rintro D ys W hD rfl ⟨⟨v, hbx, hdst⟩, hB⟩ hK
    have hc1 := hbx.cell
    gi_wp2
    refine ⟨by simp, .inl ⟨_, _, rfl, run_takeDeferred hK, ?_⟩⟩
    rcases hdst with ⟨h0, _⟩ | ⟨_, hown⟩
    · have := congrArg List.length h0
      simp at this
      omega
    · exact ⟨_, results_tmp rfl _ _ _, v, rfl, by simpa using ownsRow_putObj hown _ hK rfl, hB.trans (belowK_b (w := w) (Nat.le_refl _) W D _ _ (by simp at hD; omega) hK rfl rfl)⟩
  case stop =>
    rintro D c pre W _ _ h _
    exact h.elim

/-- **Put**: the bytes that were, and behind them the lowest bytes of the number, in new memory. -/
theorem put_yes (v : Value) (l : List UInt8) (m : Nat) (x : Int) (w : World) (hl : l.length ≤ 1073741824) (hv : SV w v (bys l)) (m1 : 1 ≤ m) (m8 : m ≤ 8) :
    Calls Try.prog 42 #[v, .int .i64 m, .int .i64 x] w fun e w' => ∃ v, e = .returned v ∧ w'.ownsRow w.heap.size 5 1 v (l.length + m) (bys (l ++ beb m (ub x))) ∧ Below w.heap.size w w' := by
  have hv' := hv
  obtain ⟨A, c, rfl, _⟩ := hv'
  rw [bys_len] at hv ⊢
  exact callsIn_wide.1 (put_in A c l m x w hl hv m1 m8)

/-- bytes.Clone: the same bytes in new memory. -/
theorem clone_any (v : Value) (l : List UInt8) (w : World) (hl : l.length ≤ 1073741824) (hv : SV w v (bys l)) :
    Calls Try.prog 45 #[v] w fun e w' => ∃ v, e = .returned v ∧ w'.ownsRow w.heap.size 5 1 v l.length (bys l) ∧ Below w.heap.size w w' := by
  obtain ⟨i0, hi, hz0, hz1, hz2⟩ := info_parts Try.info5
  have hv' := hv
  obtain ⟨A, c, rfl, h1, h2, h3, h4⟩ := hv
  rw [bys_len] at hv' h1 ⊢
  cases A with
  | none =>
    have h0 : l = [] := List.eq_nil_of_length_eq_zero (by have := h3 rfl; omega)
    subst h0
    obtain rfl : c = 0 := h3 rfl
    have hnil := Lib.run_eql_slice_nil (P := Try.prog) w 32 5 none 0 0 0 0 Try.underlying32
    go_enter Try.func45, Try.ntmps45
    go_wp2
    go_ret
    exact ⟨_, rfl, World.ownsRow_nil _ _ _ _, Below.refl _ _⟩
  | some ad =>
    clear h4 h3
    have hnil := Lib.run_eql_slice_nil (P := Try.prog) w 32 5 (some ad) l.length c 0 0 Try.underlying32
    go_enter Try.func45, Try.ntmps45
    go_wp2_with (at_builtin; refine wpList_app _ rfl _ _ 32 rfl w.heap.size 5 i0 (.int .u8 0) 1 Try.underlying32 hi hz0 hz1 hz2 rfl _ [] rfl (.inl (World.ownsRow_lit w #[] 0 (Nat.le_refl _) (by decide) rfl)) _ (bys l) rfl (hv'.keep (Keeps.alloc _ _)) (bys_one _) (by simp [maxLen]; omega) (by simp; omega) (by simp) ?_; intro v' w1 happ)
    go_ret
    exact ⟨_, rfl, by simpa using happ.own (.inr (World.ownsRow_lit w #[] 0 (Nat.le_refl _) (by decide) rfl)), ((Below.refl _ w).alloc (Nat.le_refl _) _).trans (happ.below (by simp))⟩
end Go.Proofs.Ytafmggipmaofnaa
