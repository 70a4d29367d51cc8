/- Layer 8: the reference's Diff. -/
import Derived.Test.YtafmggipmaofnaaPatchDiff
namespace Go.Proofs.Ytafmggipmaofnaa
set_option maxRecDepth 20000
open Go.RowKit

/-- A row of runs of the call's own whose bytes may lie anywhere but in it. -/
structure RWk (W : World) (M : Nat) (v : Value) (es : List (Rn × Value)) : Prop where
  row : W.ownsRow M 56 2 v es.length (flat es)
  each : ∀ x ∈ es, SV W x.2 (bys x.1.d) ∧ ∃ k, x.2.ownBlock = some k ∧ k < W.heap.size ∧ v.ownBlock ≠ some k
theorem sv_grown {W Y : World} {row : Option Nat} {D : Value} {l : List UInt8} {k : Nat} (h : SV W D (bys l)) (hg : W.grownBy Y row) (hk : D.ownBlock = some k) (hlt : k < W.heap.size) (hne : row ≠ some k) : SV Y D (bys l) := by
  obtain ⟨A, c, rfl, h2, h3, h4, h5⟩ := h
  refine ⟨A, c, rfl, h2, h3, h4, fun hl => ?_⟩
  obtain ⟨b, off, rfl, hc⟩ := h5 hl
  refine ⟨b, off, rfl, fun j u hu => ?_⟩
  simp only [Value.ownBlock, Option.some.injEq] at hk
  subst hk
  exact hg.cell (hc j u hu) (fun e => hne (by first | exact e | exact e.symm))
theorem RWk.rs {W : World} {M : Nat} {v : Value} {es : List (Rn × Value)} (h : RWk W M v es) : RS W v (es.map (·.1)) := by
  obtain ⟨hrow, heach⟩ := h
  have hrow' := hrow
  rcases hrow.2 with ⟨rfl, h0⟩ | ⟨g, cap, cur, rfl, hb, hg, hn, hm, hs, ht⟩
  · have : es = [] := List.eq_nil_of_length_eq_zero h0
    subst this
    exact RS.nil W
  · refine ⟨some ⟨g, 0, none⟩, cap, by rw [List.length_map], by rw [List.length_map]; exact hn, hm, (fun h => by cases h), fun _ => ⟨g, 0, rfl, fun k r hr => ?_⟩⟩
    rw [List.getElem?_map] at hr
    obtain ⟨x, hx, rfl⟩ := Option.map_eq_some_iff.1 hr
    obtain ⟨f1, f2⟩ := flat_get es k x hx
    have c1 := hrow'.cells (g := g) rfl _ _ f1
    have c2 := hrow'.cells (g := g) rfl _ _ f2
    rw [Addr.add_lit] at c1 c2
    exact ⟨x.2, by simpa using c1, by simpa using c2, (heach x (List.mem_of_getElem? hx)).1⟩
theorem RWk.on {W Y : World} {M : Nat} {v : Value} {es : List (Rn × Value)} (h : RWk W M v es) (hb : Below W.heap.size W Y) : RWk Y M v es :=
  ⟨ownsRow_later h.row hb, fun x hx => by
    obtain ⟨h1, k, h2, h3, h4⟩ := h.each x hx
    exact ⟨h1.keep (Keeps.below hb), k, h2, Nat.lt_of_lt_of_le h3 hb.size, h4⟩⟩
/-- One more. -/
theorem RWk.more {W Y : World} {M : Nat} {v v' : Value} {es : List (Rn × Value)} (h : RWk W M v es) {r : Rn} {D : Value} {k : Nat} (hD : SV W D (bys r.d)) (hk : D.ownBlock = some k) (hkl : k < W.heap.size) (hkn : v.ownBlock ≠ some k)
    (HO : Y.ownsRow M 56 2 v' (es.length + 1) (flat es ++ [.int .i64 r.p, D])) (HG : W.grownBy Y v.ownBlock) (HB : v'.ownBlock = v.ownBlock ∨ v'.ownBlock = some W.heap.size) : RWk Y M v' (es ++ [(r, D)]) := by
  have hv : ∀ j, j < W.heap.size → v.ownBlock ≠ some j → v'.ownBlock ≠ some j := fun j hj hn => by
    rcases HB with h | h
    · rwa [h]
    · rw [h]; exact fun e => by injection e with e; omega
  refine ⟨by rw [List.length_append, flat_app, flat_one]; exact HO, fun x hx => ?_⟩
  rcases List.mem_append.1 hx with hx | hx
  · obtain ⟨h1, j, h2, h3, h4⟩ := h.each x hx
    exact ⟨sv_grown h1 HG h2 h3 h4, j, h2, Nat.lt_of_lt_of_le h3 HG.size, hv j h3 h4⟩
  · simp only [List.mem_singleton] at hx
    subst hx
    exact ⟨sv_grown hD HG hk hkl hkn, k, hk, Nat.lt_of_lt_of_le hkl HG.size, hv k hkl hkn⟩
theorem setCells2 (w : World) (b o : Nat) (u v : Value) : w.setCells b o [u, v] = (w.setCell ⟨b, o, none⟩ u).setCell ⟨b, o + 1, none⟩ v := rfl
theorem flat_set2 {es : List (Rn × Value)} {r r' : Rn} {D D' : Value} : ((flat (es ++ [(r, D)])).set (es.length * 2) (.int .i64 r'.p)).set (es.length * 2 + 1) D' = flat (es ++ [(r', D')]) := by
  rw [flat_app, flat_app, flat_one, flat_one, List.set_append_right _ _ (by rw [flat_len]; omega), List.set_append_right _ _ (by rw [flat_len]; omega), flat_len, show es.length * 2 + 1 - es.length * 2 = 1 by omega, Nat.sub_self]
  simp
/-- The last one is another. -/
theorem RWk.last {W : World} {M gr n cap : Nat} {es : List (Rn × Value)} {r r' : Rn} {D D' : Value} (h : RWk W M (.slice (some ⟨gr, 0, none⟩) n cap) (es ++ [(r, D)])) {k : Nat} (hD : SV W D' (bys r'.d)) (hk : D'.ownBlock = some k) (hkl : k < W.heap.size) (hkn : k ≠ gr) :
    RWk (W.setCells gr (es.length * 2) [.int .i64 r'.p, D']) M (.slice (some ⟨gr, 0, none⟩) n cap) (es ++ [(r', D')]) ∧ W.grownBy (W.setCells gr (es.length * 2) [.int .i64 r'.p, D']) (some gr) := by
  have hlen : (es ++ [(r, D)]).length = (es ++ [(r', D')]).length := by simp
  have hrow := h.row
  have hn : n = (es ++ [(r', D')]).length := by
    obtain ⟨A, c, e1, _⟩ := h.rs
    injection e1 with _ e1
    rw [List.length_map, hlen] at e1
    exact e1
  rw [hlen, ← hn] at hrow
  obtain ⟨s1, g1⟩ := hrow.stored (es.length * 2) (.int .i64 r'.p)
  obtain ⟨s2, g2⟩ := s1.stored (es.length * 2 + 1) D'
  rw [flat_set2] at s2
  have hg : W.grownBy (W.setCells gr (es.length * 2) [.int .i64 r'.p, D']) (some gr) := But.trans (g := gr) g1 g2
  rw [setCells2] at hg ⊢
  refine ⟨⟨by rw [← hn]; exact s2, fun x hx => ?_⟩, hg⟩
  rcases List.mem_append.1 hx with hx | hx
  · obtain ⟨h1, j, h2, h3, h4⟩ := h.each x (List.mem_append_left _ hx)
    exact ⟨sv_grown h1 hg h2 h3 h4, j, h2, Nat.lt_of_lt_of_le h3 hg.size, h4⟩
  · simp only [List.mem_singleton] at hx
    subst hx
    exact ⟨sv_grown hD hg hk hkl (fun e => hkn (by injection e with e; exact e.symm)), k, hk, Nat.lt_of_lt_of_le hkl hg.size, fun e => hkn (by simp only [Value.ownBlock, Option.some.injEq] at e; exact e.symm)⟩
theorem RWk.nil (W : World) (M : Nat) : RWk W M (.slice none 0 0) [] := ⟨World.ownsRow_nil _ _ _ _, fun x h => by cases h⟩

/-- Where the last unlike byte was. -/
def lastOf : List (Nat × Nat) → Int
  | [] => -9
  | (_, e) :: _ => e - 1

set_option maxRecDepth 100000 in
set_option maxHeartbeats 4000000 in
theorem refDiff_any (va vb : Value) (a b : List UInt8) (hla : a.length = 512) (hlb : b.length = 512) (w : World) (ha : SV w va (bys a)) (hb : SV w vb (bys b)) :
    Calls Try.prog 9 #[va, vb] w fun e w' => ∃ v, e = .returned v ∧ RS w' v (diffR a b) ∧ Below w.heap.size w w' := by
  have HSB := hb
  obtain ⟨Aa, ca, rfl, a1, a2, _, a3⟩ := ha
  obtain ⟨Ab, cb, rfl, b1, b2, _, b3⟩ := hb
  obtain ⟨ba, oa, rfl, hca⟩ := a3 (bys_ne (by omega))
  obtain ⟨bb, ob, rfl, hcb⟩ := b3 (bys_ne (by omega))
  rw [bys_len, hla] at a1 ⊢
  rw [bys_len, hlb] at b1 HSB ⊢
  replace HSB := Lib.hid HSB
  have Hca := Lib.hid hca
  have Hcb := Lib.hid hcb
  have hbb : bb < w.heap.size := by
    have := hcb 0 _ (List.getElem?_eq_getElem (by rw [bys_len]; omega))
    exact World.block_lt_of_cell? w _ this
  obtain ⟨i0, hi, hz0, hz1, hz2⟩ := info_parts info_run
  clear hca hcb a3 b3
  go_enter Try.func9, Try.ntmps9
  go_wp2
  go_loopw [5, 6, 7] (fun l last i wr => ∃ (k : Nat) (es : List (Rn × Value)), k ≤ 500 ∧ i = .int .i64 (12 + k) ∧ last = .int .i64 (lastOf (dif (unlTo a b (12 + k)))) ∧ RWk wr w.heap.size l es ∧ es.map (·.1) = runsOf b (dif (unlTo a b (12 + k))) ∧ Below w.heap.size w wr)
    (fun _ _ i _ => (512 - intOf i).toNat)
  case atStart => exact ⟨0, [], by omega, rfl, by rw [unlTo_12]; rfl, RWk.nil _ _, by rw [unlTo_12]; rfl, Below.refl _ _⟩
  case round =>
    obtain ⟨k, es, hk, rfl, rfl, hrw, his, hB⟩ := hrel
    by_cases hlt : k < 500
    · have la : 12 + k < a.length := by omega
      have lb : 12 + k < b.length := by omega
      have hcA : wr.cell? ⟨ba, oa + (12 + k), none⟩ = some (.int .u8 a[12 + k].toNat) := Keeps.below hB _ _ (Hca.out _ _ (by simp [bys, la]))
      have hcB : wr.cell? ⟨bb, ob + (12 + k), none⟩ = some (.int .u8 b[12 + k].toNat) := Keeps.below hB _ _ (Hcb.out _ _ (by simp [bys, lb]))
      have HU := Lib.hid (unlTo_succ a b (12 + k))
      have hS := (dif_ok a b (12 + k)).1
      have hpl := dif_len (unlTo a b (12 + k))
      have hpl2 := unlTo_len a b (12 + k)
      have HD := Lib.hid (dif_snoc (unlTo a b (12 + k)) (12 + k))
      have hel : es.length = (dif (unlTo a b (12 + k))).length := by
        have := congrArg List.length his
        simpa [runsOf] using this
      by_cases heq : a[12 + k] = b[12 + k]
      · have hun : unlike a b (12 + k) = false := decide_eq_false fun h => h.2 ((unlike_at la lb).1 heq)
        have hneq : ((a[12 + k].toNat : Int) == (b[12 + k].toNat : Int)) = true := by rw [heq]; simp
        go_wp2_with fail
        refine wp_region_facts 9 [] [] (by kernel_rfl) (by kernel_rfl) (by kernel_rfl) (free_draw wr) ?_
        simp only [List.take_succ_cons, List.take_zero, List.drop_succ_cons, List.drop_zero, List.zipIdx_cons, List.zipIdx_nil, Nat.zero_add, Nat.reduceAdd]
        repeat (show wpF _ _ _ _ _ _ (_ :: _) _ _; first
          | (refine f_skip (fun V => by rfl) ?_; simp only [Act.put, List.setIfInBounds_toArray, List.set_cons_succ, List.set_cons_zero])
            
                | (refine f_ix_sl (by first | exact cls_free _ | exact cls_row _ _ _ _ | exact cls_fill _ _ _ _ _ | exact cls_butC _ _ | exact cls_butD _ _ _ _ _ _ _) (fun V => by rfl) 32 (.tmp 13) _ rfl _ _ _ _ (fun V => by rfl) 5 _ (12 + k) _ _ (fun V => by rfl) Try.underlying32 (by kernel_rfl) (by omega) (by omega) ?_; simp only [Act.put, List.setIfInBounds_toArray, List.set_cons_succ, List.set_cons_zero])
                | (refine f_ix_sl (by first | exact cls_free _ | exact cls_row _ _ _ _ | exact cls_fill _ _ _ _ _ | exact cls_butC _ _ | exact cls_butD _ _ _ _ _ _ _) (fun V => by rfl) 32 (.tmp 17) _ rfl _ _ _ _ (fun V => by rfl) 5 _ (12 + k) _ _ (fun V => by rfl) Try.underlying32 (by kernel_rfl) (by omega) (by omega) ?_; simp only [Act.put, List.setIfInBounds_toArray, List.set_cons_succ, List.set_cons_zero])
                | (refine f_load_cell (by first | exact cls_free _ | exact cls_row _ _ _ _ | exact cls_fill _ _ _ _ _ | exact cls_butC _ _ | exact cls_butD _ _ _ _ _ _ _) (fun V => by rfl) _ _ rfl _ (fun V => by rfl) _ (fun w hb => (Keeps.below hb) _ _ hcA) _ Try.underlying5 rfl ?_; simp only [Act.put, List.setIfInBounds_toArray, List.set_cons_succ, List.set_cons_zero])
                | (refine f_load_cell (by first | exact cls_free _ | exact cls_row _ _ _ _ | exact cls_fill _ _ _ _ _ | exact cls_butC _ _ | exact cls_butD _ _ _ _ _ _ _) (fun V => by rfl) _ _ rfl _ (fun V => by rfl) _ (fun w hb => (Keeps.below hb) _ _ hcB) _ Try.underlying5 rfl ?_; simp only [Act.put, List.setIfInBounds_toArray, List.set_cons_succ, List.set_cons_zero])
                | (refine f_binop (by first | exact cls_free _ | exact cls_row _ _ _ _ | exact cls_fill _ _ _ _ _ | exact cls_butC _ _ | exact cls_butD _ _ _ _ _ _ _) (fun V => by rfl) _ _ _ _ _ rfl _ _ _ (fun w => run_eql_i _ _ _ _ true (hneq) w) (fun w => guard_eql_i _ _ _ _ _ _ w) (fun V => by rfl) (fun V => by rfl) ?_; simp only [Act.put, List.setIfInBounds_toArray, List.set_cons_succ, List.set_cons_zero])
          | (refine f_quiet (by first | exact cls_free _ | exact cls_row _ _ _ _ | exact cls_fill _ _ _ _ _ | exact cls_butC _ _ | exact cls_butD _ _ _ _ _ _ _) (fun V => by rfl) (fun V => ⟨_, rfl, by simp⟩) ?_; apply Exists.intro; refine And.intro (fun V w hw K hK => ?_) ?_; ((try simp only [Act.put, List.setIfInBounds_toArray, List.set_cons_succ, List.set_cons_zero] at hK); go_big_quiet_op; exact hK); simp only [Act.put, List.setIfInBounds_toArray, List.set_cons_succ, List.set_cons_zero]))
        refine f_nil ?_
        intro V w' hq hkn
        go_wp2
        go_roundw
        case rel => exact ⟨k + 1, es, by omega, by go_num, by rw [← Nat.add_assoc, HU.out, hun]; simp, hrw.on hq, by rw [← Nat.add_assoc, HU.out, hun]; simpa using his, hB.trans (hq.mono hB.size)⟩
        case measure => simp [intOf]; omega
      · have hun : unlike a b (12 + k) = true := decide_eq_true ⟨by omega, fun h => heq ((unlike_at la lb).2 h)⟩
        have hneq : ((a[12 + k].toNat : Int) == (b[12 + k].toNat : Int)) = false := by
          simp only [beq_eq_false_iff_ne, ne_eq]
          intro h
          exact heq (UInt8.toNat_inj.1 (by omega))
        go_wp2_with fail
        refine wp_region_facts 9 [] [] (by kernel_rfl) (by kernel_rfl) (by kernel_rfl) (free_draw wr) ?_
        simp only [List.take_succ_cons, List.take_zero, List.drop_succ_cons, List.drop_zero, List.zipIdx_cons, List.zipIdx_nil, Nat.zero_add, Nat.reduceAdd]
        repeat (show wpF _ _ _ _ _ _ (_ :: _) _ _; first
          | (refine f_skip (fun V => by rfl) ?_; simp only [Act.put, List.setIfInBounds_toArray, List.set_cons_succ, List.set_cons_zero])
            
                | (refine f_ix_sl (by first | exact cls_free _ | exact cls_row _ _ _ _ | exact cls_fill _ _ _ _ _ | exact cls_butC _ _ | exact cls_butD _ _ _ _ _ _ _) (fun V => by rfl) 32 (.tmp 13) _ rfl _ _ _ _ (fun V => by rfl) 5 _ (12 + k) _ _ (fun V => by rfl) Try.underlying32 (by kernel_rfl) (by omega) (by omega) ?_; simp only [Act.put, List.setIfInBounds_toArray, List.set_cons_succ, List.set_cons_zero])
                | (refine f_ix_sl (by first | exact cls_free _ | exact cls_row _ _ _ _ | exact cls_fill _ _ _ _ _ | exact cls_butC _ _ | exact cls_butD _ _ _ _ _ _ _) (fun V => by rfl) 32 (.tmp 17) _ rfl _ _ _ _ (fun V => by rfl) 5 _ (12 + k) _ _ (fun V => by rfl) Try.underlying32 (by kernel_rfl) (by omega) (by omega) ?_; simp only [Act.put, List.setIfInBounds_toArray, List.set_cons_succ, List.set_cons_zero])
                | (refine f_load_cell (by first | exact cls_free _ | exact cls_row _ _ _ _ | exact cls_fill _ _ _ _ _ | exact cls_butC _ _ | exact cls_butD _ _ _ _ _ _ _) (fun V => by rfl) _ _ rfl _ (fun V => by rfl) _ (fun w hb => (Keeps.below hb) _ _ hcA) _ Try.underlying5 rfl ?_; simp only [Act.put, List.setIfInBounds_toArray, List.set_cons_succ, List.set_cons_zero])
                | (refine f_load_cell (by first | exact cls_free _ | exact cls_row _ _ _ _ | exact cls_fill _ _ _ _ _ | exact cls_butC _ _ | exact cls_butD _ _ _ _ _ _ _) (fun V => by rfl) _ _ rfl _ (fun V => by rfl) _ (fun w hb => (Keeps.below hb) _ _ hcB) _ Try.underlying5 rfl ?_; simp only [Act.put, List.setIfInBounds_toArray, List.set_cons_succ, List.set_cons_zero])
                | (refine f_binop (by first | exact cls_free _ | exact cls_row _ _ _ _ | exact cls_fill _ _ _ _ _ | exact cls_butC _ _ | exact cls_butD _ _ _ _ _ _ _) (fun V => by rfl) _ _ _ _ _ rfl _ _ _ (fun w => run_eql_i _ _ _ _ false (hneq) w) (fun w => guard_eql_i _ _ _ _ _ _ w) (fun V => by rfl) (fun V => by rfl) ?_; simp only [Act.put, List.setIfInBounds_toArray, List.set_cons_succ, List.set_cons_zero])
          | (refine f_quiet (by first | exact cls_free _ | exact cls_row _ _ _ _ | exact cls_fill _ _ _ _ _ | exact cls_butC _ _ | exact cls_butD _ _ _ _ _ _ _) (fun V => by rfl) (fun V => ⟨_, rfl, by simp⟩) ?_; apply Exists.intro; refine And.intro (fun V w hw K hK => ?_) ?_; ((try simp only [Act.put, List.setIfInBounds_toArray, List.set_cons_succ, List.set_cons_zero] at hK); go_big_quiet_op; exact hK); simp only [Act.put, List.setIfInBounds_toArray, List.set_cons_succ, List.set_cons_zero]))
        refine f_nil ?_
        intro V w' hq hkn
        rw [hun, if_pos rfl] at HU
        have lw := (hB.trans (hq.mono hB.size))
        replace hcA := Lib.hid hcA
        replace hcB := Keeps.below hq _ _ hcB
        have hrw' := Lib.hid (hrw.on hq)
        replace his := Lib.hid his
        obtain ⟨A5, c5, rfl, hc5, hc6, _, _⟩ := hrw.rs
        rw [List.length_map] at hc5 hrw' ⊢
        have hn : es.length ≤ 512 := by omega
        clear hrw
        cases hdp : dif (unlTo a b (12 + k)) with
        | nil =>
          have hl : lastOf [] = -9 := rfl
          have hd2 : dif (unlTo a b (12 + (k + 1))) = (12 + k, 12 + k + 1) :: dif (unlTo a b (12 + k)) := by rw [← Nat.add_assoc, HU.out, HD.out, hdp]; rfl
          rw [hl]
          skip
          replace hel := Lib.hid hel
          go_wp2_with (at_builtin; refine wpList_app2 rfl (.tmp 26) (.tmp 34) 25 rfl w.heap.size 56 i0 _ 32 Try.underlying25 hi hz0 hz1 hz2 rfl (.slice A5 es.length c5) es.length (flat es) rfl ((hrw'.out.row.alloc _).alloc _) (w'.heap.size + 1) _ rfl (.int .i64 (12 + k)) (.slice (some ⟨w'.heap.size, 0, none⟩) 1 1) ((Whole.second w' _ _ _).mid 0 2 rfl) rfl rfl (by omega) (by omega) (by have := lw.size; simp; omega) ?_; intro v' w2 HO HG HB)
          have hw2 : Below w.heap.size w w2 := ((lw.alloc lw.size _).alloc (by have := lw.size; simp; omega) _).grown HG.out (by have := lw.size; simp; omega) fun j hj => (hrw'.out.row.lt j hj).1
          have e12 : (12 + (k : Int)) = ((12 + k : Nat) : Int) := by omega
          have HO1 := HO.out
          rw [e12] at HO1
          have HM := RWk.more (k := w'.heap.size) (hrw'.out.on (two_more (Below.refl _ w') _ _)) (r := ⟨((12 + k : Nat) : Int), [b[12 + k]]⟩) ((SV.lit1 w' (.int .u8 b[12 + k].toNat) 5).keep (Keeps.alloc _ _)) rfl (by simp; omega) (fun e => by have := (hrw'.out.row.lt _ e).2; omega) HO1 HG.out HB.out
          clear HO HG HB HO1 hcB
          go_roundw
          case rel => exact ⟨k + 1, _, by omega, by go_num, by rw [hd2]; simp only [lastOf]; congr 1; omega, HM, by rw [List.map_append, his.out, hd2, runs_snoc, rn_one lb]; rfl, hw2⟩
          case measure => simp [intOf]; omega
        | cons p s =>
          obtain ⟨q, e⟩ := p
          have hl : lastOf ((q, e) :: s) = e - 1 := rfl
          have hpw := hS.within (q, e) (by rw [hdp]; simp)
          simp only at hpw
          rw [hl]
          by_cases hgap : e + 4 < 12 + k
          · have hd2 : dif (unlTo a b (12 + (k + 1))) = (12 + k, 12 + k + 1) :: dif (unlTo a b (12 + k)) := by rw [← Nat.add_assoc, HU.out, HD.out, hdp]; simp [dstep, hgap]
            skip
            replace hel := Lib.hid hel
            go_wp2_with (at_builtin; refine wpList_app2 rfl (.tmp 26) (.tmp 34) 25 rfl w.heap.size 56 i0 _ 32 Try.underlying25 hi hz0 hz1 hz2 rfl (.slice A5 es.length c5) es.length (flat es) rfl ((hrw'.out.row.alloc _).alloc _) (w'.heap.size + 1) _ rfl (.int .i64 (12 + k)) (.slice (some ⟨w'.heap.size, 0, none⟩) 1 1) ((Whole.second w' _ _ _).mid 0 2 rfl) rfl rfl (by omega) (by omega) (by have := lw.size; simp; omega) ?_; intro v' w2 HO HG HB)
            have hw2 : Below w.heap.size w w2 := ((lw.alloc lw.size _).alloc (by have := lw.size; simp; omega) _).grown HG.out (by have := lw.size; simp; omega) fun j hj => (hrw'.out.row.lt j hj).1
            have e12 : (12 + (k : Int)) = ((12 + k : Nat) : Int) := by omega
            have HO1 := HO.out
            rw [e12] at HO1
            have HM := RWk.more (k := w'.heap.size) (hrw'.out.on (two_more (Below.refl _ w') _ _)) (r := ⟨((12 + k : Nat) : Int), [b[12 + k]]⟩) ((SV.lit1 w' (.int .u8 b[12 + k].toNat) 5).keep (Keeps.alloc _ _)) rfl (by simp; omega) (fun e => by have := (hrw'.out.row.lt _ e).2; omega) HO1 HG.out HB.out
            clear HO HG HB HO1 hcB
            go_roundw
            case rel => exact ⟨k + 1, _, by omega, by go_num, by rw [hd2]; simp only [lastOf]; congr 1; omega, HM, by rw [List.map_append, his.out, hd2, runs_snoc, rn_one lb]; rfl, hw2⟩
            case measure => simp [intOf]; omega
          · have hd2 : dif (unlTo a b (12 + (k + 1))) = (q, 12 + k + 1) :: s := by rw [← Nat.add_assoc, HU.out, HD.out, hdp]; simp [dstep, hgap]
            have h0 : es.length = s.length + 1 := by rw [hel, hdp]; rfl
            have his1 := his.out
            rw [hdp, runs_snoc] at his1
            obtain ⟨es', D, rfl, hes'⟩ := map_snoc his1
            have hel' : es'.length = s.length := by simpa using h0
            obtain ⟨gr, cap, hv⟩ := own_pos hrw'.out.row (by omega)
            injection hv with hv1 _ hv2
            subst hv1 hv2
            have hf := flat_get (es' ++ [(rnOf b (q, e), D)]) s.length (rnOf b (q, e), D) (by rw [← hel']; simp)
            have c1 : w'.cell? ⟨gr, s.length * 2, none⟩ = some (.int .i64 q) := by
              have := hrw'.out.row.cells (g := gr) rfl _ _ hf.1
              rw [Addr.add_lit, Nat.zero_add] at this
              exact this
            have c2 : w'.cell? ⟨gr, s.length * 2 + 1, none⟩ = some D := by
              have := hrw'.out.row.cells (g := gr) rfl _ _ hf.2
              rw [Addr.add_lit, Nat.zero_add] at this
              exact this
            have z1 := hrw'.out.row.frozenAt (s.length * 2)
            have z2 := hrw'.out.row.frozenAt (s.length * 2 + 1)
            have hgr : w.heap.size ≤ gr ∧ gr < w'.heap.size := hrw'.out.row.lt gr rfl
            replace his := Lib.hid his
            clear hf his1 hel
            generalize hE : es' ++ [(rnOf b (q, e), D)] = es at *
            go_wp2_with fail
            have hSD : SV w' (.slice (some ⟨bb, ob + q, none⟩) (12 + k + 1 - q) (cb - q)) (bys (rnOf b (q, 12 + k + 1)).d) := by
              have := (HSB.out.keep (Keeps.below lw)).mid8 q (12 + k + 1) (by omega) (by omega)
              rw [if_neg (by omega), Option.map_some, Addr.add_lit] at this
              exact this
            have F := RWk.last (k := bb) (r' := rnOf b (q, 12 + k + 1)) (show RWk w' w.heap.size (.slice (some ⟨gr, 0, none⟩) es.length c5) (es' ++ [(rnOf b (q, e), D)]) by rw [hE]; exact hrw'.out) hSD rfl (by have := lw.size; omega) (by omega)
            rw [hel'] at F
            have hw2 : Below w.heap.size w (w'.setCells gr (s.length * 2) [.int .i64 (rnOf b (q, 12 + k + 1)).p, .slice (some ⟨bb, ob + q, none⟩) (12 + k + 1 - q) (cb - q)]) := lw.grown F.2 lw.size fun j hj => by injection hj with hj; omega
            have hnn : es.length = (es' ++ [(rnOf b (q, 12 + k + 1), Value.slice (some ⟨bb, ob + q, none⟩) (12 + k + 1 - q) (cb - q))]).length := by rw [← hE]; simp
            go_roundw
            case rel => exact ⟨k + 1, _, by omega, by go_num, by rw [hd2]; simp only [lastOf]; congr 1; omega, F.1, by rw [List.map_append, hes', hd2, runs_snoc]; rfl, hw2⟩
            case measure => simp [intOf]; omega
    · obtain rfl : k = 500 := by omega
      go_wp2
      go_ret
      refine ⟨_, rfl, ?_, hB⟩
      have := hrw.rs
      rw [his] at this
      exact this
end Go.Proofs.Ytafmggipmaofnaa
