/- What a key has: the program's Find; a cell in memory of its own. -/
import Derived.Test.YtlpgmmcdcjkkiaaDoorModelMakes
import Derived.Lib.Bytealg
namespace Go.Proofs.YtlpgmmcdcjkkiaaDoor
set_option maxRecDepth 20000
open Go.RowKit Go.Sort

theorem PS.at6 {w : World} {A : Option Addr} {n c : Nat} {l : List Pr} (h : PS w (.slice A n c) l) {k : Nat} (hk : k < n) : ∃ b off p Ad cd, A = some ⟨b, off, none⟩ ∧ l[k]? = some p ∧ w.cell? ⟨b, off + k * 6, none⟩ = some (.string ⟨p.k.toArray⟩) ∧ w.cell? ⟨b, off + k * 6 + 1, none⟩ = some (.int .i64 p.c.k) ∧
    w.cell? ⟨b, off + k * 6 + 2, none⟩ = some (.slice Ad p.c.d.length cd) ∧ w.cell? ⟨b, off + k * 6 + 3, none⟩ = some (.int .i64 p.c.lo) ∧ w.cell? ⟨b, off + k * 6 + 4, none⟩ = some (.int .i64 p.c.hi) ∧ w.cell? ⟨b, off + k * 6 + 5, none⟩ = some (.int .i64 p.c.v) ∧ SV w (.slice Ad p.c.d.length cd) (bys p.c.d) := by
  obtain ⟨b, off, p, D, h1, h2, h3, h4⟩ := h.at hk
  obtain ⟨Ad, cd, hD, _⟩ := id h4
  rw [bys_len] at hD
  subst hD
  exact ⟨b, off, p, Ad, cd, h1, h2, h3 0 _ rfl, h3 1 _ rfl, h3 2 _ rfl, h3 3 _ rfl, h3 4 _ rfl, h3 5 _ rfl, h4⟩
/-- The data of all of them is short. -/
def Small (l : List Pr) : Prop := ∀ p ∈ l, p.c.d.length ≤ 1073741824 ∧ p.k.length ≤ 1073741824
theorem own_nou8 (c : Cl) (D : Value) (h : isU8 D = false) : ∀ u ∈ (#[.int .i64 c.k, D, .int .i64 c.lo, .int .i64 c.hi, .int .i64 c.v] : Array Value).toList, isU8 u = false := by
  intro u hu
  simp at hu
  rcases hu with rfl | rfl | rfl | rfl | rfl <;> first | exact h | rfl
theorem copiedCell_any (A : Option Addr) (n m : Nat) (c : Cl) (w : World) (h : SV w (.slice A n m) (bys c.d)) (hl : c.d.length ≤ 1073741824) :
    Calls Tryd.prog 41 #[cv (.slice A n m) c] w fun e w' => ∃ D, e = .returned (cv D c) ∧ SV w' D (bys c.d) ∧ Below w.heap.size w w' := by
  have CB := Lib.hid (fun w' (hw : SV w' (.slice A n m) (bys c.d)) => clone_any (.slice A n m) c.d w' hl hw)
  have H := Lib.hid h
  clear h hl
  unfold cv
  go_enter Tryd.func41, Tryd.ntmps41
  go_wp2_with fail
  refine (CB.out _ (H.out.keep (Keeps.below (two_more (Below.refl _ _) _ _)))).mono ?_
  rintro e w1 ⟨v1, rfl, hv, b1⟩
  obtain ⟨A1, n1, c1, rfl⟩ := sv_sl (SV.own hv)
  have HV := Lib.hid (SV.own hv)
  have p2 := Lib.hid ((Whole.second w _ _ _).on b1)
  have p1 := Lib.hid (((Whole.made w _ _).later _).on b1)
  have B1 := Lib.hid (bthen (two_more (Below.refl _ w) _ _) b1)
  have q1 : w1.cell? ⟨w.heap.size, 1, none⟩ = some (.slice A n m) := p1.out.cell 1
  have f1 : w1.frozen? ⟨w.heap.size, 1, none⟩ = false := p1.out.free 1
  clear hv b1 CB H
  go_wp2_with (first
    | (show wpList _ _ _ (Oper.mk _ (.load _ (.tmp 1)) _ _ _ _ :: _) _ _; refine wpList_load_row rfl 36 (.tmp 1) rfl (w.heap.size) rfl _ _ _ _ (show Whole _ _ _ #[.int .i64 c.k, .slice A1 n1 c1, .int .i64 c.lo, .int .i64 c.hi, .int .i64 c.v] from p1.out.put 1 (.slice A1 n1 c1)) Tryd.underlying36 rfl (by kernel_rfl) ?_)
    | (show wpList _ _ _ (Oper.mk _ (.store _ (.tmp 2) _) _ _ _ _ :: _) _ _; refine wpList_store_row rfl _ (.tmp 2) (.tmp 7) rfl (w.heap.size + 1) _ rfl rfl _ _ (p2.out.apart (by omega) (.slice A1 n1 c1)) (by kernel_rfl) rfl (by simp [Value.oneCell']) ?_))
  refine bodyPost_ret (v := .agg #[.int .i64 c.k, .slice A1 n1 c1, .int .i64 c.lo, .int .i64 c.hi, .int .i64 c.v]) ?_ rfl ⟨_, rfl, ?_, below_setRow (B1.out.setCell (p := ⟨w.heap.size, 1, none⟩) (Nat.le_refl _) _) (by omega) _⟩
  · exact results_cell_row rfl _ _ (w.heap.size + 1) _ _ (0, 0) _ rfl (setRow_heap _ _ _ _ _ _ (p2.out.apart (by omega) (.slice A1 n1 c1))) Tryd.underlying36 rfl (by kernel_rfl)
  · exact sv_blk' (p2.out.apart (by omega) (.slice A1 n1 c1)) (own_nou8 zeroC _ rfl) (sv_blk' p1.out (own_nou8 c _ rfl) HV.out (But.set _ _ _ _)) (but_setRow _ _ _)
def Found (l : List Pr) (k : List UInt8) (w : World) (e : Ending) (w' : World) : Prop := ∃ D, e = .returned (.tuple #[cv D (fndC l k), .bool (fnd l k).isSome]) ∧ SV w' D (bys (fndC l k).d) ∧ Below w.heap.size w w'
theorem found_yes {l : List Pr} {k : List UInt8} {c : Cl} {w w' : World} {e : Ending} {D : Value} (he : fnd l k = some c) (hr : e = .returned (.tuple #[cv D c, .bool true])) (hs : SV w' D (bys c.d)) (hb : Below w.heap.size w w') : Found l k w e w' := by
  unfold Found fndC
  rw [he]
  exact ⟨D, hr, hs, hb⟩
theorem found_no {l : List Pr} {k : List UInt8} {w w' : World} {e : Ending} (he : fnd l k = none) (hr : e = .returned (.tuple #[cv (.slice none 0 0) zeroC, .bool false])) (hb : Below w.heap.size w w') : Found l k w e w' := by
  unfold Found fndC
  rw [he]
  exact ⟨_, hr, SV.nil _, hb⟩
set_option maxHeartbeats 1000000 in
theorem find9_any (v : Value) (l : List Pr) (k : List UInt8) (w : World) (hv : PS w v l) (hl : Small l) :
    Calls Tryd.prog 45 #[v, kst k] w (Found l k w) := by
  obtain ⟨A, c, rfl, l1, l2, _, _⟩ := id hv
  have l3 := hv.bd.2.2
  have HL := Lib.hid hv
  have HS := Lib.hid hl
  clear hv hl l2
  unfold kst
  go_enter Tryd.func45, Tryd.ntmps45
  go_wp2
  go_loopw [10] (fun i wr => ∃ j : Nat, j ≤ l.length ∧ i = .int .i64 j ∧ Hid (∀ i p, i < j → l[i]? = some p → p.k ≠ k) ∧ Hid (Whole wr w.heap.size 36 #[.int .i64 0, .slice none 0 0, .int .i64 0, .int .i64 0, .int .i64 0]) ∧ Hid (Below w.heap.size w wr)) (fun i _ => l.length - (intOf i).toNat)
  case atStart => exact ⟨0, by omega, rfl, Lib.hid (fun i p h => by omega), Lib.hid (Whole.made w _ _), Lib.hid ((Below.refl _ _).alloc (Nat.le_refl _) _)⟩
  case round =>
    obtain ⟨j, hj, rfl, hne, P4, hB⟩ := hrel
    by_cases hlt : j < l.length
    · obtain ⟨b, off, p, Ad, cd, rfl, hp, c0, c1, c2, c3, c4, c5, hd⟩ := PS.at6 (HL.out.keep (Keeps.below hB.out)) hlt
      have CC := Lib.hid (fun w' (hw : SV w' (.slice Ad p.c.d.length cd) (bys p.c.d)) => copiedCell_any Ad p.c.d.length cd p.c w' hw ((HS.out p (List.mem_of_getElem? hp)).1))
      replace hd := Lib.hid hd
      replace hp := Lib.hid hp
      by_cases hk : p.k = k
      · subst hk
        have he := Lib.hid (show fnd l p.k = some p.c from fnd_at hp.out rfl fun i q hi hq => hne.out i q hi hq)
        go_wp2_with fail
        unfold cv at CC
        refine (CC.out _ (hd.out.keep (Keeps.alloc _ _))).mono ?_
        rintro e w2 ⟨D, rfl, hD, b2⟩
        obtain ⟨A1, n1, d1, rfl⟩ := sv_sl hD
        have p4 := Lib.hid ((P4.out.later _).on b2)
        have B2 := Lib.hid ((hB.out.alloc hB.out.size _).trans (b2.mono (by have := hB.out.size; simp; omega)))
        have HD := Lib.hid hD
        clear hD b2 CC
        go_wp2_with (show wpList _ _ _ (Oper.mk _ (.store _ (.tmp 4) _) _ _ _ _ :: _) _ _; refine wpList_store_row rfl _ (.tmp 4) (.tmp 20) rfl (w.heap.size) _ rfl rfl _ _ (p4.out) (by kernel_rfl) rfl (by simp [Value.oneCell']) ?_)
        refine bodyPost_ret (v := .tuple #[.agg #[.int .i64 p.c.k, .slice A1 n1 d1, .int .i64 p.c.lo, .int .i64 p.c.hi, .int .i64 p.c.v], .bool true]) ?_ rfl (found_yes he.out rfl (sv_blk' p4.out (own_nou8 zeroC _ rfl) HD.out (but_setRow _ _ _)) (below_setRow B2.out (Nat.le_refl _) _))
        exact results_cell_tmp rfl _ _ (w.heap.size) _ _ (0, 0) _ rfl (setRow_heap _ _ _ _ _ _ p4.out) Tryd.underlying36 rfl (by kernel_rfl) _ rfl
      · clear CC
        have HK := Lib.hid hk
        have hk2 : (p.k == k) = false := by simpa using hk
        go_wp2
        go_roundw
        case rel => exact ⟨j + 1, by omega, by go_num, Lib.hid (fun i q hi hq => by
          rcases Nat.lt_or_ge i j with h | h
          · exact hne.out i q h hq
          · have : i = j := by omega
            subst this
            have hp' := hp.out
            rw [hq] at hp'
            injection hp' with hp'
            rw [hp']
            exact HK.out), Lib.hid (P4.out.later _), Lib.hid (hB.out.alloc hB.out.size _)⟩
        case measure => simp [intOf]; omega
    · obtain rfl : j = l.length := by omega
      have he : fnd l k = none := fnd_none fun p hp => by
        obtain ⟨i, hi⟩ := List.getElem?_of_mem hp
        exact hne.out i p (List.getElem?_eq_some_iff.1 hi).1 hi
      replace he := Lib.hid he
      go_wp2_with (show wpList _ _ _ (Oper.mk _ (.store _ (.tmp 4) _) _ _ _ _ :: _) _ _; refine wpList_store_row rfl _ (.tmp 4) (.tmp 22) rfl (w.heap.size) _ rfl rfl _ _ (P4.out) (by kernel_rfl) rfl (by simp [Value.oneCell']) ?_)
      refine bodyPost_ret (v := .tuple #[.agg #[.int .i64 0, .slice none 0 0, .int .i64 0, .int .i64 0, .int .i64 0], .bool false]) ?_ rfl (found_no he.out rfl (below_setRow hB.out (Nat.le_refl _) _))
      exact results_cell_tmp rfl _ _ (w.heap.size) _ _ (0, 0) _ rfl (setRow_heap _ _ _ _ _ _ P4.out) Tryd.underlying36 rfl (by kernel_rfl) _ rfl
end Go.Proofs.YtlpgmmcdcjkkiaaDoor
