/- The reference's small ones: Good, Plain, Exact, Find, Same, SameAnswer, Right, Much, MuchState. -/
import Derived.Test.YtlpgmmcdcjkkiaaDoorModelLook
import Derived.Test.YtlpgmmcdcjkkiaaDoorBeRef
import Derived.Test.YtlpgmmcdcjkkiaaDoorCellRef
namespace Go.Proofs.YtlpgmmcdcjkkiaaDoor
set_option maxRecDepth 20000
open Go.RowKit Go.Sort

set_option maxHeartbeats 1000000 in
theorem rfind9_any (v : Value) (l : List Pr) (k : List UInt8) (w : World) (hv : PS w v l) :
    Calls Tryd.prog 50 #[v, kst k] w (Found l k w) := by
  obtain ⟨A, c, rfl, l1, l2, _, _⟩ := id hv
  have l3 := hv.bd.2.2
  have HL := Lib.hid hv
  clear hv l2
  unfold kst
  go_enter Tryd.func50, Tryd.ntmps50
  go_wp2
  go_loopw [6] (fun i wr => ∃ j : Nat, j ≤ l.length ∧ i = .int .i64 j ∧ Hid (∀ i p, i < j → l[i]? = some p → p.k ≠ k) ∧ Hid (Whole wr w.heap.size 36 #[.int .i64 0, .slice none 0 0, .int .i64 0, .int .i64 0, .int .i64 0]) ∧ Hid (Below w.heap.size w wr)) (fun i _ => l.length - (intOf i).toNat)
  case atStart => exact ⟨0, by omega, rfl, Lib.hid (fun i p h => by omega), Lib.hid (Whole.made w _ _), Lib.hid ((Below.refl _ _).alloc (Nat.le_refl _) _)⟩
  case round =>
    obtain ⟨j, hj, rfl, hne, P4, hB⟩ := hrel
    by_cases hlt : j < l.length
    · obtain ⟨b, off, p, Ad, cd, rfl, hp, c0, c1, c2, c3, c4, c5, hd⟩ := PS.at6 (HL.out.keep (Keeps.below hB.out)) hlt
      replace hd := Lib.hid hd
      replace hp := Lib.hid hp
      by_cases hk : p.k = k
      · subst hk
        have he := Lib.hid (show fnd l p.k = some p.c from fnd_at hp.out rfl fun i q hi hq => hne.out i q hi hq)
        go_wp2_with (show wpList _ _ _ (Oper.mk _ (.store _ (.tmp 4) _) _ _ _ _ :: _) _ _; refine wpList_store_row rfl _ (.tmp 4) (.tmp 24) rfl (w.heap.size) _ rfl rfl _ _ (P4.out) (by kernel_rfl) rfl (by simp [Value.oneCell']) ?_)
        refine bodyPost_ret (v := .tuple #[.agg #[.int .i64 p.c.k, .slice Ad p.c.d.length cd, .int .i64 p.c.lo, .int .i64 p.c.hi, .int .i64 p.c.v], .bool true]) ?_ rfl (found_yes he.out rfl (sv_blk' P4.out (own_nou8 zeroC _ rfl) hd.out (but_setRow _ _ _)) (below_setRow hB.out (Nat.le_refl _) _))
        exact results_cell_tmp rfl _ _ (w.heap.size) _ _ (0, 0) _ rfl (setRow_heap _ _ _ _ _ _ P4.out) Tryd.underlying36 rfl (by kernel_rfl) _ rfl
      · have HK := Lib.hid hk
        have hk2 : (p.k == k) = false := by simpa using hk
        go_wp2
        go_roundw
        case rel => exact ⟨j + 1, by omega, by go_num, Lib.hid (fun i q hi hq => by
          rcases Nat.lt_or_ge i j with h | h
          · exact hne.out i q h hq
          · have : i = j := by omega
            subst this
            have hp' := hp.out
            rw [hq] at hp'
            injection hp' with hp'
            rw [hp']
            exact HK.out), P4, hB⟩
        case measure => simp [intOf]; omega
    · obtain rfl : j = l.length := by omega
      have he : fnd l k = none := fnd_none fun p hp => by
        obtain ⟨i, hi⟩ := List.getElem?_of_mem hp
        exact hne.out i p (List.getElem?_eq_some_iff.1 hi).1 hi
      replace he := Lib.hid he
      go_wp2_with (show wpList _ _ _ (Oper.mk _ (.store _ (.tmp 4) _) _ _ _ _ :: _) _ _; refine wpList_store_row rfl _ (.tmp 4) (.tmp 25) rfl (w.heap.size) _ rfl rfl _ _ (P4.out) (by kernel_rfl) rfl (by simp [Value.oneCell']) ?_)
      refine bodyPost_ret (v := .tuple #[.agg #[.int .i64 0, .slice none 0 0, .int .i64 0, .int .i64 0, .int .i64 0], .bool false]) ?_ rfl (found_no he.out rfl (below_setRow hB.out (Nat.le_refl _) _))
      exact results_cell_tmp rfl _ _ (w.heap.size) _ _ (0, 0) _ rfl (setRow_heap _ _ _ _ _ _ P4.out) Tryd.underlying36 rfl (by kernel_rfl) _ rfl
end Go.Proofs.YtlpgmmcdcjkkiaaDoor
