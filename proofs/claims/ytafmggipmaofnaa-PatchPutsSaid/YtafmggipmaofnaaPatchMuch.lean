/- Layer 8: more runs than is asked? whether a patch may be: the reference's and the program's. -/
import Derived.Test.YtafmggipmaofnaaPatch
namespace Go.Proofs.Ytafmggipmaofnaa
set_option maxRecDepth 20000
open Go.RowKit

set_option maxHeartbeats 1000000 in
/-- The reference's Much: where it says no, the runs are few and short. -/
theorem much_any (vl : Value) (l : List Rn) (w : World) (hl : RS w vl l) (hlen : ∀ r ∈ l, r.d.length ≤ 9223372036854775807) :
    Calls Try.prog 14 #[vl] w fun e w' => ∃ g, e = .returned (.bool g) ∧ (g = false → l.length ≤ 60 ∧ ∀ r ∈ l, r.d.length ≤ 600) ∧ Below w.heap.size w w' := by
  obtain ⟨Al, cl, rfl, l1, l2, _, _⟩ := id hl
  have l3 := hl.bd.2.2
  have HL := Lib.hid hl
  clear hl
  go_enter Try.func14, Try.ntmps14
  go_wp2
  go_loopw [3] (fun i wr => ∃ k : Nat, k ≤ l.length ∧ k ≤ 100 ∧ i = .int .i64 k ∧ (∀ j r, j < k → l[j]? = some r → r.d.length ≤ 600) ∧ wr = w) (fun i _ => l.length - (intOf i).toNat)
  case atStart => exact ⟨0, by omega, by omega, rfl, fun j r h => by omega, rfl⟩
  case round =>
    obtain ⟨k, hk, hk1, rfl, htk, rfl⟩ := hrel
    by_cases hlt : k < l.length
    · by_cases h100 : k < 100
      · obtain ⟨bl, ol, r, D, rfl, hr, cr1, cr2, cr3⟩ := RS.at HL.out hlt
        have hrl := hlen r (List.mem_of_getElem? hr)
        obtain ⟨Ad, cd, rfl, _⟩ := cr3
        rw [bys_len] at cr2
        by_cases h6 : 600 < r.d.length
        · go_wp2
          go_ret
          exact ⟨true, rfl, (fun h => (by cases h)), Below.refl _ _⟩
        · go_wp2
          go_roundw
          case rel => exact ⟨k + 1, by omega, by omega, by go_num, fun j s hj hs => by
            rcases Nat.lt_or_ge j k with h | h
            · exact htk j s h hs
            · have : j = k := by omega
              subst this
              rw [hr] at hs
              injection hs with hs
              subst hs
              omega, by trivial⟩
          case measure => simp [intOf]; omega
      · have h60 : 60 < l.length := by omega
        go_wp2
        go_ret
        exact ⟨_, rfl, (fun h => (by have := of_decide_eq_false h; omega)), Below.refl _ _⟩
    · obtain rfl : k = l.length := by omega
      have hall : ∀ r ∈ l, r.d.length ≤ 600 := fun r hr => by
        obtain ⟨j, hj, rfl⟩ := List.getElem_of_mem hr
        exact htk j _ hj (List.getElem?_eq_getElem hj)
      go_wp2
      go_ret
      exact ⟨_, rfl, (fun h => ⟨(by have := of_decide_eq_false h; omega), hall⟩), Below.refl _ _⟩
end Go.Proofs.Ytafmggipmaofnaa
