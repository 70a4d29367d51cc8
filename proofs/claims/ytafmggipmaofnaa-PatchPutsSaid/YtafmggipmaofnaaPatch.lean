/- Layer 8: a run's end, and whether it has a place: the program's and the reference's. -/
import Derived.Test.YtafmggipmaofnaaPatchMem
import Derived.Test.YtafmggipmaofnaaChecked
namespace Go.Proofs.Ytafmggipmaofnaa
set_option maxRecDepth 20000
open Go.RowKit

theorem end_any (r : Rn) (A : Option Addr) (n c : Nat) (w : World) (hn : n = r.d.length) (h0 : 0 ≤ r.p ∧ r.p ≤ 1000) (hm : n ≤ 1000) :
    Calls Try.prog 23 #[rv (.slice A n c) r] w fun e w' => e = .returned (.int .i64 (r.p + r.d.length)) ∧ Below w.heap.size w w' := by
  subst hn
  obtain ⟨p, d⟩ := r
  simp only at *
  unfold rv
  simp only
  generalize d.length = n at *
  go_enter Try.func23, Try.ntmps23
  go_wp2
  go_ret
  exact ⟨ret_int (by go_num), (Below.refl _ _).alloc (Nat.le_refl _) _⟩

theorem within8_any (r : Rn) (A : Option Addr) (n c : Nat) (w : World) (hn : n = r.d.length) (h0 : i64 r.p) (hm : n ≤ 9223372036854775807) :
    Calls Try.prog 24 #[rv (.slice A n c) r] w fun e w' => e = .returned (.bool (wthn r)) ∧ Below w.heap.size w w' := by
  have hy := wthn_iff r
  have hno := wthn_no r
  generalize wthn r = g at *
  subst hn
  obtain ⟨p, d⟩ := r
  unfold i64 at h0
  simp only at *
  unfold rv
  simp only
  generalize d.length = n at *
  by_cases c1 : n = 0
  · obtain rfl : g = false := hno.2 (by omega)
    clear hy hno
    subst c1
    go_enter Try.func24, Try.ntmps24
    go_wp2
    go_ret
    exact ⟨rfl, (Below.refl _ _).alloc (Nat.le_refl _) _⟩
  · by_cases c2 : p < 12
    · obtain rfl : g = false := hno.2 (by omega)
      clear hy hno
      go_enter Try.func24, Try.ntmps24
      go_wp2
      go_ret
      exact ⟨rfl, (Below.refl _ _).alloc (Nat.le_refl _) _⟩
    · by_cases c3 : p ≤ 512 - n
      · obtain rfl : g = true := hy.2 (by omega)
        clear hy hno
        go_enter Try.func24, Try.ntmps24
        go_wp2
        go_ret
        exact ⟨rfl, (Below.refl _ _).alloc (Nat.le_refl _) _⟩
      · obtain rfl : g = false := hno.2 (by omega)
        clear hy hno
        go_enter Try.func24, Try.ntmps24
        go_wp2
        go_ret
        exact ⟨rfl, (Below.refl _ _).alloc (Nat.le_refl _) _⟩

theorem rwithin8_any (r : Rn) (A : Option Addr) (n c : Nat) (w : World) (hn : n = r.d.length) (h0 : i64 r.p) (hm : n ≤ 9223372036854775807) :
    Calls Try.prog 26 #[rv (.slice A n c) r] w fun e w' => e = .returned (.bool (wthn r)) ∧ Below w.heap.size w w' := by
  have hy := wthn_iff r
  have hno := wthn_no r
  generalize wthn r = g at *
  subst hn
  obtain ⟨p, d⟩ := r
  unfold i64 at h0
  simp only at *
  unfold rv
  simp only
  generalize d.length = n at *
  by_cases c1 : n = 0
  · obtain rfl : g = false := hno.2 (by omega)
    clear hy hno
    subst c1
    go_enter Try.func26, Try.ntmps26
    go_wp2
    go_ret
    exact ⟨rfl, (Below.refl _ _).alloc (Nat.le_refl _) _⟩
  by_cases c2 : 500 < n
  · obtain rfl : g = false := hno.2 (by omega)
    clear hy hno
    go_enter Try.func26, Try.ntmps26
    go_wp2
    go_ret
    exact ⟨rfl, (Below.refl _ _).alloc (Nat.le_refl _) _⟩
  by_cases c3 : p < 12
  · obtain rfl : g = false := hno.2 (by omega)
    clear hy hno
    go_enter Try.func26, Try.ntmps26
    go_wp2
    go_ret
    exact ⟨rfl, (Below.refl _ _).alloc (Nat.le_refl _) _⟩
  by_cases c4 : p + n ≤ 512
  · obtain rfl : g = true := hy.2 (by omega)
    clear hy hno
    have c5 : p ≤ 512 := by omega
    go_enter Try.func26, Try.ntmps26
    go_wp2
    go_ret
    exact ⟨rfl, (Below.refl _ _).alloc (Nat.le_refl _) _⟩
  obtain rfl : g = false := hno.2 (by omega)
  clear hy hno
  by_cases c6 : p + n ≤ 9223372036854775807
  · go_enter Try.func26, Try.ntmps26
    go_wp2
    go_ret
    exact ⟨rfl, (Below.refl _ _).alloc (Nat.le_refl _) _⟩
  · have c7 : ¬ p ≤ 512 := by omega
    have c8 : wrap64 (p + n) ≤ 512 := by unfold wrap64; omega
    go_enter Try.func26, Try.ntmps26
    go_wp2
    go_ret
    exact ⟨rfl, (Below.refl _ _).alloc (Nat.le_refl _) _⟩
end Go.Proofs.Ytafmggipmaofnaa
