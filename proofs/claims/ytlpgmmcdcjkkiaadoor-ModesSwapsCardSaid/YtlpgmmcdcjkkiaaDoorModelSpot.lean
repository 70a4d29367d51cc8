/- Where a key belongs: the program's spot (a binary search). -/
import Derived.Test.YtlpgmmcdcjkkiaaDoorModelFind
namespace Go.Proofs.YtlpgmmcdcjkkiaaDoor
set_option maxRecDepth 20000
open Go.RowKit Go.Sort

theorem cmp_lt : ∀ (a b : List UInt8), Lib.compareBytes a b < 0 ↔ a < b
  | [], [] => by simp [Lib.compareBytes]
  | [], y :: b => by simp [Lib.compareBytes]
  | x :: a, [] => by simp [Lib.compareBytes]
  | x :: a, y :: b => by
    have ih := cmp_lt a b
    simp only [Lib.compareBytes, List.cons_lt_cons_iff]
    by_cases h1 : x < y
    · simp [h1]
    · rw [if_neg h1]
      by_cases h2 : y < x
      · rw [if_pos h2]
        have : x ≠ y := by rintro rfl; exact h1 h2
        simp [h1, this]
      · rw [if_neg h2, ih]
        have : x = y := UInt8.le_antisymm (UInt8.not_lt.1 h2) (UInt8.not_lt.1 h1)
        simp [this]
theorem cmp_eq0 : ∀ (a b : List UInt8), Lib.compareBytes a b = 0 ↔ a = b
  | [], [] => by simp [Lib.compareBytes]
  | [], y :: b => by simp [Lib.compareBytes]
  | x :: a, [] => by simp [Lib.compareBytes]
  | x :: a, y :: b => by
    have ih := cmp_eq0 a b
    simp only [Lib.compareBytes, List.cons.injEq]
    by_cases h1 : x < y
    · have : x ≠ y := by rintro rfl; exact UInt8.lt_irrefl _ h1
      simp [h1, this]
    · rw [if_neg h1]
      by_cases h2 : y < x
      · have : x ≠ y := by rintro rfl; exact h1 h2
        simp [h2, this]
      · rw [if_neg h2, ih]
        have : x = y := UInt8.le_antisymm (UInt8.not_lt.1 h2) (UInt8.not_lt.1 h1)
        simp [this]
theorem cmpstr_any (a b : ByteArray) (w : World) : Calls Tryd.prog 89 #[.string a, .string b] w fun e w' => e = .returned (.int .i64 (Lib.compareBytes a.data.toList b.data.toList)) ∧ w' = w := by
  go_enter Tryd.func89, Tryd.ntmps89
  go_wp2
  rw [run_callFunc_extern Tryd.func98 (by kernel_rfl) (by kernel_rfl) (by kernel_rfl) (e := Extern.BytealgCompare.compare) (by kernel_rfl), Lib.run_compareString]
  simp only [Result.andThen]
  rw [Oper.upon_value]
  go_wp2
  go_ret
  exact ⟨rfl, rfl⟩
theorem compare_any (a b : ByteArray) (w : World) : Calls Tryd.prog 72 #[.string a, .string b] w fun e w' => e = .returned (.int .i64 (Lib.compareBytes a.data.toList b.data.toList)) ∧ w' = w := by
  go_enter Tryd.func72, Tryd.ntmps72
  go_wp2_with (go_at_call 89; refine (cmpstr_any _ _ _).mono ?_; rintro e w' ⟨rfl, rfl⟩)
  go_ret
  exact ⟨rfl, rfl⟩
/-- The comparison of a pair with a key. -/
theorem spotcmp_any (p : Pr) (A : Option Addr) (n c : Nat) (k : List UInt8) (w : World) : Calls Tryd.prog 71 #[.agg #[.string ⟨p.k.toArray⟩, .int .i64 p.c.k, .slice A n c, .int .i64 p.c.lo, .int .i64 p.c.hi, .int .i64 p.c.v], .string ⟨k.toArray⟩] w fun e w' => e = .returned (.int .i64 (Lib.compareBytes p.k k)) ∧ Below w.heap.size w w' := by
  have C := Lib.hid (fun w => compare_any ⟨p.k.toArray⟩ ⟨k.toArray⟩ w)
  go_enter Tryd.func71, Tryd.ntmps71
  go_wp2_with (go_at_call 72; refine (C.out _).mono ?_; rintro e w' ⟨rfl, rfl⟩)
  go_ret
  exact ⟨rfl, (Below.refl _ _).alloc (Nat.le_refl _) _⟩
theorem up_lt {l : List Pr} (hu : UpP l) {t a : Nat} {q p : Pr} {k : List UInt8} (h : t < a) (hq : l[t]? = some q) (hp : l[a]? = some p) (hx : p.k < k) : q.k < k := lt_tr (up_get hu h hq hp) hx
theorem up_ge {l : List Pr} (hu : UpP l) {t a : Nat} {q p : Pr} {k : List UInt8} (h : a < t) (hp : l[a]? = some p) (hq : l[t]? = some q) (hx : ¬ p.k < k) : ¬ q.k < k := fun h' => hx (lt_tr (up_get hu h hp hq) h')
set_option maxHeartbeats 1000000 in
theorem search_any (v : Value) (l : List Pr) (k : List UInt8) (w : World) (hv : PS w v l) (hup : UpP l) (hs : l.length ≤ 1000000) :
    Calls Tryd.prog 70 #[v, kst k, .func (.func 71) #[] #[]] w fun e w' => e = .returned (.tuple #[.int .i64 (lowP l k), .bool (hasP l k)]) ∧ Below w.heap.size w w' := by
  obtain ⟨A, c, rfl, l1, l2, _, _⟩ := id hv
  have HL := Lib.hid hv
  have HU := Lib.hid hup
  clear hv hup l2
  unfold kst
  go_enter Tryd.func70, Tryd.ntmps70
  go_wp2
  go_loopw [9, 10] (fun i j wr => ∃ a b : Nat, a ≤ b ∧ b ≤ l.length ∧ i = .int .i64 a ∧ j = .int .i64 b ∧ Hid (∀ t p, t < a → l[t]? = some p → p.k < k) ∧ Hid (∀ t p, b ≤ t → l[t]? = some p → ¬ p.k < k) ∧ Hid (Below w.heap.size w wr)) (fun i j _ => (intOf j).toNat - (intOf i).toNat)
  case atStart => exact ⟨0, l.length, by omega, by omega, rfl, rfl, Lib.hid (fun t p h => by omega), Lib.hid (fun t p h ht => by have := (List.getElem?_eq_some_iff.1 ht).1; omega), Lib.hid (Below.refl _ _)⟩
  case round =>
    obtain ⟨a, b, hab, hb, rfl, rfl, h1, h2, hB⟩ := hrel
    by_cases hlt : a < b
    · obtain ⟨bl, off, p, Ad, cd, rfl, hp, c0, c1, c2, c3, c4, c5, hd⟩ := PS.at6 (HL.out.keep (Keeps.below hB.out)) (show (a + b) / 2 < l.length by omega)
      have CC := Lib.hid (fun w' => spotcmp_any p Ad p.c.d.length cd k w')
      clear hd
      replace hp := Lib.hid hp
      have hlt3 : Lib.compareBytes p.k k < 0 ↔ p.k < k := cmp_lt _ _
      by_cases hx : p.k < k
      · have hneg := hlt3.2 hx
        replace hx := Lib.hid hx
        clear hlt3
        go_wp2_with (go_at_call 71; refine (CC.out _).mono ?_; rintro e w1 ⟨rfl, b1⟩; have B1 := Lib.hid (hB.out.trans (b1.mono hB.out.size)); clear b1)
        go_roundw
        case rel => exact ⟨(a + b) / 2 + 1, b, by omega, by omega, by go_num, rfl, Lib.hid (fun t q ht hq => by
          rcases Nat.lt_or_ge t ((a + b) / 2) with h | h
          · exact up_lt HU.out h hq hp.out hx.out
          · have : t = (a + b) / 2 := by omega
            subst this
            have hp' := hp.out
            rw [hq] at hp'
            injection hp' with hp'
            rw [hp']
            exact hx.out), h2, B1⟩
        case measure => simp [intOf]; omega
      · have hneg : ¬ Lib.compareBytes p.k k < 0 := fun h => hx (hlt3.1 h)
        replace hx := Lib.hid hx
        clear hlt3
        go_wp2_with (go_at_call 71; refine (CC.out _).mono ?_; rintro e w1 ⟨rfl, b1⟩; have B1 := Lib.hid (hB.out.trans (b1.mono hB.out.size)); clear b1)
        go_roundw
        case rel => exact ⟨a, (a + b) / 2, by omega, by omega, rfl, by go_num, h1, Lib.hid (fun t q ht hq => by
          rcases Nat.lt_or_ge ((a + b) / 2) t with h | h
          · exact up_ge HU.out h hp.out hq hx.out
          · have : t = (a + b) / 2 := by omega
            subst this
            have hp' := hp.out
            rw [hq] at hp'
            injection hp' with hp'
            rw [hp']
            exact hx.out), B1⟩
        case measure => simp [intOf]; omega
    · obtain rfl : a = b := by omega
      have ha : a = lowP l k := lowP_one (by omega) h1.out (fun p hp => h2.out a p (Nat.le_refl _) hp)
      by_cases hn : a < l.length
      · obtain ⟨bl, off, p, Ad, cd, rfl, hp, c0, c1, c2, c3, c4, c5, hd⟩ := PS.at6 (HL.out.keep (Keeps.below hB.out)) hn
        have CC := Lib.hid (fun w' => spotcmp_any p Ad p.c.d.length cd k w')
        have hh : hasP l k = decide (Lib.compareBytes p.k k = 0) := by
          unfold hasP
          rw [← ha, hp]
          simp only [cmp_eq0]
          by_cases h : p.k = k <;> simp [h]
        replace hh := Lib.hid hh
        replace ha := Lib.hid ha
        clear hd hp
        go_wp2_with (go_at_call 71; refine (CC.out _).mono ?_; rintro e w1 ⟨rfl, b1⟩; have B1 := Lib.hid (hB.out.trans (b1.mono hB.out.size)); clear b1)
        exact bodyPost_ret (v := .tuple #[.int .i64 a, .bool (Lib.compareBytes p.k k == 0)]) (by simp [results, Tryd.results70, go_sem]) rfl ⟨by rw [← ha.out, hh.out]; rfl, B1.out⟩
      · have hh : hasP l k = false := by
          unfold hasP
          rw [← ha, List.getElem?_eq_none (by omega)]
        replace hh := Lib.hid hh
        replace ha := Lib.hid ha
        go_wp2
        exact bodyPost_ret (v := .tuple #[.int .i64 a, .bool false]) (by simp [results, Tryd.results70, go_sem]) rfl ⟨by rw [← ha.out, hh.out], hB.out⟩
theorem spot9_any (v : Value) (l : List Pr) (k : List UInt8) (w : World) (hv : PS w v l) (hup : UpP l) (hs : l.length ≤ 1000000) :
    Calls Tryd.prog 44 #[v, kst k] w fun e w' => e = .returned (.tuple #[.int .i64 (lowP l k), .int .i64 (endP l k)]) ∧ Below w.heap.size w w' := by
  have CS := search_any v l k w hv hup hs
  have hle := lowP_le l k
  clear hv hup
  unfold kst at CS ⊢
  unfold endP
  generalize lowP l k = a at *
  cases hh : hasP l k with
  | true =>
    rw [hh] at CS
    clear hh
    replace CS := Lib.hid CS
    simp only [if_true]
    go_enter Tryd.func44, Tryd.ntmps44
    go_wp2_with fail
    refine CS.out.mono ?_
    rintro e w1 ⟨rfl, b1⟩
    replace b1 := Lib.hid b1
    go_wp2
    exact bodyPost_ret (v := .tuple #[.int .i64 a, .int .i64 (a + 1)]) (by simp [results, Tryd.results44, go_sem]) rfl ⟨rfl, b1.out⟩
  | false =>
    rw [hh] at CS
    clear hh
    replace CS := Lib.hid CS
    simp only [Bool.false_eq_true, if_false]
    go_enter Tryd.func44, Tryd.ntmps44
    go_wp2_with fail
    refine CS.out.mono ?_
    rintro e w1 ⟨rfl, b1⟩
    replace b1 := Lib.hid b1
    go_wp2
    exact bodyPost_ret (v := .tuple #[.int .i64 a, .int .i64 a]) (by simp [results, Tryd.results44, go_sem]) rfl ⟨rfl, b1.out⟩
end Go.Proofs.YtlpgmmcdcjkkiaaDoor
