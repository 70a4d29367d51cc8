/- Layer 8: whether a patch may be: the program's and the reference's. -/
import Derived.Test.YtafmggipmaofnaaPatch
namespace Go.Proofs.Ytafmggipmaofnaa
set_option maxRecDepth 20000
open Go.RowKit

/-- A patch as a value. -/
structure Pt where
  pg : Int
  fr : Bool
  rs : List Rn
deriving DecidableEq
def pv (v : Value) (x : Pt) : Value := .agg #[.int .i64 x.pg, .bool x.fr, v]
def okP8 (x : Pt) : Bool := decide (0 ≤ x.pg ∧ x.pg ≤ 65535 ∧ x.rs.length ≤ 500 ∧ okRuns 0 x.rs = true)
def ck8 (x : Pt) : Int := if okP8 x then 0 else 1
/-- Numbers and lengths are those of a program's values. -/
def Sane (l : List Rn) : Prop := ∀ r ∈ l, i64 r.p ∧ r.d.length ≤ 9223372036854775807
theorem ck8_no {x : Pt} (h : ¬ (0 ≤ x.pg ∧ x.pg ≤ 65535 ∧ x.rs.length ≤ 500 ∧ okRuns 0 x.rs = true)) : okP8 x = false := decide_eq_false h
theorem ck8_yes {x : Pt} (h : 0 ≤ x.pg ∧ x.pg ≤ 65535 ∧ x.rs.length ≤ 500 ∧ okRuns 0 x.rs = true) : okP8 x = true := decide_eq_true h
theorem ret_i {a b : Int} (h : a = b) : Ending.returned (.int .i64 a) = .returned (.int .i64 b) := by rw [h]

set_option maxHeartbeats 4000000 in
theorem check8_any (x : Pt) (vr : Value) (w : World) (hpg : i64 x.pg) (hr : RS w vr x.rs) (hs : Sane x.rs) :
    Calls Try.prog 12 #[pv vr x] w fun e w' => e = .returned (.int .i64 (ck8 x)) ∧ Below w.heap.size w w' := by
  obtain ⟨pg, fr, l⟩ := x
  unfold ck8
  have HY := Lib.hid (@ck8_yes ⟨pg, fr, l⟩)
  have HN := Lib.hid (@ck8_no ⟨pg, fr, l⟩)
  generalize okP8 ⟨pg, fr, l⟩ = g at *
  simp only at hpg hr hs
  obtain ⟨Al, cl, rfl, l1, l2, _, _⟩ := id hr
  have l3 := hr.bd.2.2
  unfold pv
  unfold i64 at hpg
  simp only
  by_cases c1 : pg < 0
  · obtain rfl : g = false := HN.out (by simp only; omega)
    clear hr hs
    go_enter Try.func12, Try.ntmps12
    go_wp2
    go_ret
    exact ⟨rfl, (Below.refl _ _).alloc (Nat.le_refl _) _⟩
  by_cases c2 : 65535 < pg
  · obtain rfl : g = false := HN.out (by simp only; omega)
    clear hr hs
    go_enter Try.func12, Try.ntmps12
    go_wp2
    go_ret
    exact ⟨rfl, (Below.refl _ _).alloc (Nat.le_refl _) _⟩
  by_cases c3 : 500 < l.length
  · obtain rfl : g = false := HN.out (by simp only; omega)
    clear hr hs
    go_enter Try.func12, Try.ntmps12
    go_wp2
    go_ret
    exact ⟨rfl, (Below.refl _ _).alloc (Nat.le_refl _) _⟩
  have HL := Lib.hid hr
  have HS := Lib.hid hs
  clear hr hs
  go_enter Try.func12, Try.ntmps12
  go_wp2
  go_loopw [3, 23] (fun b i wr => ∃ k : Nat, k ≤ l.length ∧ i = .int .i64 k ∧ b = .int .i64 (bh l k) ∧ okRuns 0 l = okRuns (bh l k) (l.drop k) ∧ (∀ j r, j < k → l[j]? = some r → wthn r = true) ∧ Below w.heap.size w wr) (fun _ i _ => l.length - (intOf i).toNat)
  case atStart => exact ⟨0, by omega, rfl, rfl, rfl, fun j r h => by omega, (Below.refl _ _).alloc (Nat.le_refl _) _⟩
  case round =>
    obtain ⟨k, hk, rfl, rfl, hok, hall, hB⟩ := hrel
    have hbb := bh_bd hall
    by_cases hlt : k < l.length
    · obtain ⟨bl, ol, r, D, rfl, hr, cr1, cr2, cr3⟩ := RS.at (HL.out.keep (Keeps.below hB)) hlt
      have hsr := HS.out r (List.mem_of_getElem? hr)
      have hst := ok_step hr
      obtain ⟨Ad, cd, rfl, _⟩ := cr3
      rw [bys_len] at cr2
      have CW := Lib.hid (fun w' => within8_any r Ad r.d.length cd w' rfl hsr.1 hsr.2)
      have hB1 := hB.alloc hB.size (.cells #[.int .i64 r.p, .slice Ad r.d.length cd] 56)
      generalize bh l k = b at *
      unfold rv at CW
      cases hw : wthn r with
      | false =>
        rw [hw] at hst CW
        rw [hst] at hok
        obtain rfl : g = false := HN.out (fun h => by have h1 : okRuns 0 l = true := h.2.2.2; rw [hok] at h1; simp at h1)
        go_wp2_with (go_at_call 24; refine (CW.out _).mono ?_; rintro e w1 ⟨rfl, b1⟩; have hw5 := (Whole.made wr 56 #[.int .i64 r.p, .slice Ad r.d.length cd]).on b1; have q0 : w1.cell? ⟨wr.heap.size, 0, none⟩ = some (.int .i64 r.p) := hw5.cell 0; have q1 : w1.cell? ⟨wr.heap.size, 1, none⟩ = some (.slice Ad r.d.length cd) := hw5.cell 1)
        go_ret
        exact ⟨rfl, hB1.trans (b1.mono hB1.size)⟩
      | true =>
        have hwi := (wthn_iff r).1 hw
        have CE := Lib.hid (fun w' => end_any r Ad r.d.length cd w' rfl (by omega) (by omega))
        unfold rv at CE
        rw [hw] at hst CW
        by_cases hb : b < r.p
        · rw [decide_eq_true hb, Bool.true_and, Bool.true_and] at hst
          go_wp2_with (first
            | (go_at_call 24; refine (CW.out _).mono ?_; rintro e w1 ⟨rfl, b1⟩; have hw5 := (Whole.made wr 56 #[.int .i64 r.p, .slice Ad r.d.length cd]).on b1; have q0 : w1.cell? ⟨wr.heap.size, 0, none⟩ = some (.int .i64 r.p) := hw5.cell 0; have q1 : w1.cell? ⟨wr.heap.size, 1, none⟩ = some (.slice Ad r.d.length cd) := hw5.cell 1)
            | (go_at_call 23; refine (CE.out _).mono ?_; rintro e w2 ⟨rfl, b2⟩))
          go_roundw
          case rel => exact ⟨k + 1, by omega, by go_num, by simp only [bh, hr], by rw [hok, hst], fun j s hj hs => by
            rcases Nat.lt_or_ge j k with h | h
            · exact hall j s h hs
            · have : j = k := by omega
              subst this
              rw [hr] at hs
              injection hs with hs
              rw [← hs]
              exact hw, hB1.trans ((bthen b1 b2).mono hB1.size)⟩
          case measure => simp [intOf]; omega
        · rw [decide_eq_false hb] at hst
          rw [hst] at hok
          obtain rfl : g = false := HN.out (fun h => by have h1 : okRuns 0 l = true := h.2.2.2; rw [hok] at h1; simp at h1)
          go_wp2_with (go_at_call 24; refine (CW.out _).mono ?_; rintro e w1 ⟨rfl, b1⟩; have hw5 := (Whole.made wr 56 #[.int .i64 r.p, .slice Ad r.d.length cd]).on b1; have q0 : w1.cell? ⟨wr.heap.size, 0, none⟩ = some (.int .i64 r.p) := hw5.cell 0; have q1 : w1.cell? ⟨wr.heap.size, 1, none⟩ = some (.slice Ad r.d.length cd) := hw5.cell 1)
          go_ret
          exact ⟨rfl, hB1.trans (b1.mono hB1.size)⟩
    · obtain rfl : k = l.length := by omega
      have hyes : okRuns 0 l = true := by rw [hok, List.drop_length]; rfl
      obtain rfl : g = true := HY.out ⟨by omega, by omega, by omega, hyes⟩
      go_wp2
      go_ret
      exact ⟨rfl, hB⟩
end Go.Proofs.Ytafmggipmaofnaa
