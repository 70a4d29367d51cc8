/- Layer 8: the law PatchApplies. -/
import Derived.Test.YtafmggipmaofnaaPatchLive
import Derived.Test.YtafmggipmaofnaaPatchMuch
import Derived.Test.YtafmggipmaofnaaPatchSame
namespace Go.Proofs.Ytafmggipmaofnaa
set_option maxRecDepth 20000
open Go.RowKit

theorem code8_any (x : Int) (w : World) : Calls Try.prog 10 #[.int .i64 x] w fun e w' => e = .returned (.int .i64 x) ∧ Below w.heap.size w w' := by
  go_enter Try.func10, Try.ntmps10
  go_wp2
  go_ret
  exact ⟨rfl, Below.refl _ _⟩

set_option maxHeartbeats 4000000 in
theorem applies8_law (l : List UInt8) (rs : List Rn) (vr : Value) (w : World) (hl : l.length = 512) (hr : RS w vr rs) (hs : Sane rs) :
    Calls Try.prog 4 #[.agg (ab l), vr] w fun e w' => e = .returned (.bool true) ∧ Below w.heap.size w w' := by
  have hz := (zero_of_info Try.zinfo24).1
  have LV := Lib.hid (fun w => live8_any w)
  have HR := Lib.hid hr
  have HS := Lib.hid hs
  have AP := Lib.hid (fun w' (h : Below w.heap.size w w') => apply_any l rs vr w' hl (hr.keep (Keeps.below h)) hs)
  have RA := Lib.hid (fun w' (h : Below w.heap.size w w') (vp : Value) (hp : SV w' vp (bys l)) => refApply_any l rs vp vr w' hl hp (hr.keep (Keeps.below h)) hs)
  have hal := apply_len rs l hl
  generalize applyR l rs = G at *
  obtain ⟨out, code⟩ := G
  simp only at hal AP RA
  clear hr hs
  obtain ⟨A, c, rfl, _⟩ := id HR.out
  go_enter Try.func4, Try.ntmps4
  go_wp2_with fail
  have p0 := Lib.hid (Whole.made w 22 (ab l))
  have B0 := Lib.hid ((Below.refl w.heap.size w).alloc (Nat.le_refl _) (.cells (ab l) 22))
  generalize w.alloc (.cells (ab l) 22) = w0 at *
  refine (much_any _ rs _ (HR.out.keep (Keeps.below B0.out)) fun r h => (HS.out r h).2).mono ?_
  rintro e w1 ⟨g, rfl, hg, b1⟩
  have B1 := Lib.hid (B0.out.trans (b1.mono B0.out.size))
  have p1 := Lib.hid (p0.out.on b1)
  clear b1 hg
  cases g with
  | true =>
    go_wp2_with fail
    refine (LV.out _).mono ?_
    rintro e w2 ⟨rfl, b2⟩
    go_wp2
    go_ret
    exact ⟨rfl, B1.out.trans (b2.mono B1.out.size)⟩
  | false =>
    go_wp2_with (first
      | ((refine wpList_load_ab rfl _ (.tmp 2) rfl (w.heap.size) rfl _ _ _ (l) (hl) (p1.out) Try.underlying22 (by kernel_rfl) ?_))
      | fail)
    refine (AP.out _ B1.out).mono ?_
    rintro e w2 ⟨rfl, b2⟩
    have B2 := Lib.hid (B1.out.trans (b2.mono B1.out.size))
    have p2 := Lib.hid (p1.out.on b2)
    clear b2
    go_wp2_with (first
      | ((refine wpList_store_ab rfl _ (.tmp 5) (.tmp 16) rfl (w2.heap.size) rfl (out) rfl _ _ (hal) (z512) (z512_len) (Whole.made w2 _ _) (by kernel_rfl) ?_); intro w3 q3 e3; rw [World.setRow_alloc_new] at e3; have E3 := Lib.hid e3; clear e3)
      | fail)
    have B3 := Lib.hid (show Below w.heap.size w w3 by rw [E3.out]; exact B2.out.alloc B2.out.size _)
    have p3 := Lib.hid (show Whole w3 w.heap.size 22 (ab l) by rw [E3.out]; exact p2.out.later _)
    refine (RA.out _ B3.out _ (sv_ab p3.out 512 hl (by omega))).mono ?_
    rintro e w4 ⟨v4, rfl, hv4, b4⟩
    have B4 := Lib.hid (B3.out.trans (b4.mono B3.out.size))
    have q4 := Lib.hid (q3.out.on b4)
    have V4 := Lib.hid hv4
    clear b4 hv4
    have hoo : (out == out) = true := by simp
    go_wp2_with (first
      | (go_at_call 11; refine (same_any _ v4 out out w4 (sv_ab q4.out 512 hal (by omega)) V4.out).mono ?_; rintro e w5 ⟨rfl, rfl⟩; rw [hoo])
      | (go_at_call 10; refine (code8_any _ _).mono ?_; rintro e w6 ⟨rfl, b6⟩; have B6 := Lib.hid b6; clear b6)
      | (go_at_call 13; refine (LV.out _).mono ?_; rintro e w7 ⟨rfl, b7⟩; have B7 := Lib.hid b7; clear b7))
    go_ret
    exact ⟨rfl, B4.out.trans ((bthen B6.out B7.out).mono B4.out.size)⟩
end Go.Proofs.Ytafmggipmaofnaa
