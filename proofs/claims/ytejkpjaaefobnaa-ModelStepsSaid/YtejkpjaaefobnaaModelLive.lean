/- The statements' example; how an error's number is told. -/
import Derived.Test.YtejkpjaaefobnaaModelRun
namespace Go.Proofs.Ytejkpjaaefobnaa
set_option maxRecDepth 20000
open Go.RowKit Go.Sort

theorem code9_any (n : Int) (w : World) : Calls Try.prog 17 #[.int .i64 n] w fun e w' => e = .returned (.int .i64 n) ∧ w = w' := by
  go_enter Try.func17, Try.ntmps17
  go_wp2
  go_ret
  exact ⟨rfl, rfl⟩
def x1 : Ox := ⟨2, [97], [], 0, 5, 3⟩
def x2 : Ox := ⟨4, [97], [], 0, 0, 3⟩
def s1 : List Pr := [⟨[97], ⟨2, [], 0, 5, 3⟩⟩]
theorem ex1 : stepX [] x1 = (s1, ⟨0, zeroC⟩) := by rfl
theorem ex2 : stepX s1 x2 = (s1, ⟨8, zeroC⟩) := by rfl
theorem live9_any (w : World) : Calls Try.prog 10 #[] w fun e w' => e = .returned (.bool true) ∧ Below w.heap.size w w' := by
  have h1 : St s1 := ⟨List.pairwise_singleton _ _, fun p hp => by simp [s1] at hp; subst hp; rfl⟩
  have C1 : ∀ w, Calls Try.prog 11 #[.slice none 0 0, .agg #[.int .i64 2, .string ⟨#[97]⟩, .slice none 0 0, .int .i64 0, .int .i64 5, .int .i64 3]] w (Stepped9 [] x1 w) := fun w =>
    stepM_any w (.slice none 0 0) [] none 0 0 x1 (PS.nil w) St.nil (fun p h => by cases h) (SV.nil w) (by decide) (by decide) (by refine ⟨?_, ?_, ?_, ?_⟩ <;> exact ⟨by decide, by decide⟩) (by decide)
  have C2 : ∀ w v, PS w v s1 → Calls Try.prog 11 #[v, .agg #[.int .i64 4, .string ⟨#[97]⟩, .slice none 0 0, .int .i64 0, .int .i64 0, .int .i64 3]] w (Stepped9 s1 x2 w) := fun w v hv =>
    stepM_any w v s1 none 0 0 x2 hv h1 (fun p hp => by simp [s1] at hp; subst hp; refine ⟨?_, ?_, ?_, ?_⟩ <;> exact ⟨by decide, by decide⟩) (SV.nil w) (by decide) (by decide) (by refine ⟨?_, ?_, ?_, ?_⟩ <;> exact ⟨by decide, by decide⟩) (by decide)
  unfold Stepped9 at C1 C2
  rw [ex1] at C1
  rw [ex2] at C2
  replace C1 := Lib.hid C1
  replace C2 := Lib.hid C2
  clear h1
  go_enter Try.func10, Try.ntmps10
  go_wp2_with fail
  refine (C1.out _).mono ?_
  rintro e w1 ⟨v1, D1, rfl, hp1, hd1, b1⟩
  obtain ⟨A1, n1, d1, rfl⟩ := sv_sl hd1
  obtain ⟨B1, c1, rfl⟩ := hp1.slice
  replace hp1 := Lib.hid hp1
  replace b1 := Lib.hid b1
  clear hd1 C1
  unfold av zeroC
  go_wp2_with (show wpList _ _ _ (Oper.mk _ (.store _ (.tmp 2) _) _ _ _ _ :: _) _ _; refine wpList_store_row rfl _ (.tmp 2) (.tmp 9) rfl (w1).heap.size _ rfl rfl _ _ (Whole.made (w1) _ _) (by kernel_rfl) rfl (by simp [Value.oneCell']) ?_; rw [World.setRow_alloc_new]; generalize hW : World.alloc _ _ = w2; have p2 := Lib.hid (made_eq hW).1; have b2 := Lib.hid (made_eq hW).2; clear hW; replace hp1 := Lib.hid (hp1.out.on b2.out))
  refine (C2.out _ _ hp1.out).mono ?_
  rintro e w3 ⟨v3, D3, rfl, hp3, hd3, b3⟩
  obtain ⟨A3, n3, d3, rfl⟩ := sv_sl hd3
  obtain ⟨B3, c3, rfl⟩ := hp3.slice
  replace p2 := Lib.hid (p2.out.on b3)
  replace b3 := Lib.hid b3
  clear hd3 hp3 C2
  unfold av zeroC
  go_wp2_with (first
    | (show wpList _ _ _ (Oper.mk _ (.store _ (.tmp 4) _) _ _ _ _ :: _) _ _; refine wpList_store_row rfl _ (.tmp 4) (.tmp 15) rfl (w3).heap.size _ rfl rfl _ _ (Whole.made (w3) _ _) (by kernel_rfl) rfl (by simp [Value.oneCell']) ?_; rw [World.setRow_alloc_new]; generalize hW : World.alloc _ _ = w4; have p4 := Lib.hid (made_eq hW).1; have b4 := Lib.hid (made_eq hW).2; clear hW; replace p2 := Lib.hid (p2.out.on b4.out); have y0 : w4.cell? ⟨w1.heap.size, 0, none⟩ = some (.int .i64 0) := p2.out.cell 0; have y1 : w4.cell? ⟨w3.heap.size, 0, none⟩ = some (.int .i64 8) := p4.out.cell 0)
    | (go_at_call 17; refine (code9_any _ _).mono ?_; rintro e w5 ⟨rfl, rfl⟩))
  go_ret
  exact ⟨rfl, (b1.out.trans (b2.out.mono b1.out.size)).trans ((b3.out.trans (b4.out.mono b3.out.size)).mono (Nat.le_trans b1.out.size b2.out.size))⟩
end Go.Proofs.Ytejkpjaaefobnaa
