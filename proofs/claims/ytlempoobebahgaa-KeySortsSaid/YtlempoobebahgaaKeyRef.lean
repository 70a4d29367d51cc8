/- Layer 4: the reference's Same and Sort; what the law KeySorts comes to. -/
import Derived.Test.YtlempoobebahgaaKeySort
import Derived.Test.YtlempoobebahgaaKeyLaws
import Derived.WalkSpells
namespace Go.Proofs.Ytlempoobebahgaa
open Go.RowKit

theorem SV.str {w : World} {A : Option Addr} {n c : Nat} {l : List (List UInt8)} (h : SV w (.slice A n c) (strs l)) {k : Nat} (hk : k < n) : ∃ b off x, A = some ⟨b, off, none⟩ ∧ l[k]? = some x ∧ w.cell? ⟨b, off + k, none⟩ = some (.string ⟨x.toArray⟩) := by
  obtain ⟨b, off, u, hA, hu, hc⟩ := h.at hk
  rw [strs_get] at hu
  cases hx : l[k]? with
  | none => rw [hx] at hu; cases hu
  | some x =>
    rw [hx] at hu
    injection hu with hu
    exact ⟨b, off, x, hA, rfl, by rw [hc, ← hu]⟩

theorem same4_yes (A B : Option Addr) (c d : Nat) (l : List (List UInt8)) (w : World) (hv : SV w (.slice A l.length c) (strs l)) (hu : SV w (.slice B l.length d) (strs l)) (hl : l.length ≤ 1000) :
    Calls Try.prog 15 #[.slice A l.length c, .slice B l.length d] w fun e w' => e = .returned (.bool true) ∧ Below w.heap.size w w' := by
  have HV := Lib.hid hv
  have HU := Lib.hid hu
  clear hv hu
  go_enter Try.func15, Try.ntmps15
  go_wp2
  go_loopw [5] (fun i wr => ∃ k : Nat, k ≤ l.length ∧ i = .int .i64 k ∧ Below w.heap.size w wr) (fun i _ => l.length - (intOf i).toNat)
  case atStart => exact ⟨0, by omega, rfl, Below.refl _ _⟩
  case round =>
    obtain ⟨k, hk, rfl, hb⟩ := hrel
    by_cases hlt : k < l.length
    · obtain ⟨b, off, x, rfl, hx, hc⟩ := (HV.out.keep (Keeps.below hb)).str hlt
      obtain ⟨b', off', x', rfl, hx', hd⟩ := (HU.out.keep (Keeps.below hb)).str hlt
      obtain rfl : x = x' := by rw [hx] at hx'; injection hx'
      clear hx hx'
      go_wp2
      refine wp_region_tail (C := fun w' => ∃ p : Regrown, w' = Go.Sort.grow (redrawn wr p.d) p.os) 9 (by kernel_rfl) (by kernel_rfl) (by kernel_rfl) (rg_draw wr) ?_
      simp only [List.take_succ_cons, List.take_zero, List.drop_succ_cons, List.drop_zero]
      repeat (first
        | go_big_quiet_skip
        | (go_big_quiet_want; first
          | (refine q_index _ _ _ rfl 9 1 Try.underlying31 (by kernel_rfl) _ _ _ rfl _ _ rfl hlt ?_; go_big_quiet_on; simp only [Act.put, List.setIfInBounds_toArray, List.set_cons_succ, List.set_cons_zero, Nat.mul_one, Addr.add_lit])
              | (refine q_load_cell _ _ rfl _ rfl _ hc _ Try.underlying9 rfl ?_; go_big_quiet_on; simp only [Act.put, List.setIfInBounds_toArray, List.set_cons_succ, List.set_cons_zero])
              | (refine q_load_cell _ _ rfl _ rfl _ hd _ Try.underlying9 rfl ?_; go_big_quiet_on; simp only [Act.put, List.setIfInBounds_toArray, List.set_cons_succ, List.set_cons_zero])
          | (go_big_quiet_op; go_big_quiet_on)))
      refine wpQuiet_nil ?_
      intro w' hq
      have hq := rg_below hq
      go_wp2
      go_roundw
      case rel => exact ⟨k + 1, by omega, by go_num, bthen hb hq⟩
      case measure => simp [intOf]; omega
    · obtain rfl : k = l.length := by omega
      go_wp2
      go_ret
      exact ⟨rfl, hb⟩

theorem Try.info9 : (Try.prog.info? 9).map (fun i => (i.zero, i.size, i.bytes)) = some (some (.string ByteArray.empty), 1, 16) := by kernel_rfl

theorem strs_app (a b : List (List UInt8)) : strs (a ++ b) = strs a ++ strs b := by simp [strs]
theorem strs_take (l : List (List UInt8)) (k : Nat) : (strs l).take k = strs (l.take k) := by simp [strs]
theorem strs_drop (l : List (List UInt8)) (k : Nat) : (strs l).drop k = strs (l.drop k) := by simp [strs]
theorem bless_yes {x y : List UInt8} (h : x < y) : Op.bytesLess x y = true := by rw [bless_eq]; exact decide_eq_true h
theorem bless_no {x y : List UInt8} (h : ¬ x < y) : Op.bytesLess x y = false := by rw [bless_eq]; exact decide_eq_false h
theorem mem_next {l : List (List UInt8)} {k : Nat} {x y : List UInt8} (hx : l[k]? = some x) : y ∈ l.take (k + 1) ↔ y ∈ l.take k ∨ y = x := by
  rw [List.take_add_one, hx]
  simp
theorem mem_same {o l : List (List UInt8)} {k a : Nat} {x : List UInt8} (hm : ∀ y, y ∈ o ↔ y ∈ l.take k) (hx : l[k]? = some x) (ho : o[a]? = some x) : ∀ y, y ∈ o ↔ y ∈ l.take (k + 1) := by
  intro y
  rw [mem_next hx, ← hm y]
  constructor
  · exact .inl
  · rintro (h | rfl)
    · exact h
    · exact List.mem_of_getElem? ho
theorem mem_more {o l : List (List UInt8)} {k a : Nat} {x : List UInt8} (hm : ∀ y, y ∈ o ↔ y ∈ l.take k) (hx : l[k]? = some x) : ∀ y, y ∈ o.take a ++ x :: o.drop a ↔ y ∈ l.take (k + 1) := by
  intro y
  rw [mem_next hx, mem_put, hm y]

theorem cut_run {w : World} {A : Option Addr} {n c a : Nat} {o : List (List UInt8)} (h : SV w (.slice A n c) (strs o)) (ha : a ≤ n) :
    ∃ D, SV w (.slice D (n - a) (c - a)) (strs (o.drop a)) ∧ ∀ w', (Instr.sliceAt 31 (.slice A n c) (some (.int .i64 a)) none none).run Try.prog w' = .ok (.slice D (n - a) (c - a)) w' :=
  ⟨_, by rw [← strs_drop]; exact h.cutv a ha, fun w' => run_cut (e := 9) Try.underlying31 (by kernel_rfl) ha w'⟩
theorem take_run {w : World} {A : Option Addr} {n c a : Nat} {o : List (List UInt8)} (h : SV w (.slice A n c) (strs o)) (ha : a ≤ n) (hc : a ≤ c) :
    SV w (.slice A a c) (strs (o.take a)) ∧ ∀ w', (Instr.sliceAt 31 (.slice A n c) none (some (.int .i64 a)) none).run Try.prog w' = .ok (.slice A a c) w' :=
  ⟨by rw [← strs_take]; exact h.takev a ha, fun w' => run_take (e := 9) Try.underlying31 (by kernel_rfl) hc w'⟩

set_option maxHeartbeats 1000000 in
theorem refSort4_any (A : Option Addr) (c : Nat) (l : List (List UInt8)) (w : World) (hv : SV w (.slice A l.length c) (strs l)) (hl : l.length ≤ 1000) :
    Calls Try.prog 16 #[.slice A l.length c] w (Gives w (strs (once l))) := by
  obtain ⟨i0, hi, hz0, hz1, hz2⟩ := info_parts Try.info9
  have HV := Lib.hid hv
  clear hv
  go_enter Try.func16, Try.ntmps16
  go_wp2
  go_loopw [3, 4] (fun out i wr => ∃ (k : Nat) (o : List (List UInt8)), k ≤ l.length ∧ i = .int .i64 k ∧ SV wr out (strs o) ∧ Rises o ∧ (∀ y, y ∈ o ↔ y ∈ l.take k) ∧ o.length ≤ k ∧ Below w.heap.size w wr) (fun _ i _ => l.length - (intOf i).toNat)
  case atStart => exact ⟨0, [], by omega, rfl, SV.nil _, List.Pairwise.nil, by simp, by simp, Below.refl _ _⟩
  case round =>
    obtain ⟨k, o, hk, rfl, hout, hr, hm, hol, hb⟩ := hrel
    have HR := Lib.hid hr
    have HM := Lib.hid hm
    clear hr hm
    by_cases hlt : k < l.length
    · obtain ⟨b, off, x, rfl, hx, hc⟩ := (HV.out.keep (Keeps.below hb)).str hlt
      have HX := Lib.hid hx
      clear hx
      have ho2 := hout
      obtain ⟨Ao, co, rfl, o1, o2, o3, -⟩ := ho2
      simp only [strs_len] at *
      unfold maxLen at o2
      have HO := Lib.hid hout
      have O3 := Lib.hid o3
      clear hout o3
      obtain ⟨wo, rfl⟩ : ∃ wo : World, wo = wr := ⟨_, rfl⟩
      go_wp2
      go_loopw [5] (fun at' wr => ∃ a : Nat, a ≤ o.length ∧ at' = .int .i64 a ∧ (∀ j y, j < a → o[j]? = some y → y < x) ∧ Below wo.heap.size wo wr) (fun at' _ => o.length - (intOf at').toNat)
      case atStart => exact ⟨0, by omega, rfl, fun j y h => by omega, Below.refl _ _⟩
      case round =>
        obtain ⟨a, ha, rfl, hlo, hb2⟩ := hrel
        have HLO := Lib.hid hlo
        clear hlo
        have hc2 : wr.cell? ⟨b, off + k, none⟩ = _ := (hb2.cell (World.block_lt_of_cell? _ _ hc)).trans hc
        by_cases hla : a < o.length
        · obtain ⟨b', off', y, rfl, hy, hd⟩ := (HO.out.keep (Keeps.below hb2)).str hla
          have HY := Lib.hid hy
          clear hy
          by_cases hyx : y < x
          · have h1 := bless_yes hyx
            have HYX := Lib.hid hyx
            clear hyx
            go_wp2
            refine wp_region_tail (C := fun w' => ∃ p : Regrown, w' = Go.Sort.grow (redrawn wr p.d) p.os) 15 (by kernel_rfl) (by kernel_rfl) (by kernel_rfl) (rg_draw wr) ?_
            simp only [List.take_succ_cons, List.take_zero, List.drop_succ_cons, List.drop_zero]
            repeat (first
              | go_big_quiet_skip
              | (go_big_quiet_want; first
                | (refine q_index _ _ _ rfl 9 1 Try.underlying31 (by kernel_rfl) _ _ _ rfl _ _ rfl hla ?_; go_big_quiet_on; simp only [Act.put, List.setIfInBounds_toArray, List.set_cons_succ, List.set_cons_zero, Nat.mul_one, Addr.add_lit])
                        | (refine q_index _ _ _ rfl 9 1 Try.underlying31 (by kernel_rfl) _ _ _ rfl _ _ rfl hlt ?_; go_big_quiet_on; simp only [Act.put, List.setIfInBounds_toArray, List.set_cons_succ, List.set_cons_zero, Nat.mul_one, Addr.add_lit])
                        | (refine q_load_cell _ _ rfl _ rfl _ hd _ Try.underlying9 rfl ?_; go_big_quiet_on; simp only [Act.put, List.setIfInBounds_toArray, List.set_cons_succ, List.set_cons_zero])
                        | (refine q_load_cell _ _ rfl _ rfl _ hc2 _ Try.underlying9 rfl ?_; go_big_quiet_on; simp only [Act.put, List.setIfInBounds_toArray, List.set_cons_succ, List.set_cons_zero])
                | (go_big_quiet_op; go_big_quiet_on)))
            refine wpQuiet_nil ?_
            intro w' hq
            have hq := rg_below hq
            go_wp2
            go_roundw
            case rel =>
              refine ⟨a + 1, by omega, by go_num, fun j z hj hz => ?_, bthen hb2 hq⟩
              rcases Nat.lt_or_ge j a with h | h
              · exact HLO.out j z h hz
              · obtain rfl : j = a := by omega
                rw [HY.out] at hz
                injection hz with hz
                exact hz ▸ HYX.out
            case measure => simp [intOf]; omega
          · have h1 := bless_no hyx
            have HYX := Lib.hid hyx
            clear hyx
            go_wp2
            refine wp_region_tail (C := fun w' => ∃ p : Regrown, w' = Go.Sort.grow (redrawn wr p.d) p.os) 15 (by kernel_rfl) (by kernel_rfl) (by kernel_rfl) (rg_draw wr) ?_
            simp only [List.take_succ_cons, List.take_zero, List.drop_succ_cons, List.drop_zero]
            repeat (first
              | go_big_quiet_skip
              | (go_big_quiet_want; first
                | (refine q_index _ _ _ rfl 9 1 Try.underlying31 (by kernel_rfl) _ _ _ rfl _ _ rfl hla ?_; go_big_quiet_on; simp only [Act.put, List.setIfInBounds_toArray, List.set_cons_succ, List.set_cons_zero, Nat.mul_one, Addr.add_lit])
                        | (refine q_index _ _ _ rfl 9 1 Try.underlying31 (by kernel_rfl) _ _ _ rfl _ _ rfl hlt ?_; go_big_quiet_on; simp only [Act.put, List.setIfInBounds_toArray, List.set_cons_succ, List.set_cons_zero, Nat.mul_one, Addr.add_lit])
                        | (refine q_load_cell _ _ rfl _ rfl _ hd _ Try.underlying9 rfl ?_; go_big_quiet_on; simp only [Act.put, List.setIfInBounds_toArray, List.set_cons_succ, List.set_cons_zero])
                        | (refine q_load_cell _ _ rfl _ rfl _ hc2 _ Try.underlying9 rfl ?_; go_big_quiet_on; simp only [Act.put, List.setIfInBounds_toArray, List.set_cons_succ, List.set_cons_zero])
                | (go_big_quiet_op; go_big_quiet_on)))
            refine wpQuiet_nil ?_
            intro w' hq
            have hq := rg_below hq
            go_wp2
            have bq := bthen hb2 hq
            clear hq
            obtain ⟨w8, rfl⟩ : ∃ w8 : World, w8 = w' := ⟨_, rfl⟩
            have hc8 : w8.cell? ⟨b, off + k, none⟩ = _ := (bq.cell (World.block_lt_of_cell? _ _ hc)).trans hc
            obtain ⟨b2, off2, y2, hAo, hy2, hd8⟩ := (HO.out.keep (Keeps.below bq)).str hla
            obtain ⟨rfl, rfl⟩ : b2 = b' ∧ off2 = off' := by injection hAo with hAo; injection hAo with e1 e2 _; exact ⟨e1.symm, e2.symm⟩
            obtain rfl : y2 = y := by have := HY.out; rw [this] at hy2; injection hy2 with hy2; exact hy2.symm
            clear hAo hy2
            by_cases hye : y2 = x
            · subst hye
              have h2 : (y2 == y2) = true := by simp
              go_wp2
              refine wp_region_tail (C := fun w' => ∃ p : Regrown, w' = Go.Sort.grow (redrawn w8 p.d) p.os) 15 (by kernel_rfl) (by kernel_rfl) (by kernel_rfl) (rg_draw w8) ?_
              simp only [List.take_succ_cons, List.take_zero, List.drop_succ_cons, List.drop_zero]
              repeat (first
                | go_big_quiet_skip
                | (go_big_quiet_want; first
                  | (refine q_index _ _ _ rfl 9 1 Try.underlying31 (by kernel_rfl) _ _ _ rfl _ _ rfl hla ?_; go_big_quiet_on; simp only [Act.put, List.setIfInBounds_toArray, List.set_cons_succ, List.set_cons_zero, Nat.mul_one, Addr.add_lit])
                            | (refine q_index _ _ _ rfl 9 1 Try.underlying31 (by kernel_rfl) _ _ _ rfl _ _ rfl hlt ?_; go_big_quiet_on; simp only [Act.put, List.setIfInBounds_toArray, List.set_cons_succ, List.set_cons_zero, Nat.mul_one, Addr.add_lit])
                            | (refine q_load_cell _ _ rfl _ rfl _ hd8 _ Try.underlying9 rfl ?_; go_big_quiet_on; simp only [Act.put, List.setIfInBounds_toArray, List.set_cons_succ, List.set_cons_zero])
                            | (refine q_load_cell _ _ rfl _ rfl _ hc8 _ Try.underlying9 rfl ?_; go_big_quiet_on; simp only [Act.put, List.setIfInBounds_toArray, List.set_cons_succ, List.set_cons_zero])
                  | (go_big_quiet_op; go_big_quiet_on)))
              refine wpQuiet_nil ?_
              intro w' hq
              have hq := rg_below hq
              go_wp2
              go_roundw
              case rel => exact ⟨k + 1, o, by omega, by go_num, HO.out.keep (Keeps.below (bthen bq hq)), HR.out, mem_same HM.out HX.out HY.out, by omega, bthen hb (bthen bq hq)⟩
              case measure => simp [intOf]; omega
            · have h2 : (y2 == x) = false := by simpa using hye
              have hne : ∀ z, o[a]? = some z → z ≠ x := by
                intro z hz
                rw [HY.out] at hz
                injection hz with hz
                exact hz ▸ hye
              have hhi : ∀ z, o[a]? = some z → ¬ z < x := by
                intro z hz
                rw [HY.out] at hz
                injection hz with hz
                exact hz ▸ HYX.out
              clear hye
              go_wp2
              refine wp_region_tail (C := fun w' => ∃ p : Regrown, w' = Go.Sort.grow (redrawn w8 p.d) p.os) 15 (by kernel_rfl) (by kernel_rfl) (by kernel_rfl) (rg_draw w8) ?_
              simp only [List.take_succ_cons, List.take_zero, List.drop_succ_cons, List.drop_zero]
              repeat (first
                | go_big_quiet_skip
                | (go_big_quiet_want; first
                  | (refine q_index _ _ _ rfl 9 1 Try.underlying31 (by kernel_rfl) _ _ _ rfl _ _ rfl hla ?_; go_big_quiet_on; simp only [Act.put, List.setIfInBounds_toArray, List.set_cons_succ, List.set_cons_zero, Nat.mul_one, Addr.add_lit])
                            | (refine q_index _ _ _ rfl 9 1 Try.underlying31 (by kernel_rfl) _ _ _ rfl _ _ rfl hlt ?_; go_big_quiet_on; simp only [Act.put, List.setIfInBounds_toArray, List.set_cons_succ, List.set_cons_zero, Nat.mul_one, Addr.add_lit])
                            | (refine q_load_cell _ _ rfl _ rfl _ hd8 _ Try.underlying9 rfl ?_; go_big_quiet_on; simp only [Act.put, List.setIfInBounds_toArray, List.set_cons_succ, List.set_cons_zero])
                            | (refine q_load_cell _ _ rfl _ rfl _ hc8 _ Try.underlying9 rfl ?_; go_big_quiet_on; simp only [Act.put, List.setIfInBounds_toArray, List.set_cons_succ, List.set_cons_zero])
                  | (go_big_quiet_op; go_big_quiet_on)))
              refine wpQuiet_nil ?_
              intro w' hq
              have hq := rg_below hq
              have bz := bthen bq hq
              obtain ⟨wz, rfl⟩ : ∃ wz : World, wz = w' := ⟨_, rfl⟩
              have hcz : wz.cell? ⟨b, off + k, none⟩ = _ := (hq.cell (World.block_lt_of_cell? _ _ hc8)).trans hc8
              clear hq hc8 hd8 hd hc2 hc bq h1 h2
              have hO := HO.out.keep (Keeps.below bz)
              obtain ⟨hT, hrt⟩ := take_run hO ha (by omega)
              obtain ⟨D, hD, hrun⟩ := cut_run hO ha
              have HT := Lib.hid hT
              have HD := Lib.hid hD
              have HNE := Lib.hid hne
              have HHI := Lib.hid hhi
              clear hO hT hD hne hhi
              have hlit := World.ownsRow_lit (base := wz.heap.size) (e := 9) (size := 1) wz #[] 0 (Nat.le_refl _) (by decide) rfl
              have HL := Lib.hid hlit
              clear hlit
              go_wp2_with (first
                | (at_builtin; have tok := app2; go_must (refine wpList_app _ rfl _ _ 31 rfl wz.heap.size 9 i0 _ 16 Try.underlying31 hi hz0 hz1 hz2 rfl _ (strs (o.take a) ++ [encStr x]) rfl (.inl app2.out) _ (strs (o.drop a)) rfl (HD.out.keep (Keeps.below bz2)) (strs_one _) (by simp [maxLen]; omega) (by simp; omega) bz2.size ?_); intro v3 w3 app3)
                | (at_builtin; have tok := app1; go_must (refine wpList_app _ rfl _ _ 31 rfl wz.heap.size 9 i0 _ 16 Try.underlying31 hi hz0 hz1 hz2 rfl _ (strs (o.take a)) rfl (.inl (app1.out.alloc _)) _ [encStr x] rfl (SV.lit1 _ _ _) (by simp [Value.oneCell']) (by simp [maxLen]; omega) (by simp; omega) (by have := bz1.size; simp; omega) ?_); intro v2 w2 app2'; have bz2 := (bz1.alloc bz1.size _).trans (app2'.below (by have := bz1.size; simp; omega)); have app2 := Lib.hid (app2'.own (.inl (by simp))); clear app2')
                | (at_builtin; go_must (refine wpList_app _ rfl _ _ 31 rfl wz.heap.size 9 i0 _ 16 Try.underlying31 hi hz0 hz1 hz2 rfl _ [] rfl (.inl HL.out) _ (strs (o.take a)) rfl (HT.out.keep (Keeps.alloc _ _)) (strs_one _) (by simp [maxLen]; omega) (by simp; omega) (by simp) ?_); intro v1 w1 app1'; have bz1 := ((Below.refl wz.heap.size wz).alloc (Nat.le_refl _) _).trans (app1'.below (by simp)); have app1 := Lib.hid (app1'.own (.inr HL.out)); clear app1'; have hc1 : w1.cell? ⟨b, off + k, none⟩ = _ := (bz1.cell (World.block_lt_of_cell? _ _ hcz)).trans hcz))
              go_roundw
              case rel =>
                have hrow := app3.own (.inr app2.out)
                have e : strs (o.take a) ++ [encStr x] ++ strs (o.drop a) = strs (o.take a ++ x :: o.drop a) := by simp [strs]
                rw [e] at hrow
                exact ⟨k + 1, o.take a ++ x :: o.drop a, by omega, by go_num, SV.own hrow, rises_put HR.out ha HLO.out HHI.out HNE.out, mem_more HM.out HX.out, by simp; omega, hb.trans ((bz.trans ((bz2.trans (app3.below bz2.size)).mono bz.size)).mono hb.size)⟩
              case measure => simp [intOf]; omega
        · have h0 : o[a]? = none := List.getElem?_eq_none (by omega)
          have hne : ∀ z, o[a]? = some z → z ≠ x := fun z hz => by rw [h0] at hz; cases hz
          have hhi : ∀ z, o[a]? = some z → ¬ z < x := fun z hz => by rw [h0] at hz; cases hz
          have HNE := Lib.hid hne
          have HHI := Lib.hid hhi
          clear h0 hne hhi
          have h3 : decide (a < o.length) = false := decide_eq_false hla
          go_wp2
          refine wp_region_tail (C := fun w' => ∃ p : Regrown, w' = Go.Sort.grow (redrawn wr p.d) p.os) 15 (by kernel_rfl) (by kernel_rfl) (by kernel_rfl) (rg_draw wr) ?_
          simp only [List.take_succ_cons, List.take_zero, List.drop_succ_cons, List.drop_zero]
          repeat (first
            | go_big_quiet_skip
            | (go_big_quiet_want; first
              | fail
              | (go_big_quiet_op; go_big_quiet_on)))
          refine wpQuiet_nil ?_
          intro w' hq
          have hq := rg_below hq
          go_wp2
          have bq := bthen hb2 hq
          clear hq
          obtain ⟨w8, rfl⟩ : ∃ w8 : World, w8 = w' := ⟨_, rfl⟩
          refine wp_region_tail (C := fun w' => ∃ p : Regrown, w' = Go.Sort.grow (redrawn w8 p.d) p.os) 15 (by kernel_rfl) (by kernel_rfl) (by kernel_rfl) (rg_draw w8) ?_
          simp only [List.take_succ_cons, List.take_zero, List.drop_succ_cons, List.drop_zero]
          repeat (first
            | go_big_quiet_skip
            | (go_big_quiet_want; first
              | fail
              | (go_big_quiet_op; go_big_quiet_on)))
          refine wpQuiet_nil ?_
          intro w' hq
          have hq := rg_below hq
          have bz := bthen bq hq
          obtain ⟨wz, rfl⟩ : ∃ wz : World, wz = w' := ⟨_, rfl⟩
          have hcz : wz.cell? ⟨b, off + k, none⟩ = _ := (bz.cell (World.block_lt_of_cell? _ _ hc)).trans hc
          clear hq hc2 hc bq h3
          have hO := HO.out.keep (Keeps.below bz)
          obtain ⟨hT, hrt⟩ := take_run hO ha (by omega)
          obtain ⟨D, hD, hrun⟩ := cut_run hO ha
          have HT := Lib.hid hT
          have HD := Lib.hid hD
          clear hO hT hD
          have hlit := World.ownsRow_lit (base := wz.heap.size) (e := 9) (size := 1) wz #[] 0 (Nat.le_refl _) (by decide) rfl
          have HL := Lib.hid hlit
          clear hlit
          go_wp2_with (first
            | (at_builtin; have tok := app2; go_must (refine wpList_app _ rfl _ _ 31 rfl wz.heap.size 9 i0 _ 16 Try.underlying31 hi hz0 hz1 hz2 rfl _ (strs (o.take a) ++ [encStr x]) rfl (.inl app2.out) _ (strs (o.drop a)) rfl (HD.out.keep (Keeps.below bz2)) (strs_one _) (by simp [maxLen]; omega) (by simp; omega) bz2.size ?_); intro v3 w3 app3)
            | (at_builtin; have tok := app1; go_must (refine wpList_app _ rfl _ _ 31 rfl wz.heap.size 9 i0 _ 16 Try.underlying31 hi hz0 hz1 hz2 rfl _ (strs (o.take a)) rfl (.inl (app1.out.alloc _)) _ [encStr x] rfl (SV.lit1 _ _ _) (by simp [Value.oneCell']) (by simp [maxLen]; omega) (by simp; omega) (by have := bz1.size; simp; omega) ?_); intro v2 w2 app2'; have bz2 := (bz1.alloc bz1.size _).trans (app2'.below (by have := bz1.size; simp; omega)); have app2 := Lib.hid (app2'.own (.inl (by simp))); clear app2')
            | (at_builtin; go_must (refine wpList_app _ rfl _ _ 31 rfl wz.heap.size 9 i0 _ 16 Try.underlying31 hi hz0 hz1 hz2 rfl _ [] rfl (.inl HL.out) _ (strs (o.take a)) rfl (HT.out.keep (Keeps.alloc _ _)) (strs_one _) (by simp [maxLen]; omega) (by simp; omega) (by simp) ?_); intro v1 w1 app1'; have bz1 := ((Below.refl wz.heap.size wz).alloc (Nat.le_refl _) _).trans (app1'.below (by simp)); have app1 := Lib.hid (app1'.own (.inr HL.out)); clear app1'; have hc1 : w1.cell? ⟨b, off + k, none⟩ = _ := (bz1.cell (World.block_lt_of_cell? _ _ hcz)).trans hcz))
          go_roundw
          case rel =>
            have hrow := app3.own (.inr app2.out)
            have e : strs (o.take a) ++ [encStr x] ++ strs (o.drop a) = strs (o.take a ++ x :: o.drop a) := by simp [strs]
            rw [e] at hrow
            exact ⟨k + 1, o.take a ++ x :: o.drop a, by omega, by go_num, SV.own hrow, rises_put HR.out ha HLO.out HHI.out HNE.out, mem_more HM.out HX.out, by simp; omega, hb.trans ((bz.trans ((bz2.trans (app3.below bz2.size)).mono bz.size)).mono hb.size)⟩
          case measure => simp [intOf]; omega
    · obtain rfl : k = l.length := by omega
      have E : Hid (o = once l) := Lib.hid (once_is HR.out (fun y => by rw [HM.out y, List.take_length]))
      rw [E.out] at hout
      go_wp2
      go_ret
      exact ⟨_, rfl, hout, hb⟩

theorem same4_any (v u : Value) (l : List (List UInt8)) (w : World) (hv : SV w v (strs l)) (hu : SV w u (strs l)) (hl : l.length ≤ 1000) :
    Calls Try.prog 15 #[v, u] w fun e w' => e = .returned (.bool true) ∧ Below w.heap.size w w' := by
  have hv' := hv
  have hu' := hu
  obtain ⟨A, c, rfl, -⟩ := hv'
  obtain ⟨B, d, rfl, -⟩ := hu'
  rw [strs_len] at *
  exact same4_yes A B c d l w hv hu hl

theorem sorts4_law (A : Option Addr) (n c : Nat) (l : List (List UInt8)) (w : World) (hv : SV w (.slice A n c) (strs l)) :
    Calls Try.prog 4 #[.slice A n c] w fun e w' => e = .returned (.bool true) ∧ Below w.heap.size w w' := by
  have hn := hv.bd.1
  rw [strs_len] at hn
  subst hn
  by_cases h1 : (60 : Int) < l.length
  · clear hv
    go_enter Try.func4, Try.ntmps4
    go_wp2_with (go_at_call 6; refine (live4_any _).mono ?_; rintro e w1 ⟨rfl, b1⟩)
    go_ret
    exact ⟨rfl, b1⟩
  · have q1 : decide ((60 : Int) < l.length) = false := by simpa using h1
    have hl : l.length ≤ 60 := by omega
    have ho : (once l).length ≤ l.length := rises_len (once_rises l).1 fun y hy => ((once_rises l).2 y).1 hy
    have HV := Lib.hid hv
    have EO := Lib.hid (once_once l)
    clear hv
    go_enter Try.func4, Try.ntmps4
    go_wp2_with (first
      | (go_at_call 14; have tok := b3; refine (sort4_any _ _ _ (s1.out.keep (Keeps.below (bthen b2 b3))) (by omega)).mono ?_; rintro e w4 ⟨v4, rfl, s4, b4⟩; rw [EO.out] at s4; have s4 := Lib.hid s4)
      | (go_at_call 14; refine (sort4_any _ _ _ HV.out (by omega)).mono ?_; rintro e w1 ⟨v1, rfl, s1, b1⟩; have s1 := Lib.hid s1)
      | (go_at_call 16; refine (refSort4_any _ _ _ _ (HV.out.keep (Keeps.below b1)) (by omega)).mono ?_; rintro e w2 ⟨v2, rfl, s2, b2⟩; have s2 := Lib.hid s2)
      | (go_at_call 15; have tok := b4; refine (same4_any _ _ _ _ s4.out (s1.out.keep (Keeps.below (bthen b2 (bthen b3 b4)))) (by omega)).mono ?_; rintro e w5 ⟨rfl, b5⟩)
      | (go_at_call 15; refine (same4_any _ _ _ _ (s1.out.keep (Keeps.below b2)) s2.out (by omega)).mono ?_; rintro e w3 ⟨rfl, b3⟩)
      | (go_at_call 6; refine (live4_any _).mono ?_; rintro e w6 ⟨rfl, b6⟩))
    go_ret
    exact ⟨rfl, bthen b1 (bthen b2 (bthen b3 (bthen b4 (bthen b5 b6))))⟩
end Go.Proofs.Ytlempoobebahgaa
