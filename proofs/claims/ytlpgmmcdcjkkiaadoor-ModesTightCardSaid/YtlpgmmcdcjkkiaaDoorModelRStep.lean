/- The reference's Step. -/
import Derived.Test.YtlpgmmcdcjkkiaaDoorModelRMove
import Derived.Test.YtlpgmmcdcjkkiaaDoorModelGood
import Derived.Test.YtlpgmmcdcjkkiaaDoorModelRun
namespace Go.Proofs.YtlpgmmcdcjkkiaaDoor
set_option maxRecDepth 20000
open Go.RowKit Go.Sort

/-! ### What a step comes to -/
theorem stepX_bad {s : List Pr} {x : Ox} (h : goodX x = false) : stepX s x = (s, ⟨1, zeroC⟩) := by simp [stepX, h]
theorem stepX_err {s : List Pr} {x : Ox} {c : Cl} {e : Int} (hg : goodX x = true) (hc : fndC s x.k = c) (h : mkX c x = (zeroC, e)) (he : e ≠ 0) : stepX s x = (s, ⟨e, zeroC⟩) := by simp [stepX, hg, hc, h, he]
theorem stepX_read {s : List Pr} {x : Ox} {c : Cl} (hg : goodX x = true) (hc : fndC s x.k = c) (h : mkX c x = (c, 0)) (hd : x.d = 0) : stepX s x = (s, ⟨0, c⟩) := by simp [stepX, hg, hc, h, hd]
theorem stepX_put {s : List Pr} {x : Ox} {c c' : Cl} (hg : goodX x = true) (hc : fndC s x.k = c) (h : mkX c x = (c', 0)) (hd : x.d ≠ 0) : stepX s x = (putS s x.k c', ⟨0, zeroC⟩) := by simp [stepX, hg, hc, h, hd]
theorem stepped9_of {s : List Pr} {x : Ox} {w w' : World} {e : Ending} {r : List Pr × An} (h : stepX s x = r) (k : ∃ v' D, e = .returned (.tuple #[v', av D r.2]) ∧ PS w' v' r.1 ∧ SV w' D (bys r.2.c.d) ∧ Below w.heap.size w w') : Stepped9 s x w e w' := by
  subst h
  exact k
/-- A slice of pairs, and a row that holds no pair. -/
theorem PS.but {w w' : World} {g : Nat} {t : TypeId} {cs : Array Value} {v : Value} {l : List Pr} (h : PS w v l) (hk : Whole w g t cs) (hn : ∀ u ∈ cs.toList, isU8 u = false) (hs : ∀ u ∈ cs.toList, ∀ k, u ≠ .string k) (hb : But g w w') : PS w' v l := by
  obtain ⟨A, c, h1, h2, h3, h4, h5⟩ := h
  refine ⟨A, c, h1, h2, h3, h4, fun hne => ?_⟩
  obtain ⟨b, off, hA, hc⟩ := h5 hne
  refine ⟨b, off, hA, fun j r hr => ?_⟩
  obtain ⟨D, g1, g2⟩ := hc j r hr
  refine ⟨D, fun i u hu => ?_, sv_blk' hk hn g2 hb⟩
  have hbg : b ≠ g := by
    intro e
    subst e
    have h0 := g1 0 (kst r.k) rfl
    rw [hk.cell] at h0
    exact hs _ (Array.mem_toList_iff.2 (Array.mem_of_getElem? h0)) _ rfl
  exact hb.cell (g1 i u hu) (fun e => hbg (by injection e with e))
theorem zA_ns : ∀ u ∈ (#[.int .i64 0, .int .i64 0, .slice none 0 0, .int .i64 0, .int .i64 0, .int .i64 0] : Array Value).toList, ∀ k, u ≠ .string k := by
  intro u hu
  simp at hu
  rcases hu with rfl | rfl | rfl <;> intro k h <;> cases h
/-- Contracts, as a step of the walk spells them. -/
def GoodC (A : Option Addr) (n c : Nat) (x : Ox) (b : Bool) : Prop := ∀ w, Calls Tryd.prog 49 #[.agg #[.int .i64 x.d, .string ⟨x.k.toArray⟩, .slice A n c, .int .i64 x.lo, .int .i64 x.hi, .int .i64 x.n]] w fun e w' => e = .returned (.bool b) ∧ Below w.heap.size w w'
def FindC (Av : Option Addr) (cv' : Nat) (s : List Pr) (k : List UInt8) (C : Cl) (z : Bool) : Prop := ∀ w, PS w (.slice Av s.length cv') s → Calls Tryd.prog 50 #[.slice Av s.length cv', .string ⟨k.toArray⟩] w fun e w' => ∃ A n c, e = .returned (.tuple #[.agg #[.int .i64 C.k, .slice A n c, .int .i64 C.lo, .int .i64 C.hi, .int .i64 C.v], .bool z]) ∧ SV w' (.slice A n c) (bys C.d) ∧ Below w.heap.size w w'
set_option maxHeartbeats 1000000 in
theorem rstep_bad (Av : Option Addr) (cv' : Nat) (s : List Pr) (A : Option Addr) (n c : Nat) (x : Ox) (w : World) (hv : PS w (.slice Av s.length cv') s) (gd : GoodC A n c x false) (hr : stepX s x = (s, ⟨1, zeroC⟩)) :
    Calls Tryd.prog 38 #[.slice Av s.length cv', ov (.slice A n c) x] w (Stepped9 s x w) := by
  have HV := Lib.hid hv
  have HR := Lib.hid hr
  unfold GoodC at gd
  have GD := Lib.hid gd
  clear hv hr gd
  unfold ov kst
  go_enter Tryd.func38, Tryd.ntmps38
  go_wp2_with (refine wpList_load_row rfl 24 (.tmp 3) rfl (w.heap.size) rfl 24 _ _ _ ((Whole.made w _ _).later _) Tryd.underlying24 rfl (by kernel_rfl) ?_)
  refine (GD.out _).mono ?_
  rintro e w1 ⟨rfl, b1⟩
  have p3 := Lib.hid (((Whole.made w 24 #[.int .i64 x.d, .string ⟨x.k.toArray⟩, .slice A n c, .int .i64 x.lo, .int .i64 x.hi, .int .i64 x.n]).later (.cells #[.int .i64 0, .int .i64 0, .slice none 0 0, .int .i64 0, .int .i64 0, .int .i64 0] 56)).on b1)
  have p5 := Lib.hid ((Whole.second w (.cells #[.int .i64 x.d, .string ⟨x.k.toArray⟩, .slice A n c, .int .i64 x.lo, .int .i64 x.hi, .int .i64 x.n] 24) 56 #[.int .i64 0, .int .i64 0, .slice none 0 0, .int .i64 0, .int .i64 0, .int .i64 0]).on b1)
  have B1 := Lib.hid (bthen (two_more (Below.refl _ w) _ _) b1)
  clear b1
  have y1 : w1.cell? ⟨w.heap.size, 1, none⟩ = some (.string ⟨x.k.toArray⟩) := p3.out.cell 1
  clear y1
  go_wp2_with (show wpList _ _ _ (Oper.mk _ (.store _ (.tmp 5) _) _ _ _ _ :: _) _ _; refine wpList_store_row rfl _ (.tmp 5) (.tmp 14) rfl (w.heap.size + 1) _ rfl rfl _ _ (p5.out) (by kernel_rfl) rfl (by simp [Value.oneCell']) ?_)
  refine bodyPost_ret (v := .tuple #[.slice Av s.length cv', .agg #[.int .i64 1, .int .i64 0, .slice none 0 0, .int .i64 0, .int .i64 0, .int .i64 0]]) ?_ rfl (stepped9_of HR.out ⟨_, .slice none 0 0, rfl, HV.out.keep (Keeps.below (below_setRow B1.out (Nat.le_succ _) _)), SV.nil _, below_setRow B1.out (Nat.le_succ _) _⟩)
  exact results_tmp_cell rfl _ _ (w.heap.size + 1) _ _ (0, 0) _ rfl (setRow_heap _ _ _ _ _ _ p5.out) Tryd.underlying56 rfl (by kernel_rfl) _ rfl
set_option maxHeartbeats 1000000 in
/-- A record of what is a counter. -/
theorem rstep_kind (Av : Option Addr) (cv' : Nat) (s : List Pr) (A : Option Addr) (n c : Nat) (x : Ox) (C : Cl) (z : Bool) (w : World) (hv : PS w (.slice Av s.length cv') s) (gd : GoodC A n c x true) (fd : FindC Av cv' s x.k C z) (d1 : (x.d == 1) = true) (hk : (C.k == 2) = true) (hr : stepX s x = (s, ⟨6, zeroC⟩)) :
    Calls Tryd.prog 38 #[.slice Av s.length cv', ov (.slice A n c) x] w (Stepped9 s x w) := by
  have HV := Lib.hid hv
  have HR := Lib.hid hr
  unfold GoodC at gd
  unfold FindC at fd
  have GD := Lib.hid gd
  have FD := Lib.hid fd
  clear hv hr gd fd
  skip
  unfold ov kst
  go_enter Tryd.func38, Tryd.ntmps38
  go_wp2_with (refine wpList_load_row rfl 24 (.tmp 3) rfl (w.heap.size) rfl 24 _ _ _ ((Whole.made w _ _).later _) Tryd.underlying24 rfl (by kernel_rfl) ?_)
  refine (GD.out _).mono ?_
  rintro e w1 ⟨rfl, b1⟩
  have p3 := Lib.hid (((Whole.made w 24 #[.int .i64 x.d, .string ⟨x.k.toArray⟩, .slice A n c, .int .i64 x.lo, .int .i64 x.hi, .int .i64 x.n]).later (.cells #[.int .i64 0, .int .i64 0, .slice none 0 0, .int .i64 0, .int .i64 0, .int .i64 0] 56)).on b1)
  have p5 := Lib.hid ((Whole.second w (.cells #[.int .i64 x.d, .string ⟨x.k.toArray⟩, .slice A n c, .int .i64 x.lo, .int .i64 x.hi, .int .i64 x.n] 24) 56 #[.int .i64 0, .int .i64 0, .slice none 0 0, .int .i64 0, .int .i64 0, .int .i64 0]).on b1)
  have B1 := Lib.hid (bthen (two_more (Below.refl _ w) _ _) b1)
  clear b1
  have y1 : w1.cell? ⟨w.heap.size, 1, none⟩ = some (.string ⟨x.k.toArray⟩) := p3.out.cell 1
  go_wp2_with fail
  refine (FD.out _ (HV.out.keep (Keeps.below B1.out))).mono ?_
  rintro e w2 ⟨Ac, nc, cc, rfl, hdc, b2⟩
  replace hdc := Lib.hid hdc
  replace p3 := Lib.hid (p3.out.on b2)
  replace p5 := Lib.hid (p5.out.on b2)
  have B2 := Lib.hid (B1.out.trans (b2.mono B1.out.size))
  clear b2 B1 y1 FD GD
  go_wp2_with (first
    | (show wpList _ _ _ (Oper.mk _ (.store _ (.tmp 6) _) _ _ _ _ :: _) _ _; refine wpList_store_row rfl _ (.tmp 6) (.tmp 20) rfl (w2).heap.size _ rfl rfl _ _ (Whole.made (w2) _ _) (by kernel_rfl) rfl (by simp [Value.oneCell']) ?_; rw [World.setRow_alloc_new]; generalize hW : World.alloc _ _ = w3; have p6 := Lib.hid (made_eq hW).1; have b3 := Lib.hid (made_eq hW).2; clear hW; replace p3 := Lib.hid (p3.out.on b3.out); replace p5 := Lib.hid (p5.out.on b3.out); replace hdc := Lib.hid (hdc.out.keep (Keeps.below b3.out)); have B3 := Lib.hid (B2.out.trans (b3.out.mono B2.out.size)); clear b3; have y0 : w3.cell? ⟨w.heap.size, 0, none⟩ = some (.int .i64 x.d) := p3.out.cell 0; have y1 : w3.cell? ⟨w.heap.size, 1, none⟩ = some (.string ⟨x.k.toArray⟩) := p3.out.cell 1; have y2 : w3.cell? ⟨w.heap.size, 2, none⟩ = some (.slice A n c) := p3.out.cell 2; have y3 : w3.cell? ⟨w.heap.size, 3, none⟩ = some (.int .i64 x.lo) := p3.out.cell 3; have y4 : w3.cell? ⟨w.heap.size, 4, none⟩ = some (.int .i64 x.hi) := p3.out.cell 4; have y5 : w3.cell? ⟨w.heap.size, 5, none⟩ = some (.int .i64 x.n) := p3.out.cell 5; have z0 : w3.cell? ⟨w2.heap.size, 0, none⟩ = some (.int .i64 C.k) := p6.out.cell 0)
    | (show wpList _ _ _ (Oper.mk _ (.store _ (.tmp 5) _) _ _ _ _ :: _) _ _; refine wpList_store_row rfl _ (.tmp 5) (.tmp 29) rfl (w.heap.size + 1) _ rfl rfl _ _ (p5.out) (by kernel_rfl) rfl (by simp [Value.oneCell']) ?_))
  refine bodyPost_ret (v := .tuple #[.slice Av s.length cv', .agg #[.int .i64 6, .int .i64 0, .slice none 0 0, .int .i64 0, .int .i64 0, .int .i64 0]]) ?_ rfl (stepped9_of HR.out ⟨_, .slice none 0 0, rfl, HV.out.keep (Keeps.below (below_setRow B3.out (Nat.le_succ _) _)), SV.nil _, below_setRow B3.out (Nat.le_succ _) _⟩)
  exact results_tmp_cell rfl _ _ (w.heap.size + 1) _ _ (0, 0) _ rfl (setRow_heap _ _ _ _ _ _ p5.out) Tryd.underlying56 rfl (by kernel_rfl) _ rfl
set_option maxHeartbeats 1000000 in
/-- A counter where there is something. -/
theorem rstep_taken (Av : Option Addr) (cv' : Nat) (s : List Pr) (A : Option Addr) (n c : Nat) (x : Ox) (C : Cl) (w : World) (hv : PS w (.slice Av s.length cv') s) (gd : GoodC A n c x true) (fd : FindC Av cv' s x.k C true) (d1 : (x.d == 1) = false) (d2 : (x.d == 2) = true) (hr : stepX s x = (s, ⟨7, zeroC⟩)) :
    Calls Tryd.prog 38 #[.slice Av s.length cv', ov (.slice A n c) x] w (Stepped9 s x w) := by
  have HV := Lib.hid hv
  have HR := Lib.hid hr
  unfold GoodC at gd
  unfold FindC at fd
  have GD := Lib.hid gd
  have FD := Lib.hid fd
  clear hv hr gd fd
  skip
  unfold ov kst
  go_enter Tryd.func38, Tryd.ntmps38
  go_wp2_with (refine wpList_load_row rfl 24 (.tmp 3) rfl (w.heap.size) rfl 24 _ _ _ ((Whole.made w _ _).later _) Tryd.underlying24 rfl (by kernel_rfl) ?_)
  refine (GD.out _).mono ?_
  rintro e w1 ⟨rfl, b1⟩
  have p3 := Lib.hid (((Whole.made w 24 #[.int .i64 x.d, .string ⟨x.k.toArray⟩, .slice A n c, .int .i64 x.lo, .int .i64 x.hi, .int .i64 x.n]).later (.cells #[.int .i64 0, .int .i64 0, .slice none 0 0, .int .i64 0, .int .i64 0, .int .i64 0] 56)).on b1)
  have p5 := Lib.hid ((Whole.second w (.cells #[.int .i64 x.d, .string ⟨x.k.toArray⟩, .slice A n c, .int .i64 x.lo, .int .i64 x.hi, .int .i64 x.n] 24) 56 #[.int .i64 0, .int .i64 0, .slice none 0 0, .int .i64 0, .int .i64 0, .int .i64 0]).on b1)
  have B1 := Lib.hid (bthen (two_more (Below.refl _ w) _ _) b1)
  clear b1
  have y1 : w1.cell? ⟨w.heap.size, 1, none⟩ = some (.string ⟨x.k.toArray⟩) := p3.out.cell 1
  go_wp2_with fail
  refine (FD.out _ (HV.out.keep (Keeps.below B1.out))).mono ?_
  rintro e w2 ⟨Ac, nc, cc, rfl, hdc, b2⟩
  replace hdc := Lib.hid hdc
  replace p3 := Lib.hid (p3.out.on b2)
  replace p5 := Lib.hid (p5.out.on b2)
  have B2 := Lib.hid (B1.out.trans (b2.mono B1.out.size))
  clear b2 B1 y1 FD GD
  go_wp2_with (first
    | (show wpList _ _ _ (Oper.mk _ (.store _ (.tmp 6) _) _ _ _ _ :: _) _ _; refine wpList_store_row rfl _ (.tmp 6) (.tmp 20) rfl (w2).heap.size _ rfl rfl _ _ (Whole.made (w2) _ _) (by kernel_rfl) rfl (by simp [Value.oneCell']) ?_; rw [World.setRow_alloc_new]; generalize hW : World.alloc _ _ = w3; have p6 := Lib.hid (made_eq hW).1; have b3 := Lib.hid (made_eq hW).2; clear hW; replace p3 := Lib.hid (p3.out.on b3.out); replace p5 := Lib.hid (p5.out.on b3.out); replace hdc := Lib.hid (hdc.out.keep (Keeps.below b3.out)); have B3 := Lib.hid (B2.out.trans (b3.out.mono B2.out.size)); clear b3; have y0 : w3.cell? ⟨w.heap.size, 0, none⟩ = some (.int .i64 x.d) := p3.out.cell 0; have y1 : w3.cell? ⟨w.heap.size, 1, none⟩ = some (.string ⟨x.k.toArray⟩) := p3.out.cell 1; have y2 : w3.cell? ⟨w.heap.size, 2, none⟩ = some (.slice A n c) := p3.out.cell 2; have y3 : w3.cell? ⟨w.heap.size, 3, none⟩ = some (.int .i64 x.lo) := p3.out.cell 3; have y4 : w3.cell? ⟨w.heap.size, 4, none⟩ = some (.int .i64 x.hi) := p3.out.cell 4; have y5 : w3.cell? ⟨w.heap.size, 5, none⟩ = some (.int .i64 x.n) := p3.out.cell 5; have z0 : w3.cell? ⟨w2.heap.size, 0, none⟩ = some (.int .i64 C.k) := p6.out.cell 0)
    | (show wpList _ _ _ (Oper.mk _ (.store _ (.tmp 5) _) _ _ _ _ :: _) _ _; refine wpList_store_row rfl _ (.tmp 5) (.tmp 43) rfl (w.heap.size + 1) _ rfl rfl _ _ (p5.out) (by kernel_rfl) rfl (by simp [Value.oneCell']) ?_))
  refine bodyPost_ret (v := .tuple #[.slice Av s.length cv', .agg #[.int .i64 7, .int .i64 0, .slice none 0 0, .int .i64 0, .int .i64 0, .int .i64 0]]) ?_ rfl (stepped9_of HR.out ⟨_, .slice none 0 0, rfl, HV.out.keep (Keeps.below (below_setRow B3.out (Nat.le_succ _) _)), SV.nil _, below_setRow B3.out (Nat.le_succ _) _⟩)
  exact results_tmp_cell rfl _ _ (w.heap.size + 1) _ _ (0, 0) _ rfl (setRow_heap _ _ _ _ _ _ p5.out) Tryd.underlying56 rfl (by kernel_rfl) _ rfl
set_option maxHeartbeats 1000000 in
/-- Of nothing. -/
theorem rstep_none (Av : Option Addr) (cv' : Nat) (s : List Pr) (A : Option Addr) (n c : Nat) (x : Ox) (C : Cl) (w : World) (hv : PS w (.slice Av s.length cv') s) (gd : GoodC A n c x true) (fd : FindC Av cv' s x.k C false) (d1 : (x.d == 1) = false) (d2 : (x.d == 2) = false) (hr : stepX s x = (s, ⟨5, zeroC⟩)) :
    Calls Tryd.prog 38 #[.slice Av s.length cv', ov (.slice A n c) x] w (Stepped9 s x w) := by
  have HV := Lib.hid hv
  have HR := Lib.hid hr
  unfold GoodC at gd
  unfold FindC at fd
  have GD := Lib.hid gd
  have FD := Lib.hid fd
  clear hv hr gd fd
  skip
  unfold ov kst
  go_enter Tryd.func38, Tryd.ntmps38
  go_wp2_with (refine wpList_load_row rfl 24 (.tmp 3) rfl (w.heap.size) rfl 24 _ _ _ ((Whole.made w _ _).later _) Tryd.underlying24 rfl (by kernel_rfl) ?_)
  refine (GD.out _).mono ?_
  rintro e w1 ⟨rfl, b1⟩
  have p3 := Lib.hid (((Whole.made w 24 #[.int .i64 x.d, .string ⟨x.k.toArray⟩, .slice A n c, .int .i64 x.lo, .int .i64 x.hi, .int .i64 x.n]).later (.cells #[.int .i64 0, .int .i64 0, .slice none 0 0, .int .i64 0, .int .i64 0, .int .i64 0] 56)).on b1)
  have p5 := Lib.hid ((Whole.second w (.cells #[.int .i64 x.d, .string ⟨x.k.toArray⟩, .slice A n c, .int .i64 x.lo, .int .i64 x.hi, .int .i64 x.n] 24) 56 #[.int .i64 0, .int .i64 0, .slice none 0 0, .int .i64 0, .int .i64 0, .int .i64 0]).on b1)
  have B1 := Lib.hid (bthen (two_more (Below.refl _ w) _ _) b1)
  clear b1
  have y1 : w1.cell? ⟨w.heap.size, 1, none⟩ = some (.string ⟨x.k.toArray⟩) := p3.out.cell 1
  go_wp2_with fail
  refine (FD.out _ (HV.out.keep (Keeps.below B1.out))).mono ?_
  rintro e w2 ⟨Ac, nc, cc, rfl, hdc, b2⟩
  replace hdc := Lib.hid hdc
  replace p3 := Lib.hid (p3.out.on b2)
  replace p5 := Lib.hid (p5.out.on b2)
  have B2 := Lib.hid (B1.out.trans (b2.mono B1.out.size))
  clear b2 B1 y1 FD GD
  go_wp2_with (first
    | (show wpList _ _ _ (Oper.mk _ (.store _ (.tmp 6) _) _ _ _ _ :: _) _ _; refine wpList_store_row rfl _ (.tmp 6) (.tmp 20) rfl (w2).heap.size _ rfl rfl _ _ (Whole.made (w2) _ _) (by kernel_rfl) rfl (by simp [Value.oneCell']) ?_; rw [World.setRow_alloc_new]; generalize hW : World.alloc _ _ = w3; have p6 := Lib.hid (made_eq hW).1; have b3 := Lib.hid (made_eq hW).2; clear hW; replace p3 := Lib.hid (p3.out.on b3.out); replace p5 := Lib.hid (p5.out.on b3.out); replace hdc := Lib.hid (hdc.out.keep (Keeps.below b3.out)); have B3 := Lib.hid (B2.out.trans (b3.out.mono B2.out.size)); clear b3; have y0 : w3.cell? ⟨w.heap.size, 0, none⟩ = some (.int .i64 x.d) := p3.out.cell 0; have y1 : w3.cell? ⟨w.heap.size, 1, none⟩ = some (.string ⟨x.k.toArray⟩) := p3.out.cell 1; have y2 : w3.cell? ⟨w.heap.size, 2, none⟩ = some (.slice A n c) := p3.out.cell 2; have y3 : w3.cell? ⟨w.heap.size, 3, none⟩ = some (.int .i64 x.lo) := p3.out.cell 3; have y4 : w3.cell? ⟨w.heap.size, 4, none⟩ = some (.int .i64 x.hi) := p3.out.cell 4; have y5 : w3.cell? ⟨w.heap.size, 5, none⟩ = some (.int .i64 x.n) := p3.out.cell 5; have z0 : w3.cell? ⟨w2.heap.size, 0, none⟩ = some (.int .i64 C.k) := p6.out.cell 0)
    | (show wpList _ _ _ (Oper.mk _ (.store _ (.tmp 5) _) _ _ _ _ :: _) _ _; refine wpList_store_row rfl _ (.tmp 5) (.tmp 59) rfl (w.heap.size + 1) _ rfl rfl _ _ (p5.out) (by kernel_rfl) rfl (by simp [Value.oneCell']) ?_))
  refine bodyPost_ret (v := .tuple #[.slice Av s.length cv', .agg #[.int .i64 5, .int .i64 0, .slice none 0 0, .int .i64 0, .int .i64 0, .int .i64 0]]) ?_ rfl (stepped9_of HR.out ⟨_, .slice none 0 0, rfl, HV.out.keep (Keeps.below (below_setRow B3.out (Nat.le_succ _) _)), SV.nil _, below_setRow B3.out (Nat.le_succ _) _⟩)
  exact results_tmp_cell rfl _ _ (w.heap.size + 1) _ _ (0, 0) _ rfl (setRow_heap _ _ _ _ _ _ p5.out) Tryd.underlying56 rfl (by kernel_rfl) _ rfl
set_option maxHeartbeats 1000000 in
theorem rstep_rec (Av : Option Addr) (cv' : Nat) (s : List Pr) (A : Option Addr) (n c : Nat) (x : Ox) (C : Cl) (z : Bool) (w : World) (hv : PS w (.slice Av s.length cv') s) (gd : GoodC A n c x true) (fd : FindC Av cv' s x.k C z) (hx : SV w (.slice A n c) (bys x.b)) (d1 : (x.d == 1) = true) (hk : (C.k == 2) = false) (hr : stepX s x = (putS s x.k (recC x), ⟨0, zeroC⟩))
    (pu : ∀ w', PS w' (.slice Av s.length cv') s → SV w' (.slice A n c) (bys x.b) → Calls Tryd.prog 51 #[.slice Av s.length cv', .string ⟨x.k.toArray⟩, .agg #[.int .i64 1, .slice A n c, .int .i64 0, .int .i64 0, .int .i64 0]] w' (Puts (putS s x.k (recC x)) w')) :
    Calls Tryd.prog 38 #[.slice Av s.length cv', ov (.slice A n c) x] w (Stepped9 s x w) := by
  have HX := Lib.hid hx
  have PU := Lib.hid pu
  clear hx pu
  have HV := Lib.hid hv
  have HR := Lib.hid hr
  unfold GoodC at gd
  unfold FindC at fd
  have GD := Lib.hid gd
  have FD := Lib.hid fd
  clear hv hr gd fd
  skip
  unfold ov kst
  go_enter Tryd.func38, Tryd.ntmps38
  go_wp2_with (refine wpList_load_row rfl 24 (.tmp 3) rfl (w.heap.size) rfl 24 _ _ _ ((Whole.made w _ _).later _) Tryd.underlying24 rfl (by kernel_rfl) ?_)
  refine (GD.out _).mono ?_
  rintro e w1 ⟨rfl, b1⟩
  have p3 := Lib.hid (((Whole.made w 24 #[.int .i64 x.d, .string ⟨x.k.toArray⟩, .slice A n c, .int .i64 x.lo, .int .i64 x.hi, .int .i64 x.n]).later (.cells #[.int .i64 0, .int .i64 0, .slice none 0 0, .int .i64 0, .int .i64 0, .int .i64 0] 56)).on b1)
  have p5 := Lib.hid ((Whole.second w (.cells #[.int .i64 x.d, .string ⟨x.k.toArray⟩, .slice A n c, .int .i64 x.lo, .int .i64 x.hi, .int .i64 x.n] 24) 56 #[.int .i64 0, .int .i64 0, .slice none 0 0, .int .i64 0, .int .i64 0, .int .i64 0]).on b1)
  have B1 := Lib.hid (bthen (two_more (Below.refl _ w) _ _) b1)
  clear b1
  have y1 : w1.cell? ⟨w.heap.size, 1, none⟩ = some (.string ⟨x.k.toArray⟩) := p3.out.cell 1
  go_wp2_with fail
  refine (FD.out _ (HV.out.keep (Keeps.below B1.out))).mono ?_
  rintro e w2 ⟨Ac, nc, cc, rfl, hdc, b2⟩
  replace hdc := Lib.hid hdc
  replace p3 := Lib.hid (p3.out.on b2)
  replace p5 := Lib.hid (p5.out.on b2)
  have B2 := Lib.hid (B1.out.trans (b2.mono B1.out.size))
  clear b2 B1 y1 FD GD
  go_wp2_with (first
    | (show wpList _ _ _ (Oper.mk _ (.store _ (.tmp 6) _) _ _ _ _ :: _) _ _; refine wpList_store_row rfl _ (.tmp 6) (.tmp 20) rfl (w2).heap.size _ rfl rfl _ _ (Whole.made (w2) _ _) (by kernel_rfl) rfl (by simp [Value.oneCell']) ?_; rw [World.setRow_alloc_new]; generalize hW : World.alloc _ _ = w3; have p6 := Lib.hid (made_eq hW).1; have b3 := Lib.hid (made_eq hW).2; clear hW; replace p3 := Lib.hid (p3.out.on b3.out); replace p5 := Lib.hid (p5.out.on b3.out); replace hdc := Lib.hid (hdc.out.keep (Keeps.below b3.out)); have B3 := Lib.hid (B2.out.trans (b3.out.mono B2.out.size)); clear b3; have y0 : w3.cell? ⟨w.heap.size, 0, none⟩ = some (.int .i64 x.d) := p3.out.cell 0; have y1 : w3.cell? ⟨w.heap.size, 1, none⟩ = some (.string ⟨x.k.toArray⟩) := p3.out.cell 1; have y2 : w3.cell? ⟨w.heap.size, 2, none⟩ = some (.slice A n c) := p3.out.cell 2; have y3 : w3.cell? ⟨w.heap.size, 3, none⟩ = some (.int .i64 x.lo) := p3.out.cell 3; have y4 : w3.cell? ⟨w.heap.size, 4, none⟩ = some (.int .i64 x.hi) := p3.out.cell 4; have y5 : w3.cell? ⟨w.heap.size, 5, none⟩ = some (.int .i64 x.n) := p3.out.cell 5; have z0 : w3.cell? ⟨w2.heap.size, 0, none⟩ = some (.int .i64 C.k) := p6.out.cell 0)
    )
  refine (PU.out _ (HV.out.keep (Keeps.below B3.out)) (HX.out.keep (Keeps.below B3.out))).mono ?_
  rintro e w7 ⟨v7, rfl, hp7, b7⟩
  replace hp7 := Lib.hid hp7
  replace p5 := Lib.hid (p5.out.on b7)
  have B7 := Lib.hid (B3.out.trans (b7.mono B3.out.size))
  clear b7
  go_wp2_with (show wpList _ _ _ (Oper.mk _ (.store _ (.tmp 5) _) _ _ _ _ :: _) _ _; refine wpList_store_row rfl _ (.tmp 5) (.tmp 37) rfl (w.heap.size + 1) _ rfl rfl _ _ (p5.out) (by kernel_rfl) rfl (by simp [Value.oneCell']) ?_)
  refine bodyPost_ret (v := .tuple #[v7, .agg #[.int .i64 0, .int .i64 0, .slice none 0 0, .int .i64 0, .int .i64 0, .int .i64 0]]) ?_ rfl (stepped9_of HR.out ⟨_, .slice none 0 0, rfl, hp7.out.but p5.out zA_nu zA_ns (but_setRow _ _ _), SV.nil _, below_setRow B7.out (Nat.le_succ _) _⟩)
  exact results_tmp_cell rfl _ _ (w.heap.size + 1) _ _ (0, 0) _ rfl (setRow_heap _ _ _ _ _ _ p5.out) Tryd.underlying56 rfl (by kernel_rfl) _ rfl
set_option maxHeartbeats 1000000 in
theorem rstep_cnt (Av : Option Addr) (cv' : Nat) (s : List Pr) (A : Option Addr) (n c : Nat) (x : Ox) (C : Cl) (w : World) (hv : PS w (.slice Av s.length cv') s) (gd : GoodC A n c x true) (fd : FindC Av cv' s x.k C false) (d1 : (x.d == 1) = false) (d2 : (x.d == 2) = true) (hr : stepX s x = (putS s x.k (cntC x), ⟨0, zeroC⟩))
    (pu : ∀ w', PS w' (.slice Av s.length cv') s → Calls Tryd.prog 51 #[.slice Av s.length cv', .string ⟨x.k.toArray⟩, .agg #[.int .i64 2, .slice none 0 0, .int .i64 x.lo, .int .i64 x.hi, .int .i64 x.n]] w' (Puts (putS s x.k (cntC x)) w')) :
    Calls Tryd.prog 38 #[.slice Av s.length cv', ov (.slice A n c) x] w (Stepped9 s x w) := by
  have PU := Lib.hid pu
  clear pu
  have HV := Lib.hid hv
  have HR := Lib.hid hr
  unfold GoodC at gd
  unfold FindC at fd
  have GD := Lib.hid gd
  have FD := Lib.hid fd
  clear hv hr gd fd
  skip
  unfold ov kst
  go_enter Tryd.func38, Tryd.ntmps38
  go_wp2_with (refine wpList_load_row rfl 24 (.tmp 3) rfl (w.heap.size) rfl 24 _ _ _ ((Whole.made w _ _).later _) Tryd.underlying24 rfl (by kernel_rfl) ?_)
  refine (GD.out _).mono ?_
  rintro e w1 ⟨rfl, b1⟩
  have p3 := Lib.hid (((Whole.made w 24 #[.int .i64 x.d, .string ⟨x.k.toArray⟩, .slice A n c, .int .i64 x.lo, .int .i64 x.hi, .int .i64 x.n]).later (.cells #[.int .i64 0, .int .i64 0, .slice none 0 0, .int .i64 0, .int .i64 0, .int .i64 0] 56)).on b1)
  have p5 := Lib.hid ((Whole.second w (.cells #[.int .i64 x.d, .string ⟨x.k.toArray⟩, .slice A n c, .int .i64 x.lo, .int .i64 x.hi, .int .i64 x.n] 24) 56 #[.int .i64 0, .int .i64 0, .slice none 0 0, .int .i64 0, .int .i64 0, .int .i64 0]).on b1)
  have B1 := Lib.hid (bthen (two_more (Below.refl _ w) _ _) b1)
  clear b1
  have y1 : w1.cell? ⟨w.heap.size, 1, none⟩ = some (.string ⟨x.k.toArray⟩) := p3.out.cell 1
  go_wp2_with fail
  refine (FD.out _ (HV.out.keep (Keeps.below B1.out))).mono ?_
  rintro e w2 ⟨Ac, nc, cc, rfl, hdc, b2⟩
  replace hdc := Lib.hid hdc
  replace p3 := Lib.hid (p3.out.on b2)
  replace p5 := Lib.hid (p5.out.on b2)
  have B2 := Lib.hid (B1.out.trans (b2.mono B1.out.size))
  clear b2 B1 y1 FD GD
  go_wp2_with (first
    | (show wpList _ _ _ (Oper.mk _ (.store _ (.tmp 6) _) _ _ _ _ :: _) _ _; refine wpList_store_row rfl _ (.tmp 6) (.tmp 20) rfl (w2).heap.size _ rfl rfl _ _ (Whole.made (w2) _ _) (by kernel_rfl) rfl (by simp [Value.oneCell']) ?_; rw [World.setRow_alloc_new]; generalize hW : World.alloc _ _ = w3; have p6 := Lib.hid (made_eq hW).1; have b3 := Lib.hid (made_eq hW).2; clear hW; replace p3 := Lib.hid (p3.out.on b3.out); replace p5 := Lib.hid (p5.out.on b3.out); replace hdc := Lib.hid (hdc.out.keep (Keeps.below b3.out)); have B3 := Lib.hid (B2.out.trans (b3.out.mono B2.out.size)); clear b3; have y0 : w3.cell? ⟨w.heap.size, 0, none⟩ = some (.int .i64 x.d) := p3.out.cell 0; have y1 : w3.cell? ⟨w.heap.size, 1, none⟩ = some (.string ⟨x.k.toArray⟩) := p3.out.cell 1; have y2 : w3.cell? ⟨w.heap.size, 2, none⟩ = some (.slice A n c) := p3.out.cell 2; have y3 : w3.cell? ⟨w.heap.size, 3, none⟩ = some (.int .i64 x.lo) := p3.out.cell 3; have y4 : w3.cell? ⟨w.heap.size, 4, none⟩ = some (.int .i64 x.hi) := p3.out.cell 4; have y5 : w3.cell? ⟨w.heap.size, 5, none⟩ = some (.int .i64 x.n) := p3.out.cell 5; have z0 : w3.cell? ⟨w2.heap.size, 0, none⟩ = some (.int .i64 C.k) := p6.out.cell 0)
    )
  refine (PU.out _ (HV.out.keep (Keeps.below B3.out))).mono ?_
  rintro e w7 ⟨v7, rfl, hp7, b7⟩
  replace hp7 := Lib.hid hp7
  replace p5 := Lib.hid (p5.out.on b7)
  have B7 := Lib.hid (B3.out.trans (b7.mono B3.out.size))
  clear b7
  go_wp2_with (show wpList _ _ _ (Oper.mk _ (.store _ (.tmp 5) _) _ _ _ _ :: _) _ _; refine wpList_store_row rfl _ (.tmp 5) (.tmp 55) rfl (w.heap.size + 1) _ rfl rfl _ _ (p5.out) (by kernel_rfl) rfl (by simp [Value.oneCell']) ?_)
  refine bodyPost_ret (v := .tuple #[v7, .agg #[.int .i64 0, .int .i64 0, .slice none 0 0, .int .i64 0, .int .i64 0, .int .i64 0]]) ?_ rfl (stepped9_of HR.out ⟨_, .slice none 0 0, rfl, hp7.out.but p5.out zA_nu zA_ns (but_setRow _ _ _), SV.nil _, below_setRow B7.out (Nat.le_succ _) _⟩)
  exact results_tmp_cell rfl _ _ (w.heap.size + 1) _ _ (0, 0) _ rfl (setRow_heap _ _ _ _ _ _ p5.out) Tryd.underlying56 rfl (by kernel_rfl) _ rfl
set_option maxHeartbeats 1000000 in
theorem rstep_drop (Av : Option Addr) (cv' : Nat) (s : List Pr) (A : Option Addr) (n c : Nat) (x : Ox) (C : Cl) (w : World) (hv : PS w (.slice Av s.length cv') s) (gd : GoodC A n c x true) (fd : FindC Av cv' s x.k C true) (d1 : (x.d == 1) = false) (d2 : (x.d == 2) = false) (d0 : (x.d == 0) = false) (d3 : (x.d == 3) = true) (hr : stepX s x = (putS s x.k zeroC, ⟨0, zeroC⟩))
    (pu : ∀ w', PS w' (.slice Av s.length cv') s → Calls Tryd.prog 51 #[.slice Av s.length cv', .string ⟨x.k.toArray⟩, .agg #[.int .i64 0, .slice none 0 0, .int .i64 0, .int .i64 0, .int .i64 0]] w' (Puts (putS s x.k zeroC) w')) :
    Calls Tryd.prog 38 #[.slice Av s.length cv', ov (.slice A n c) x] w (Stepped9 s x w) := by
  have PU := Lib.hid pu
  clear pu
  have HV := Lib.hid hv
  have HR := Lib.hid hr
  unfold GoodC at gd
  unfold FindC at fd
  have GD := Lib.hid gd
  have FD := Lib.hid fd
  clear hv hr gd fd
  skip
  unfold ov kst
  go_enter Tryd.func38, Tryd.ntmps38
  go_wp2_with (refine wpList_load_row rfl 24 (.tmp 3) rfl (w.heap.size) rfl 24 _ _ _ ((Whole.made w _ _).later _) Tryd.underlying24 rfl (by kernel_rfl) ?_)
  refine (GD.out _).mono ?_
  rintro e w1 ⟨rfl, b1⟩
  have p3 := Lib.hid (((Whole.made w 24 #[.int .i64 x.d, .string ⟨x.k.toArray⟩, .slice A n c, .int .i64 x.lo, .int .i64 x.hi, .int .i64 x.n]).later (.cells #[.int .i64 0, .int .i64 0, .slice none 0 0, .int .i64 0, .int .i64 0, .int .i64 0] 56)).on b1)
  have p5 := Lib.hid ((Whole.second w (.cells #[.int .i64 x.d, .string ⟨x.k.toArray⟩, .slice A n c, .int .i64 x.lo, .int .i64 x.hi, .int .i64 x.n] 24) 56 #[.int .i64 0, .int .i64 0, .slice none 0 0, .int .i64 0, .int .i64 0, .int .i64 0]).on b1)
  have B1 := Lib.hid (bthen (two_more (Below.refl _ w) _ _) b1)
  clear b1
  have y1 : w1.cell? ⟨w.heap.size, 1, none⟩ = some (.string ⟨x.k.toArray⟩) := p3.out.cell 1
  go_wp2_with fail
  refine (FD.out _ (HV.out.keep (Keeps.below B1.out))).mono ?_
  rintro e w2 ⟨Ac, nc, cc, rfl, hdc, b2⟩
  replace hdc := Lib.hid hdc
  replace p3 := Lib.hid (p3.out.on b2)
  replace p5 := Lib.hid (p5.out.on b2)
  have B2 := Lib.hid (B1.out.trans (b2.mono B1.out.size))
  clear b2 B1 y1 FD GD
  go_wp2_with (first
    | (show wpList _ _ _ (Oper.mk _ (.store _ (.tmp 6) _) _ _ _ _ :: _) _ _; refine wpList_store_row rfl _ (.tmp 6) (.tmp 20) rfl (w2).heap.size _ rfl rfl _ _ (Whole.made (w2) _ _) (by kernel_rfl) rfl (by simp [Value.oneCell']) ?_; rw [World.setRow_alloc_new]; generalize hW : World.alloc _ _ = w3; have p6 := Lib.hid (made_eq hW).1; have b3 := Lib.hid (made_eq hW).2; clear hW; replace p3 := Lib.hid (p3.out.on b3.out); replace p5 := Lib.hid (p5.out.on b3.out); replace hdc := Lib.hid (hdc.out.keep (Keeps.below b3.out)); have B3 := Lib.hid (B2.out.trans (b3.out.mono B2.out.size)); clear b3; have y0 : w3.cell? ⟨w.heap.size, 0, none⟩ = some (.int .i64 x.d) := p3.out.cell 0; have y1 : w3.cell? ⟨w.heap.size, 1, none⟩ = some (.string ⟨x.k.toArray⟩) := p3.out.cell 1; have y2 : w3.cell? ⟨w.heap.size, 2, none⟩ = some (.slice A n c) := p3.out.cell 2; have y3 : w3.cell? ⟨w.heap.size, 3, none⟩ = some (.int .i64 x.lo) := p3.out.cell 3; have y4 : w3.cell? ⟨w.heap.size, 4, none⟩ = some (.int .i64 x.hi) := p3.out.cell 4; have y5 : w3.cell? ⟨w.heap.size, 5, none⟩ = some (.int .i64 x.n) := p3.out.cell 5; have z0 : w3.cell? ⟨w2.heap.size, 0, none⟩ = some (.int .i64 C.k) := p6.out.cell 0)
    )
  refine (PU.out _ (HV.out.keep (Keeps.below B3.out))).mono ?_
  rintro e w7 ⟨v7, rfl, hp7, b7⟩
  replace hp7 := Lib.hid hp7
  replace p5 := Lib.hid (p5.out.on b7)
  have B7 := Lib.hid (B3.out.trans (b7.mono B3.out.size))
  clear b7
  go_wp2_with (show wpList _ _ _ (Oper.mk _ (.store _ (.tmp 5) _) _ _ _ _ :: _) _ _; refine wpList_store_row rfl _ (.tmp 5) (.tmp 74) rfl (w.heap.size + 1) _ rfl rfl _ _ (p5.out) (by kernel_rfl) rfl (by simp [Value.oneCell']) ?_)
  refine bodyPost_ret (v := .tuple #[v7, .agg #[.int .i64 0, .int .i64 0, .slice none 0 0, .int .i64 0, .int .i64 0, .int .i64 0]]) ?_ rfl (stepped9_of HR.out ⟨_, .slice none 0 0, rfl, hp7.out.but p5.out zA_nu zA_ns (but_setRow _ _ _), SV.nil _, below_setRow B7.out (Nat.le_succ _) _⟩)
  exact results_tmp_cell rfl _ _ (w.heap.size + 1) _ _ (0, 0) _ rfl (setRow_heap _ _ _ _ _ _ p5.out) Tryd.underlying56 rfl (by kernel_rfl) _ rfl
set_option maxHeartbeats 1000000 in
theorem rstep_read (Av : Option Addr) (cv' : Nat) (s : List Pr) (A : Option Addr) (n c : Nat) (x : Ox) (C : Cl) (w : World) (hv : PS w (.slice Av s.length cv') s) (gd : GoodC A n c x true) (fd : FindC Av cv' s x.k C true) (d1 : (x.d == 1) = false) (d2 : (x.d == 2) = false) (d0 : (x.d == 0) = true) (hr : stepX s x = (s, ⟨0, C⟩)) :
    Calls Tryd.prog 38 #[.slice Av s.length cv', ov (.slice A n c) x] w (Stepped9 s x w) := by
  have HV := Lib.hid hv
  have HR := Lib.hid hr
  unfold GoodC at gd
  unfold FindC at fd
  have GD := Lib.hid gd
  have FD := Lib.hid fd
  clear hv hr gd fd
  skip
  unfold ov kst
  go_enter Tryd.func38, Tryd.ntmps38
  go_wp2_with (refine wpList_load_row rfl 24 (.tmp 3) rfl (w.heap.size) rfl 24 _ _ _ ((Whole.made w _ _).later _) Tryd.underlying24 rfl (by kernel_rfl) ?_)
  refine (GD.out _).mono ?_
  rintro e w1 ⟨rfl, b1⟩
  have p3 := Lib.hid (((Whole.made w 24 #[.int .i64 x.d, .string ⟨x.k.toArray⟩, .slice A n c, .int .i64 x.lo, .int .i64 x.hi, .int .i64 x.n]).later (.cells #[.int .i64 0, .int .i64 0, .slice none 0 0, .int .i64 0, .int .i64 0, .int .i64 0] 56)).on b1)
  have p5 := Lib.hid ((Whole.second w (.cells #[.int .i64 x.d, .string ⟨x.k.toArray⟩, .slice A n c, .int .i64 x.lo, .int .i64 x.hi, .int .i64 x.n] 24) 56 #[.int .i64 0, .int .i64 0, .slice none 0 0, .int .i64 0, .int .i64 0, .int .i64 0]).on b1)
  have B1 := Lib.hid (bthen (two_more (Below.refl _ w) _ _) b1)
  clear b1
  have y1 : w1.cell? ⟨w.heap.size, 1, none⟩ = some (.string ⟨x.k.toArray⟩) := p3.out.cell 1
  go_wp2_with fail
  refine (FD.out _ (HV.out.keep (Keeps.below B1.out))).mono ?_
  rintro e w2 ⟨Ac, nc, cc, rfl, hdc, b2⟩
  replace hdc := Lib.hid hdc
  replace p3 := Lib.hid (p3.out.on b2)
  replace p5 := Lib.hid (p5.out.on b2)
  have B2 := Lib.hid (B1.out.trans (b2.mono B1.out.size))
  clear b2 B1 y1 FD GD
  go_wp2_with (first
    | (show wpList _ _ _ (Oper.mk _ (.store _ (.tmp 6) _) _ _ _ _ :: _) _ _; refine wpList_store_row rfl _ (.tmp 6) (.tmp 20) rfl (w2).heap.size _ rfl rfl _ _ (Whole.made (w2) _ _) (by kernel_rfl) rfl (by simp [Value.oneCell']) ?_; rw [World.setRow_alloc_new]; generalize hW : World.alloc _ _ = w3; have p6 := Lib.hid (made_eq hW).1; have b3 := Lib.hid (made_eq hW).2; clear hW; replace p3 := Lib.hid (p3.out.on b3.out); replace p5 := Lib.hid (p5.out.on b3.out); replace hdc := Lib.hid (hdc.out.keep (Keeps.below b3.out)); have B3 := Lib.hid (B2.out.trans (b3.out.mono B2.out.size)); clear b3; have y0 : w3.cell? ⟨w.heap.size, 0, none⟩ = some (.int .i64 x.d) := p3.out.cell 0; have y1 : w3.cell? ⟨w.heap.size, 1, none⟩ = some (.string ⟨x.k.toArray⟩) := p3.out.cell 1; have y2 : w3.cell? ⟨w.heap.size, 2, none⟩ = some (.slice A n c) := p3.out.cell 2; have y3 : w3.cell? ⟨w.heap.size, 3, none⟩ = some (.int .i64 x.lo) := p3.out.cell 3; have y4 : w3.cell? ⟨w.heap.size, 4, none⟩ = some (.int .i64 x.hi) := p3.out.cell 4; have y5 : w3.cell? ⟨w.heap.size, 5, none⟩ = some (.int .i64 x.n) := p3.out.cell 5; have z0 : w3.cell? ⟨w2.heap.size, 0, none⟩ = some (.int .i64 C.k) := p6.out.cell 0)
    )
  clear y0 y1 y2 y3 y4 y5 z0
  refine wp_region_facts 4 [] [] (by kernel_rfl) (by kernel_rfl) (by kernel_rfl) (free_draw w3) ?_
  simp only [List.take_succ_cons, List.take_zero, List.drop_succ_cons, List.drop_zero, List.zipIdx_cons, List.zipIdx_nil, Nat.zero_add, Nat.reduceAdd]
  repeat (show wpF _ _ _ _ _ _ (_ :: _) _ _; first
    | (refine f_skip (fun V => by rfl) ?_; simp only [Act.put, List.setIfInBounds_toArray, List.set_cons_succ, List.set_cons_zero])
      
    | (refine f_load_row (by first | exact cls_free _ | exact cls_row _ _ _ _ | exact cls_fill _ _ _ _ _ | exact cls_butC _ _ | exact cls_butD _ _ _ _ _ _ _) (fun V => by rfl) _ _ rfl _ (fun V => by rfl) _ _ _ (fun w hb => p6.out.on hb) Tryd.underlying36 rfl (by kernel_rfl) ?_; simp only [Act.put, List.setIfInBounds_toArray, List.set_cons_succ, List.set_cons_zero])
    | (refine f_quiet (by first | exact cls_free _ | exact cls_row _ _ _ _ | exact cls_fill _ _ _ _ _ | exact cls_butC _ _ | exact cls_butD _ _ _ _ _ _ _) (fun V => by rfl) (fun V => ⟨_, rfl, by simp⟩) ?_; apply Exists.intro; refine And.intro (fun V w hw K hK => ?_) ?_; ((try simp only [Act.put, List.setIfInBounds_toArray, List.set_cons_succ, List.set_cons_zero] at hK); go_big_quiet_op; exact hK); simp only [Act.put, List.setIfInBounds_toArray, List.set_cons_succ, List.set_cons_zero]))
  refine f_nil ?_
  intro V w4 hq hkn
  clear hkn
  replace p5 := Lib.hid (p5.out.on hq)
  replace hdc := Lib.hid (hdc.out.keep (Keeps.below hq))
  have B4 := Lib.hid (B3.out.trans (hq.mono B3.out.size))
  clear hq
  go_wp2_with (show wpList _ _ _ (Oper.mk _ (.store _ (.tmp 5) _) _ _ _ _ :: _) _ _; refine wpList_store_row rfl _ (.tmp 5) (.tmp 65) rfl (w.heap.size + 1) _ rfl rfl _ _ (p5.out) (by kernel_rfl) rfl (by simp [Value.oneCell']) ?_)
  refine bodyPost_ret (v := .tuple #[.slice Av s.length cv', .agg #[.int .i64 0, .int .i64 C.k, .slice Ac nc cc, .int .i64 C.lo, .int .i64 C.hi, .int .i64 C.v]]) ?_ rfl (stepped9_of HR.out ⟨_, .slice Ac nc cc, rfl, HV.out.keep (Keeps.below (below_setRow B4.out (Nat.le_succ _) _)), sv_blk' p5.out zA_nu hdc.out (but_setRow _ _ _), below_setRow B4.out (Nat.le_succ _) _⟩)
  exact results_tmp_cell rfl _ _ (w.heap.size + 1) _ _ (0, 0) _ rfl (setRow_heap _ _ _ _ _ _ p5.out) Tryd.underlying56 rfl (by kernel_rfl) _ rfl
set_option maxHeartbeats 1000000 in
theorem rstep_stay (Av : Option Addr) (cv' : Nat) (s : List Pr) (A : Option Addr) (n c : Nat) (x : Ox) (C : Cl) (E : Int) (w : World) (hv : PS w (.slice Av s.length cv') s) (gd : GoodC A n c x true) (fd : FindC Av cv' s x.k C true) (d1 : (x.d == 1) = false) (d2 : (x.d == 2) = false) (d0 : (x.d == 0) = false) (d3 : (x.d == 3) = false) (hE : (E != 0) = true) (hr : stepX s x = (s, ⟨E, zeroC⟩))
    (mv : ∀ w' Ac nc cc, Calls Tryd.prog 52 #[.agg #[.int .i64 x.d, .string ⟨x.k.toArray⟩, .slice A n c, .int .i64 x.lo, .int .i64 x.hi, .int .i64 x.n], .agg #[.int .i64 C.k, .slice Ac nc cc, .int .i64 C.lo, .int .i64 C.hi, .int .i64 C.v]] w' fun e w2 => e = .returned (.tuple #[.agg #[.int .i64 C.k, .slice Ac nc cc, .int .i64 C.lo, .int .i64 C.hi, .int .i64 C.v], .int .i64 E]) ∧ Below w'.heap.size w' w2) :
    Calls Tryd.prog 38 #[.slice Av s.length cv', ov (.slice A n c) x] w (Stepped9 s x w) := by
  have MV := Lib.hid mv
  clear mv
  have HV := Lib.hid hv
  have HR := Lib.hid hr
  unfold GoodC at gd
  unfold FindC at fd
  have GD := Lib.hid gd
  have FD := Lib.hid fd
  clear hv hr gd fd
  skip
  unfold ov kst
  go_enter Tryd.func38, Tryd.ntmps38
  go_wp2_with (refine wpList_load_row rfl 24 (.tmp 3) rfl (w.heap.size) rfl 24 _ _ _ ((Whole.made w _ _).later _) Tryd.underlying24 rfl (by kernel_rfl) ?_)
  refine (GD.out _).mono ?_
  rintro e w1 ⟨rfl, b1⟩
  have p3 := Lib.hid (((Whole.made w 24 #[.int .i64 x.d, .string ⟨x.k.toArray⟩, .slice A n c, .int .i64 x.lo, .int .i64 x.hi, .int .i64 x.n]).later (.cells #[.int .i64 0, .int .i64 0, .slice none 0 0, .int .i64 0, .int .i64 0, .int .i64 0] 56)).on b1)
  have p5 := Lib.hid ((Whole.second w (.cells #[.int .i64 x.d, .string ⟨x.k.toArray⟩, .slice A n c, .int .i64 x.lo, .int .i64 x.hi, .int .i64 x.n] 24) 56 #[.int .i64 0, .int .i64 0, .slice none 0 0, .int .i64 0, .int .i64 0, .int .i64 0]).on b1)
  have B1 := Lib.hid (bthen (two_more (Below.refl _ w) _ _) b1)
  clear b1
  have y1 : w1.cell? ⟨w.heap.size, 1, none⟩ = some (.string ⟨x.k.toArray⟩) := p3.out.cell 1
  go_wp2_with fail
  refine (FD.out _ (HV.out.keep (Keeps.below B1.out))).mono ?_
  rintro e w2 ⟨Ac, nc, cc, rfl, hdc, b2⟩
  replace hdc := Lib.hid hdc
  replace p3 := Lib.hid (p3.out.on b2)
  replace p5 := Lib.hid (p5.out.on b2)
  have B2 := Lib.hid (B1.out.trans (b2.mono B1.out.size))
  clear b2 B1 y1 FD GD
  go_wp2_with (first
    | (show wpList _ _ _ (Oper.mk _ (.store _ (.tmp 6) _) _ _ _ _ :: _) _ _; refine wpList_store_row rfl _ (.tmp 6) (.tmp 20) rfl (w2).heap.size _ rfl rfl _ _ (Whole.made (w2) _ _) (by kernel_rfl) rfl (by simp [Value.oneCell']) ?_; rw [World.setRow_alloc_new]; generalize hW : World.alloc _ _ = w3; have p6 := Lib.hid (made_eq hW).1; have b3 := Lib.hid (made_eq hW).2; clear hW; replace p3 := Lib.hid (p3.out.on b3.out); replace p5 := Lib.hid (p5.out.on b3.out); replace hdc := Lib.hid (hdc.out.keep (Keeps.below b3.out)); have B3 := Lib.hid (B2.out.trans (b3.out.mono B2.out.size)); clear b3; have y0 : w3.cell? ⟨w.heap.size, 0, none⟩ = some (.int .i64 x.d) := p3.out.cell 0; have y1 : w3.cell? ⟨w.heap.size, 1, none⟩ = some (.string ⟨x.k.toArray⟩) := p3.out.cell 1; have y2 : w3.cell? ⟨w.heap.size, 2, none⟩ = some (.slice A n c) := p3.out.cell 2; have y3 : w3.cell? ⟨w.heap.size, 3, none⟩ = some (.int .i64 x.lo) := p3.out.cell 3; have y4 : w3.cell? ⟨w.heap.size, 4, none⟩ = some (.int .i64 x.hi) := p3.out.cell 4; have y5 : w3.cell? ⟨w.heap.size, 5, none⟩ = some (.int .i64 x.n) := p3.out.cell 5; have z0 : w3.cell? ⟨w2.heap.size, 0, none⟩ = some (.int .i64 C.k) := p6.out.cell 0)
    
    | (show wpList _ _ _ (Oper.mk _ (.load _ (.tmp 3)) _ _ _ _ :: _) _ _; refine wpList_load_row rfl 24 (.tmp 3) rfl (w.heap.size) rfl _ _ _ _ (p3.out) Tryd.underlying24 rfl (by kernel_rfl) ?_)
    | (show wpList _ _ _ (Oper.mk _ (.load _ (.tmp 6)) _ _ _ _ :: _) _ _; refine wpList_load_row rfl 36 (.tmp 6) rfl (w2.heap.size) rfl _ _ _ _ (p6.out) Tryd.underlying36 rfl (by kernel_rfl) ?_))
  clear y0 y1 y2 y3 y4 y5 z0
  refine (MV.out _ _ _ _).mono ?_
  rintro e w4 ⟨rfl, b4⟩
  replace p3 := Lib.hid (p3.out.on b4)
  replace p5 := Lib.hid (p5.out.on b4)
  replace hdc := Lib.hid (hdc.out.keep (Keeps.below b4))
  have B4 := Lib.hid (B3.out.trans (b4.mono B3.out.size))
  clear b4 B3 MV p6
  go_wp2_with (first
    | (show wpList _ _ _ (Oper.mk _ (.store _ (.tmp 8) _) _ _ _ _ :: _) _ _; refine wpList_store_row rfl _ (.tmp 8) (.tmp 79) rfl (w4).heap.size _ rfl rfl _ _ (Whole.made (w4) _ _) (by kernel_rfl) rfl (by simp [Value.oneCell']) ?_; rw [World.setRow_alloc_new]; generalize hW : World.alloc _ _ = w5; have p8 := Lib.hid (made_eq hW).1; have b5 := Lib.hid (made_eq hW).2; clear hW; replace p5 := Lib.hid (p5.out.on b5.out); have B5 := Lib.hid (B4.out.trans (b5.out.mono B4.out.size)); clear b5)
    | (show wpList _ _ _ (Oper.mk _ (.store _ (.tmp 5) _) _ _ _ _ :: _) _ _; refine wpList_store_row rfl _ (.tmp 5) (.tmp 85) rfl (w.heap.size + 1) _ rfl rfl _ _ (p5.out) (by kernel_rfl) rfl (by simp [Value.oneCell']) ?_))
  refine bodyPost_ret (v := .tuple #[.slice Av s.length cv', .agg #[.int .i64 E, .int .i64 0, .slice none 0 0, .int .i64 0, .int .i64 0, .int .i64 0]]) ?_ rfl (stepped9_of HR.out ⟨_, .slice none 0 0, rfl, HV.out.keep (Keeps.below (below_setRow B5.out (Nat.le_succ _) _)), SV.nil _, below_setRow B5.out (Nat.le_succ _) _⟩)
  exact results_tmp_cell rfl _ _ (w.heap.size + 1) _ _ (0, 0) _ rfl (setRow_heap _ _ _ _ _ _ p5.out) Tryd.underlying56 rfl (by kernel_rfl) _ rfl
set_option maxHeartbeats 1000000 in
theorem rstep_moved (Av : Option Addr) (cv' : Nat) (s : List Pr) (A : Option Addr) (n c : Nat) (x : Ox) (C : Cl) (C2 : Cl) (w : World) (hv : PS w (.slice Av s.length cv') s) (gd : GoodC A n c x true) (fd : FindC Av cv' s x.k C true) (d1 : (x.d == 1) = false) (d2 : (x.d == 2) = false) (d0 : (x.d == 0) = false) (d3 : (x.d == 3) = false) (hC : C2.d = C.d) (hr : stepX s x = (putS s x.k C2, ⟨0, zeroC⟩))
    (mv : ∀ w' Ac nc cc, Calls Tryd.prog 52 #[.agg #[.int .i64 x.d, .string ⟨x.k.toArray⟩, .slice A n c, .int .i64 x.lo, .int .i64 x.hi, .int .i64 x.n], .agg #[.int .i64 C.k, .slice Ac nc cc, .int .i64 C.lo, .int .i64 C.hi, .int .i64 C.v]] w' fun e w2 => e = .returned (.tuple #[.agg #[.int .i64 C2.k, .slice Ac nc cc, .int .i64 C2.lo, .int .i64 C2.hi, .int .i64 C2.v], .int .i64 0]) ∧ Below w'.heap.size w' w2)
    (pu : ∀ w' Ac nc cc, PS w' (.slice Av s.length cv') s → SV w' (.slice Ac nc cc) (bys C2.d) → Calls Tryd.prog 51 #[.slice Av s.length cv', .string ⟨x.k.toArray⟩, .agg #[.int .i64 C2.k, .slice Ac nc cc, .int .i64 C2.lo, .int .i64 C2.hi, .int .i64 C2.v]] w' (Puts (putS s x.k C2) w')) :
    Calls Tryd.prog 38 #[.slice Av s.length cv', ov (.slice A n c) x] w (Stepped9 s x w) := by
  have MV := Lib.hid mv
  have PU := Lib.hid pu
  have HCd := Lib.hid hC
  clear mv pu hC
  have HV := Lib.hid hv
  have HR := Lib.hid hr
  unfold GoodC at gd
  unfold FindC at fd
  have GD := Lib.hid gd
  have FD := Lib.hid fd
  clear hv hr gd fd
  skip
  unfold ov kst
  go_enter Tryd.func38, Tryd.ntmps38
  go_wp2_with (refine wpList_load_row rfl 24 (.tmp 3) rfl (w.heap.size) rfl 24 _ _ _ ((Whole.made w _ _).later _) Tryd.underlying24 rfl (by kernel_rfl) ?_)
  refine (GD.out _).mono ?_
  rintro e w1 ⟨rfl, b1⟩
  have p3 := Lib.hid (((Whole.made w 24 #[.int .i64 x.d, .string ⟨x.k.toArray⟩, .slice A n c, .int .i64 x.lo, .int .i64 x.hi, .int .i64 x.n]).later (.cells #[.int .i64 0, .int .i64 0, .slice none 0 0, .int .i64 0, .int .i64 0, .int .i64 0] 56)).on b1)
  have p5 := Lib.hid ((Whole.second w (.cells #[.int .i64 x.d, .string ⟨x.k.toArray⟩, .slice A n c, .int .i64 x.lo, .int .i64 x.hi, .int .i64 x.n] 24) 56 #[.int .i64 0, .int .i64 0, .slice none 0 0, .int .i64 0, .int .i64 0, .int .i64 0]).on b1)
  have B1 := Lib.hid (bthen (two_more (Below.refl _ w) _ _) b1)
  clear b1
  have y1 : w1.cell? ⟨w.heap.size, 1, none⟩ = some (.string ⟨x.k.toArray⟩) := p3.out.cell 1
  go_wp2_with fail
  refine (FD.out _ (HV.out.keep (Keeps.below B1.out))).mono ?_
  rintro e w2 ⟨Ac, nc, cc, rfl, hdc, b2⟩
  replace hdc := Lib.hid hdc
  replace p3 := Lib.hid (p3.out.on b2)
  replace p5 := Lib.hid (p5.out.on b2)
  have B2 := Lib.hid (B1.out.trans (b2.mono B1.out.size))
  clear b2 B1 y1 FD GD
  go_wp2_with (first
    | (show wpList _ _ _ (Oper.mk _ (.store _ (.tmp 6) _) _ _ _ _ :: _) _ _; refine wpList_store_row rfl _ (.tmp 6) (.tmp 20) rfl (w2).heap.size _ rfl rfl _ _ (Whole.made (w2) _ _) (by kernel_rfl) rfl (by simp [Value.oneCell']) ?_; rw [World.setRow_alloc_new]; generalize hW : World.alloc _ _ = w3; have p6 := Lib.hid (made_eq hW).1; have b3 := Lib.hid (made_eq hW).2; clear hW; replace p3 := Lib.hid (p3.out.on b3.out); replace p5 := Lib.hid (p5.out.on b3.out); replace hdc := Lib.hid (hdc.out.keep (Keeps.below b3.out)); have B3 := Lib.hid (B2.out.trans (b3.out.mono B2.out.size)); clear b3; have y0 : w3.cell? ⟨w.heap.size, 0, none⟩ = some (.int .i64 x.d) := p3.out.cell 0; have y1 : w3.cell? ⟨w.heap.size, 1, none⟩ = some (.string ⟨x.k.toArray⟩) := p3.out.cell 1; have y2 : w3.cell? ⟨w.heap.size, 2, none⟩ = some (.slice A n c) := p3.out.cell 2; have y3 : w3.cell? ⟨w.heap.size, 3, none⟩ = some (.int .i64 x.lo) := p3.out.cell 3; have y4 : w3.cell? ⟨w.heap.size, 4, none⟩ = some (.int .i64 x.hi) := p3.out.cell 4; have y5 : w3.cell? ⟨w.heap.size, 5, none⟩ = some (.int .i64 x.n) := p3.out.cell 5; have z0 : w3.cell? ⟨w2.heap.size, 0, none⟩ = some (.int .i64 C.k) := p6.out.cell 0)
    
    | (show wpList _ _ _ (Oper.mk _ (.load _ (.tmp 3)) _ _ _ _ :: _) _ _; refine wpList_load_row rfl 24 (.tmp 3) rfl (w.heap.size) rfl _ _ _ _ (p3.out) Tryd.underlying24 rfl (by kernel_rfl) ?_)
    | (show wpList _ _ _ (Oper.mk _ (.load _ (.tmp 6)) _ _ _ _ :: _) _ _; refine wpList_load_row rfl 36 (.tmp 6) rfl (w2.heap.size) rfl _ _ _ _ (p6.out) Tryd.underlying36 rfl (by kernel_rfl) ?_))
  clear y0 y1 y2 y3 y4 y5 z0
  refine (MV.out _ _ _ _).mono ?_
  rintro e w4 ⟨rfl, b4⟩
  replace p3 := Lib.hid (p3.out.on b4)
  replace p5 := Lib.hid (p5.out.on b4)
  replace hdc := Lib.hid (hdc.out.keep (Keeps.below b4))
  have B4 := Lib.hid (B3.out.trans (b4.mono B3.out.size))
  clear b4 B3 MV p6
  go_wp2_with (first
    | (show wpList _ _ _ (Oper.mk _ (.store _ (.tmp 8) _) _ _ _ _ :: _) _ _; refine wpList_store_row rfl _ (.tmp 8) (.tmp 79) rfl (w4).heap.size _ rfl rfl _ _ (Whole.made (w4) _ _) (by kernel_rfl) rfl (by simp [Value.oneCell']) ?_; rw [World.setRow_alloc_new]; generalize hW : World.alloc _ _ = w5; have p8 := Lib.hid (made_eq hW).1; have b5 := Lib.hid (made_eq hW).2; clear hW; replace p5 := Lib.hid (p5.out.on b5.out); replace hdc := Lib.hid (hdc.out.keep (Keeps.below b5.out)); have y1 : w5.cell? ⟨w.heap.size, 1, none⟩ = some (.string ⟨x.k.toArray⟩) := (p3.out.on b5.out).cell 1; have B5 := Lib.hid (B4.out.trans (b5.out.mono B4.out.size)); clear b5)
    | (show wpList _ _ _ (Oper.mk _ (.load _ (.tmp 8)) _ _ _ _ :: _) _ _; refine wpList_load_row rfl 36 (.tmp 8) rfl (w4.heap.size) rfl _ _ _ _ (p8.out) Tryd.underlying36 rfl (by kernel_rfl) ?_))
  refine (PU.out _ _ _ _ (HV.out.keep (Keeps.below B5.out)) (HCd.out.symm ▸ hdc.out)).mono ?_
  rintro e w7 ⟨v7, rfl, hp7, b7⟩
  replace hp7 := Lib.hid hp7
  replace p5 := Lib.hid (p5.out.on b7)
  have B7 := Lib.hid (B5.out.trans (b7.mono B5.out.size))
  clear b7
  go_wp2_with (show wpList _ _ _ (Oper.mk _ (.store _ (.tmp 5) _) _ _ _ _ :: _) _ _; refine wpList_store_row rfl _ (.tmp 5) (.tmp 91) rfl (w.heap.size + 1) _ rfl rfl _ _ (p5.out) (by kernel_rfl) rfl (by simp [Value.oneCell']) ?_)
  refine bodyPost_ret (v := .tuple #[v7, .agg #[.int .i64 0, .int .i64 0, .slice none 0 0, .int .i64 0, .int .i64 0, .int .i64 0]]) ?_ rfl (stepped9_of HR.out ⟨_, .slice none 0 0, rfl, hp7.out.but p5.out zA_nu zA_ns (but_setRow _ _ _), SV.nil _, below_setRow B7.out (Nat.le_succ _) _⟩)
  exact results_tmp_cell rfl _ _ (w.heap.size + 1) _ _ (0, 0) _ rfl (setRow_heap _ _ _ _ _ _ p5.out) Tryd.underlying56 rfl (by kernel_rfl) _ rfl
theorem mk_mov {c : Cl} {x : Ox} (d0 : ¬ x.d = 0) (d1 : ¬ x.d = 1) (d2 : ¬ x.d = 2) (d3 : ¬ x.d = 3) : mkX c x = movX c (if x.d = 5 then c.v - x.n else c.v + x.n) := by simp [mkX, d0, d1, d2, d3]
theorem good_cnt_nil {c : Cl} (h : good c = true) (hk : c.k = 2) : c.d = [] := by
  simp [Proofs.YtlpgmmcdcjkkiaaDoor.good] at h
  rcases h with h | h
  · omega
  · exact h.1.2
theorem mov_x {c : Cl} {v : Int} (hk : c.k = 2) (hd : c.d = []) : movX c v = if inB c.lo c.hi v then ((movC c v).1, 0) else (zeroC, 8) := by
  obtain ⟨k, d, lo, hi, u⟩ := c
  simp only at hk hd
  subst hk hd
  unfold movX movC
  cases inB lo hi v <;> simp
set_option maxHeartbeats 1000000 in
/-- What move tells of a counter. -/
theorem rmove9_two (D : Value) (A : Option Addr) (n m : Nat) (x : Ox) (c : Cl) (w : World) (hk : c.k = 2) (hx64 : in64x x) (hc64 : in64c c) :
    Calls Tryd.prog 52 #[ov D x, cv (.slice A n m) c] w fun e w' => e = .returned (.tuple #[cv (.slice A n m) (movC c (if x.d = 5 then c.v - x.n else c.v + x.n)).1, .int .i64 (movC c (if x.d = 5 then c.v - x.n else c.v + x.n)).2]) ∧ Below w.heap.size w w' := by
  obtain ⟨k, b, lo, hi, v⟩ := c
  obtain ⟨d, xk, xb, xlo, xhi, xn⟩ := x
  simp only at hk
  subst hk
  obtain ⟨_, q2, q3, q4⟩ := hc64
  obtain ⟨_, _, _, r4⟩ := hx64
  by_cases d5 : d = 5
  · subst d5
    simp only [if_true]
    exact rmove9_sub D A n m xk xb b xlo xhi xn lo hi v w q2 q3 q4 r4
  · simp only [d5, if_false]
    exact rmove9_add D A n m d xk xb b xlo xhi xn lo hi v w d5 q2 q3 q4 r4
set_option maxHeartbeats 1000000 in
theorem rstep9_any (w : World) (v : Value) (s : List Pr) (A : Option Addr) (n c : Nat) (x : Ox) (hv : PS w v s) (hst : St s) (h64 : ∀ p ∈ s, in64c p.c) (hx : SV w (.slice A n c) (bys x.b)) (hxk : x.k.length ≤ 9223372036854775807) (hx64 : in64x x) (hlen : s.length ≤ 100000) :
    Calls Tryd.prog 38 #[v, ov (.slice A n c) x] w (Stepped9 s x w) := by
  obtain rfl : n = x.b.length := by have := hx.bd; rw [bys_len] at this; exact this.1
  obtain ⟨Av, cv', rfl⟩ := hv.slice
  have gd : ∀ b, goodX x = b → GoodC A x.b.length c x b := fun b h w => by
    have := rgood9_any A c x w hxk
    rw [h] at this
    exact this
  cases hg : goodX x with
  | false => exact rstep_bad Av cv' s A x.b.length c x w hv (gd _ hg) (stepX_bad hg)
  | true =>
    have fd : ∀ C z, fndC s x.k = C → (fnd s x.k).isSome = z → FindC Av cv' s x.k C z := fun C z h1 h2 w' hw => by
      refine (rfind9_any _ s x.k w' hw).mono ?_
      rintro e w2 ⟨D, e1, e2, e3⟩
      rw [h1] at e1 e2
      rw [h2] at e1
      obtain ⟨A', n', c', rfl⟩ := sv_sl e2
      exact ⟨_, _, _, e1, e2, e3⟩
    have pu : ∀ (C' : Cl) (w' : World) A' n' c', PS w' (.slice Av s.length cv') s → SV w' (.slice A' n' c') (bys C'.d) → Calls Tryd.prog 51 #[.slice Av s.length cv', kst x.k, cv (.slice A' n' c') C'] w' (Puts (putS s x.k C') w') := fun C' w' A' n' c' h1 h2 => rput9_any _ s x.k A' n' c' C' w' h1 h2 hlen
    have G := gd _ hg
    have e0 : ∀ j : Int, x.d = j → (x.d == j) = true := fun j h => by simpa using h
    have e1 : ∀ j : Int, ¬ x.d = j → (x.d == j) = false := fun j h => by simpa using h
    have hok := fndC_ok hst x.k
    cases hf : fnd s x.k with
    | none =>
      have hC : fndC s x.k = zeroC := by simp [fndC, hf]
      have F := fd zeroC false hC (by rw [hf]; rfl)
      by_cases d1 : x.d = 1
      · exact rstep_rec Av cv' s A x.b.length c x zeroC false w hv G F hx (e0 1 d1) rfl (stepX_put hg hC (by simp [mkX, d1, zeroC]) (by omega)) (fun w' h1 h2 => pu (recC x) w' _ _ _ h1 h2)
      · by_cases d2 : x.d = 2
        · exact rstep_cnt Av cv' s A x.b.length c x zeroC w hv G F (e1 1 d1) (e0 2 d2) (stepX_put hg hC (by simp [mkX, d2, zeroC]) (by omega)) (fun w' h1 => pu (cntC x) w' _ _ _ h1 (SV.nil _))
        · refine rstep_none Av cv' s A x.b.length c x zeroC w hv G F (e1 1 d1) (e1 2 d2) (stepX_err hg hC ?_ (by decide))
          by_cases d0 : x.d = 0
          · simp [mkX, d0, zeroC]
          · by_cases d3 : x.d = 3
            · simp [mkX, d3, zeroC]
            · rw [mk_mov d0 d1 d2 d3]
              simp [movX, zeroC]
    | some C =>
      have hC : fndC s x.k = C := by simp [fndC, hf]
      have F := fd C true hC (by rw [hf]; rfl)
      have hgd := hst.good (fnd_mem hf)
      have h64c := h64 _ (fnd_mem hf)
      simp only at hgd h64c
      have hk := good_kind hgd
      have hk0 : ¬ C.k = 0 := by omega
      by_cases d1 : x.d = 1
      · by_cases k2 : C.k = 2
        · exact rstep_kind Av cv' s A x.b.length c x C true w hv G F (e0 1 d1) (by simpa using k2) (stepX_err hg hC (by simp [mkX, d1, k2]) (by decide))
        · exact rstep_rec Av cv' s A x.b.length c x C true w hv G F hx (e0 1 d1) (by simpa using k2) (stepX_put hg hC (by simp [mkX, d1, k2]) (by omega)) (fun w' h1 h2 => pu (recC x) w' _ _ _ h1 h2)
      · by_cases d2 : x.d = 2
        · exact rstep_taken Av cv' s A x.b.length c x C w hv G F (e1 1 d1) (e0 2 d2) (stepX_err hg hC (by simp [mkX, d2, hk0]) (by decide))
        · by_cases d0 : x.d = 0
          · exact rstep_read Av cv' s A x.b.length c x C w hv G F (e1 1 d1) (e1 2 d2) (e0 0 d0) (stepX_read hg hC (by simp [mkX, d0, hk0]) d0)
          · by_cases d3 : x.d = 3
            · exact rstep_drop Av cv' s A x.b.length c x C w hv G F (e1 1 d1) (e1 2 d2) (e1 0 d0) (e0 3 d3) (stepX_put hg hC (by simp [mkX, d3, hk0]) (by omega)) (fun w' h1 => pu zeroC w' _ _ _ h1 (SV.nil _))
            · by_cases k2 : C.k = 2
              · have hmv := fun w' Ac nc cc => rmove9_two (.slice A x.b.length c) Ac nc cc x C w' k2 hx64 h64c
                have hmk := mk_mov (c := C) d0 d1 d2 d3
                generalize (if x.d = 5 then C.v - x.n else C.v + x.n) = u at hmv hmk
                have hnil := good_cnt_nil hgd k2
                rw [mov_x k2 hnil] at hmk
                cases hin : inB C.lo C.hi u with
                | false =>
                  rw [hin] at hmk
                  have hm : movC C u = (C, 8) := by simp [movC, hin]
                  rw [hm] at hmv
                  exact rstep_stay Av cv' s A x.b.length c x C 8 w hv G F (e1 1 d1) (e1 2 d2) (e1 0 d0) (e1 3 d3) rfl (stepX_err hg hC (by simpa using hmk) (by decide)) hmv
                | true =>
                  rw [hin] at hmk
                  have hm : movC C u = (⟨C.k, C.d, C.lo, C.hi, u⟩, 0) := by simp [movC, hin]
                  rw [hm] at hmv hmk
                  exact rstep_moved Av cv' s A x.b.length c x C ⟨C.k, C.d, C.lo, C.hi, u⟩ w hv G F (e1 1 d1) (e1 2 d2) (e1 0 d0) (e1 3 d3) rfl (stepX_put hg hC (by simpa using hmk) d0) hmv (fun w' Ac nc cc h1 h2 => pu ⟨C.k, C.d, C.lo, C.hi, u⟩ w' _ _ _ h1 h2)
              · exact rstep_stay Av cv' s A x.b.length c x C 6 w hv G F (e1 1 d1) (e1 2 d2) (e1 0 d0) (e1 3 d3) rfl (stepX_err hg hC (by rw [mk_mov d0 d1 d2 d3]; simp [movX, hk0, k2]) (by decide)) (fun w' Ac nc cc => rmove9_no (.slice A x.b.length c) Ac nc cc x C w' k2)
end Go.Proofs.YtlpgmmcdcjkkiaaDoor
