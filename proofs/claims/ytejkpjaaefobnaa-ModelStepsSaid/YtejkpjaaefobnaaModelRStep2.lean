/- The reference's Step: all ways. -/
import Derived.Test.YtejkpjaaefobnaaModelRStep
namespace Go.Proofs.Ytejkpjaaefobnaa
set_option maxRecDepth 20000
open Go.RowKit Go.Sort

theorem mk_mov {c : Cl} {x : Ox} (d0 : ¬ x.d = 0) (d1 : ¬ x.d = 1) (d2 : ¬ x.d = 2) (d3 : ¬ x.d = 3) : mkX c x = movX c (if x.d = 5 then c.v - x.n else c.v + x.n) := by simp [mkX, d0, d1, d2, d3]
theorem good_cnt_nil {c : Cl} (h : good c = true) (hk : c.k = 2) : c.d = [] := by
  simp [Proofs.Ytejkpjaaefobnaa.good] at h
  rcases h with h | h
  · omega
  · exact h.1.2
theorem mov_x {c : Cl} {v : Int} (hk : c.k = 2) (hd : c.d = []) : movX c v = if inB c.lo c.hi v then ((movC c v).1, 0) else (zeroC, 8) := by
  obtain ⟨k, d, lo, hi, u⟩ := c
  simp only at hk hd
  subst hk hd
  unfold movX movC
  cases inB lo hi v <;> simp
set_option maxHeartbeats 1000000 in
/-- What move tells of a counter. -/
theorem rmove9_two (D : Value) (A : Option Addr) (n m : Nat) (x : Ox) (c : Cl) (w : World) (hk : c.k = 2) (hx64 : in64x x) (hc64 : in64c c) :
    Calls Try.prog 33 #[ov D x, cv (.slice A n m) c] w fun e w' => e = .returned (.tuple #[cv (.slice A n m) (movC c (if x.d = 5 then c.v - x.n else c.v + x.n)).1, .int .i64 (movC c (if x.d = 5 then c.v - x.n else c.v + x.n)).2]) ∧ Below w.heap.size w w' := by
  obtain ⟨k, b, lo, hi, v⟩ := c
  obtain ⟨d, xk, xb, xlo, xhi, xn⟩ := x
  simp only at hk
  subst hk
  obtain ⟨_, q2, q3, q4⟩ := hc64
  obtain ⟨_, _, _, r4⟩ := hx64
  by_cases d5 : d = 5
  · subst d5
    simp only [if_true]
    exact rmove9_sub D A n m xk xb b xlo xhi xn lo hi v w q2 q3 q4 r4
  · simp only [d5, if_false]
    exact rmove9_add D A n m d xk xb b xlo xhi xn lo hi v w d5 q2 q3 q4 r4
set_option maxHeartbeats 1000000 in
theorem rstep9_any (w : World) (v : Value) (s : List Pr) (A : Option Addr) (n c : Nat) (x : Ox) (hv : PS w v s) (hst : St s) (h64 : ∀ p ∈ s, in64c p.c) (hx : SV w (.slice A n c) (bys x.b)) (hxk : x.k.length ≤ 9223372036854775807) (hx64 : in64x x) (hlen : s.length ≤ 100000) :
    Calls Try.prog 12 #[v, ov (.slice A n c) x] w (Stepped9 s x w) := by
  obtain rfl : n = x.b.length := by have := hx.bd; rw [bys_len] at this; exact this.1
  obtain ⟨Av, cv', rfl⟩ := hv.slice
  have gd : ∀ b, goodX x = b → GoodC A x.b.length c x b := fun b h w => by
    have := rgood9_any A c x w hxk
    rw [h] at this
    exact this
  cases hg : goodX x with
  | false => exact rstep_bad Av cv' s A x.b.length c x w hv (gd _ hg) (stepX_bad hg)
  | true =>
    have fd : ∀ C z, fndC s x.k = C → (fnd s x.k).isSome = z → FindC Av cv' s x.k C z := fun C z h1 h2 w' hw => by
      refine (rfind9_any _ s x.k w' hw).mono ?_
      rintro e w2 ⟨D, e1, e2, e3⟩
      rw [h1] at e1 e2
      rw [h2] at e1
      obtain ⟨A', n', c', rfl⟩ := sv_sl e2
      exact ⟨_, _, _, e1, e2, e3⟩
    have pu : ∀ (C' : Cl) (w' : World) A' n' c', PS w' (.slice Av s.length cv') s → SV w' (.slice A' n' c') (bys C'.d) → Calls Try.prog 32 #[.slice Av s.length cv', kst x.k, cv (.slice A' n' c') C'] w' (Puts (putS s x.k C') w') := fun C' w' A' n' c' h1 h2 => rput9_any _ s x.k A' n' c' C' w' h1 h2 hlen
    have G := gd _ hg
    have e0 : ∀ j : Int, x.d = j → (x.d == j) = true := fun j h => by simpa using h
    have e1 : ∀ j : Int, ¬ x.d = j → (x.d == j) = false := fun j h => by simpa using h
    have hok := fndC_ok hst x.k
    cases hf : fnd s x.k with
    | none =>
      have hC : fndC s x.k = zeroC := by simp [fndC, hf]
      have F := fd zeroC false hC (by rw [hf]; rfl)
      by_cases d1 : x.d = 1
      · exact rstep_rec Av cv' s A x.b.length c x zeroC false w hv G F hx (e0 1 d1) rfl (stepX_put hg hC (by simp [mkX, d1, zeroC]) (by omega)) (fun w' h1 h2 => pu (recC x) w' _ _ _ h1 h2)
      · by_cases d2 : x.d = 2
        · exact rstep_cnt Av cv' s A x.b.length c x zeroC w hv G F (e1 1 d1) (e0 2 d2) (stepX_put hg hC (by simp [mkX, d2, zeroC]) (by omega)) (fun w' h1 => pu (cntC x) w' _ _ _ h1 (SV.nil _))
        · refine rstep_none Av cv' s A x.b.length c x zeroC w hv G F (e1 1 d1) (e1 2 d2) (stepX_err hg hC ?_ (by decide))
          by_cases d0 : x.d = 0
          · simp [mkX, d0, zeroC]
          · by_cases d3 : x.d = 3
            · simp [mkX, d3, zeroC]
            · rw [mk_mov d0 d1 d2 d3]
              simp [movX, zeroC]
    | some C =>
      have hC : fndC s x.k = C := by simp [fndC, hf]
      have F := fd C true hC (by rw [hf]; rfl)
      have hgd := hst.good (fnd_mem hf)
      have h64c := h64 _ (fnd_mem hf)
      simp only at hgd h64c
      have hk := good_kind hgd
      have hk0 : ¬ C.k = 0 := by omega
      by_cases d1 : x.d = 1
      · by_cases k2 : C.k = 2
        · exact rstep_kind Av cv' s A x.b.length c x C true w hv G F (e0 1 d1) (by simpa using k2) (stepX_err hg hC (by simp [mkX, d1, k2]) (by decide))
        · exact rstep_rec Av cv' s A x.b.length c x C true w hv G F hx (e0 1 d1) (by simpa using k2) (stepX_put hg hC (by simp [mkX, d1, k2]) (by omega)) (fun w' h1 h2 => pu (recC x) w' _ _ _ h1 h2)
      · by_cases d2 : x.d = 2
        · exact rstep_taken Av cv' s A x.b.length c x C w hv G F (e1 1 d1) (e0 2 d2) (stepX_err hg hC (by simp [mkX, d2, hk0]) (by decide))
        · by_cases d0 : x.d = 0
          · exact rstep_read Av cv' s A x.b.length c x C w hv G F (e1 1 d1) (e1 2 d2) (e0 0 d0) (stepX_read hg hC (by simp [mkX, d0, hk0]) d0)
          · by_cases d3 : x.d = 3
            · exact rstep_drop Av cv' s A x.b.length c x C w hv G F (e1 1 d1) (e1 2 d2) (e1 0 d0) (e0 3 d3) (stepX_put hg hC (by simp [mkX, d3, hk0]) (by omega)) (fun w' h1 => pu zeroC w' _ _ _ h1 (SV.nil _))
            · by_cases k2 : C.k = 2
              · have hmv := fun w' Ac nc cc => rmove9_two (.slice A x.b.length c) Ac nc cc x C w' k2 hx64 h64c
                have hmk := mk_mov (c := C) d0 d1 d2 d3
                generalize (if x.d = 5 then C.v - x.n else C.v + x.n) = u at hmv hmk
                have hnil := good_cnt_nil hgd k2
                rw [mov_x k2 hnil] at hmk
                cases hin : inB C.lo C.hi u with
                | false =>
                  rw [hin] at hmk
                  have hm : movC C u = (C, 8) := by simp [movC, hin]
                  rw [hm] at hmv
                  exact rstep_stay Av cv' s A x.b.length c x C 8 w hv G F (e1 1 d1) (e1 2 d2) (e1 0 d0) (e1 3 d3) rfl (stepX_err hg hC (by simpa using hmk) (by decide)) hmv
                | true =>
                  rw [hin] at hmk
                  have hm : movC C u = (⟨C.k, C.d, C.lo, C.hi, u⟩, 0) := by simp [movC, hin]
                  rw [hm] at hmv hmk
                  exact rstep_moved Av cv' s A x.b.length c x C ⟨C.k, C.d, C.lo, C.hi, u⟩ w hv G F (e1 1 d1) (e1 2 d2) (e1 0 d0) (e1 3 d3) rfl (stepX_put hg hC (by simpa using hmk) d0) hmv (fun w' Ac nc cc h1 h2 => pu ⟨C.k, C.d, C.lo, C.hi, u⟩ w' _ _ _ h1 h2)
              · exact rstep_stay Av cv' s A x.b.length c x C 6 w hv G F (e1 1 d1) (e1 2 d2) (e1 0 d0) (e1 3 d3) rfl (stepX_err hg hC (by rw [mk_mov d0 d1 d2 d3]; simp [movX, hk0, k2]) (by decide)) (fun w' Ac nc cc => rmove9_no (.slice A x.b.length c) Ac nc cc x C w' k2)
end Go.Proofs.Ytejkpjaaefobnaa
