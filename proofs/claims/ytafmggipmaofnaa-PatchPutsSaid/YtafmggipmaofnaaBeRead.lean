/- Layer 1's reader: contracts of its methods, and of Read. -/
import Derived.Test.YtafmggipmaofnaaBase
import Derived.Test.YtafmggipmaofnaaWords
import Derived.Test.YtafmggipmaofnaaRegion
import Derived.Test.YtafmggipmaofnaaBeMath
import Derived.Test.YtafmggipmaofnaaBe
import Derived.Test.YtafmggipmaofnaaBePut
import Derived.Test.YtafmggipmaofnaaBeLaws
import Derived.Test.YtafmggipmaofnaaChecked
namespace Go.Proofs.Ytafmggipmaofnaa
set_option maxRecDepth 20000
open Go.RowKit Go.Sort

/-- Block g holds the reader: what is ahead of it, and whether it is bad. -/
def RDR (g : Nat) (s : List UInt8 × Bool) (w : World) : Prop := ∃ A c, Whole w g 80 #[.slice A s.1.length c, .bool s.2] ∧ SV w (.slice A s.1.length c) (bys s.1) ∧ (s.2 = true → s.1 = [])

theorem RDR.keep {g : Nat} {s : List UInt8 × Bool} {w w' : World} (h : RDR g s w) (hb : Below w.heap.size w w') : RDR g s w' := by
  obtain ⟨A, c, h1, h2, h3⟩ := h
  exact ⟨A, c, h1.on hb, h2.keep (Keeps.below hb), h3⟩
/-- The reader stays while another block is written. -/
theorem RDR.but {g g' : Nat} {s : List UInt8 × Bool} {w w' : World} {t : TypeId} {cs : Array Value} (h : RDR g s w) (hw : Whole w g' t cs) (hb : But g' w w') (hn : (cs.toList.all fun v => !isU8 v) = true) (hne : g ≠ g') : RDR g s w' := by
  obtain ⟨A, c, h1, h2, h3⟩ := h
  exact ⟨A, c, h1.but hb hne, sv_but h2 hw hb hn, h3⟩
theorem RDR.lt {g : Nat} {s : List UInt8 × Bool} {w : World} (h : RDR g s w) : g < w.heap.size := h.choose_spec.choose_spec.1.lt

theorem rdOK (g : Nat) (A : Option Addr) (n c : Nat) (b : Bool) (w : World) (h : Whole w g 80 #[.slice A n c, .bool b]) :
    Calls Try.prog 51 #[.pointer (some ⟨g, 0, none⟩)] w fun e w' => e = .returned (.bool (!b)) ∧ w = w' := by
  have q1 := h.cell 1
  simp at q1
  go_enter Try.func51, Try.ntmps51
  go_wp2
  go_ret
  exact ⟨rfl, rfl⟩

theorem rdLeft (g : Nat) (A : Option Addr) (n c : Nat) (b : Bool) (w : World) (h : Whole w g 80 #[.slice A n c, .bool b]) :
    Calls Try.prog 50 #[.pointer (some ⟨g, 0, none⟩)] w fun e w' => e = .returned (.int .i64 (if b then 0 else n)) ∧ w = w' := by
  have C := Lib.hid (rdOK g A n c b w h)
  have q0 := h.cell 0
  simp at q0
  cases b
  · go_enter Try.func50, Try.ntmps50
    go_wp2_with (go_at_call 51; refine C.out.mono ?_; rintro e w1 ⟨rfl, rfl⟩)
    go_ret
    exact ⟨rfl, rfl⟩
  · go_enter Try.func50, Try.ntmps50
    go_wp2_with (go_at_call 51; refine C.out.mono ?_; rintro e w1 ⟨rfl, rfl⟩)
    go_ret
    exact ⟨rfl, rfl⟩

/-- What spoil leaves. -/
def Spoilt (g : Nat) (w : World) (e : Ending) (w' : World) : Prop := ∃ v, e = .returned v ∧ Whole w' g 80 #[.slice none 0 0, .bool true] ∧ But g w w'
theorem rdSpoil (g : Nat) (A : Option Addr) (n c : Nat) (b : Bool) (w : World) (h : Whole w g 80 #[.slice A n c, .bool b]) :
    Calls Try.prog 47 #[.pointer (some ⟨g, 0, none⟩)] w (Spoilt g w) := by
  have q0 := h.cell 0
  have q1 := h.cell 1
  have f0 := h.free 0
  have f1 := h.free 1
  simp at q0 q1
  have p := (h.put 0 (.slice none 0 0)).put 1 (.bool true)
  simp only [List.setIfInBounds_toArray, List.set_cons_succ, List.set_cons_zero] at p
  have bb := (But.set g w 0 (.slice none 0 0)).trans (But.set g _ 1 (.bool true))
  have P := Lib.hid p
  have BB := Lib.hid bb
  clear p bb h
  go_enter Try.func47, Try.ntmps47
  go_wp2
  go_end0
  exact ⟨_, rfl, P.out, BB.out⟩

/-- Are there n bytes ahead? -/
def rdHas (s : List UInt8 × Bool) (n : Nat) : Bool := !s.2 && decide (n ≤ s.1.length)
/-- The next n bytes; what is ahead behind them. -/
def rdB (s : List UInt8 × Bool) (n : Nat) : List UInt8 := if rdHas s n then s.1.take n else []
def rdS (s : List UInt8 × Bool) (n : Nat) : List UInt8 × Bool := if rdHas s n then (s.1.drop n, false) else ([], true)
def NextR (g : Nat) (s : List UInt8 × Bool) (n : Nat) (w : World) (e : Ending) (w' : World) : Prop := ∃ A c, e = .returned (.slice A (rdB s n).length c) ∧ SV w' (.slice A (rdB s n).length c) (bys (rdB s n)) ∧ RDR g (rdS s n) w' ∧ But g w w'

theorem next_ok (g : Nat) (A : Option Addr) (l : List UInt8) (c n : Nat) (w : World) (h : Whole w g 80 #[.slice A l.length c, .bool false]) (hn : n ≤ l.length) (hv : SV w (.slice A l.length c) (bys l)) :
    Calls Try.prog 48 #[.pointer (some ⟨g, 0, none⟩), .int .i64 n] w (NextR g (l, false) n w) := by
  have hb := hv.bd
  rw [bys_len] at hb
  have CO := Lib.hid (rdOK g A l.length c false w h)
  have CL := Lib.hid (rdLeft g A l.length c false w h)
  have q0 := h.cell 0
  have f0 := h.free 0
  simp at q0
  have hct := fun w' => run_cut (P := Try.prog) (kd := .i64) (A := A) (c := c) Try.underlying32 (e := 5) (by kernel_rfl) hn w'
  have htk := fun w' => run_take (P := Try.prog) (kd := .i64) (A := A) (n := l.length) (c := c) Try.underlying32 (e := 5) (by kernel_rfl) (Nat.le_trans hn hb.2.1) w'
  have hcs := hv.cut n hn
  have htv := hv.takev n (by omega)
  rw [show (bys l).take n = bys (l.take n) by simp [bys]] at htv
  generalize (if c = n then A else A.map (·.add n)) = D at hct hcs
  have hs : rdHas (l, false) n = true := by simp [rdHas, hn]
  have p := h.put 0 (.slice D (l.length - n) (c - n))
  simp only [List.setIfInBounds_toArray, List.set_cons_zero] at p
  have bb := But.set g w 0 (.slice D (l.length - n) (c - n))
  have fin : NextR g (l, false) n w (.returned (.slice A n c)) (w.setCell ⟨g, 0, none⟩ (.slice D (l.length - n) (c - n))) := by
    unfold NextR rdB rdS
    simp only [hs, if_true, List.length_take, Nat.min_eq_left hn]
    exact ⟨A, c, rfl, sv_but htv h bb rfl, ⟨D, c - n, by rw [List.length_drop]; exact p, by rw [List.length_drop]; exact sv_but hcs h bb rfl, fun h => by cases h⟩, bb⟩
  have FIN := Lib.hid fin
  have HN := Lib.hid hn
  have r1 : decide ((l.length : Int) < n) = false := by simp; omega
  have r2 : decide (l.length < n) = false := by simp; omega
  clear p bb fin hs hcs htv hv hb h hn
  go_enter Try.func48, Try.ntmps48
  go_wp2_with (first
    | (go_at_call 51; refine CO.out.mono ?_; rintro e w1 ⟨rfl, rfl⟩)
    | (go_at_call 50; refine CL.out.mono ?_; rintro e w1 ⟨rfl, rfl⟩))
  go_ret
  exact FIN.out

theorem next_no (g : Nat) (A : Option Addr) (m c n : Nat) (b : Bool) (w : World) (h : Whole w g 80 #[.slice A m c, .bool b]) (l : List UInt8) (hm : m = l.length) (hv : SV w (.slice A m c) (bys l)) (hbad : b = true → l = []) (hh : rdHas (l, b) n = false) :
    Calls Try.prog 48 #[.pointer (some ⟨g, 0, none⟩), .int .i64 n] w (NextR g (l, b) n w) := by
  have CO := fun w' h' => rdOK g none 0 0 true w' h'
  have CL := rdLeft g A m c b w h
  have fin : ∀ w', Whole w' g 80 #[.slice none 0 0, .bool true] → But g w w' → NextR g (l, b) n w (.returned (.slice none 0 0)) w' := by
    intro w' h1 h2
    unfold NextR rdB rdS
    simp only [hh]
    exact ⟨none, 0, rfl, SV.nil _, ⟨none, 0, h1, SV.nil _, fun _ => rfl⟩, h2⟩
  replace CO := Lib.hid CO
  have FIN := Lib.hid fin
  have CS := Lib.hid (rdSpoil g A m c b w h)
  clear fin
  cases b with
  | false =>
    simp only [Bool.false_eq_true, if_false] at CL
    replace CL := Lib.hid CL
    have hlt : m < n := by simp [rdHas] at hh; omega
    have r1 : (m : Int) < n := by omega
    clear hh hm hbad
    go_enter Try.func48, Try.ntmps48
    go_wp2_with (first
      | (go_at_call 47; refine CS.out.mono ?_; rintro e w1 ⟨v1, rfl, h1, b1⟩)
      | (go_at_call 51; refine (CO.out _ h1).mono ?_; rintro e w2 ⟨rfl, rfl⟩)
      | (go_at_call 50; refine CL.out.mono ?_; rintro e w1 ⟨rfl, rfl⟩))
    go_ret
    exact FIN.out _ h1 b1
  | true =>
    simp only [if_true] at CL
    replace CL := Lib.hid CL
    have hl := hbad rfl
    subst hl
    subst hm
    clear hh hbad
    by_cases hn : n = 0
    · subst hn
      have fin0 : NextR g ([], true) 0 w (.returned (.slice none 0 0)) w := by
        unfold NextR rdB rdS
        have : rdHas ([], true) 0 = false := rfl
        simp only [this]
        exact ⟨none, 0, rfl, SV.nil _, ⟨A, c, h, hv, fun _ => rfl⟩, But.refl _ _⟩
      have FIN0 := Lib.hid fin0
      have CO2 := Lib.hid (rdOK g A 0 c true w h)
      clear fin0 hv
      go_enter Try.func48, Try.ntmps48
      go_wp2_with (first
        | (go_at_call 51; refine CO2.out.mono ?_; rintro e w2 ⟨rfl, rfl⟩)
        | (go_at_call 50; refine CL.out.mono ?_; rintro e w1 ⟨rfl, rfl⟩))
      go_ret
      exact FIN0.out
    · have r1 : (0 : Int) < n := by omega
      go_enter Try.func48, Try.ntmps48
      go_wp2_with (first
        | (go_at_call 47; refine CS.out.mono ?_; rintro e w1 ⟨v1, rfl, h1, b1⟩)
        | (go_at_call 51; refine (CO.out _ h1).mono ?_; rintro e w2 ⟨rfl, rfl⟩)
        | (go_at_call 50; refine CL.out.mono ?_; rintro e w1 ⟨rfl, rfl⟩))
      go_ret
      exact FIN.out _ h1 b1

theorem rdNext (g n : Nat) (s : List UInt8 × Bool) (w : World) (h : RDR g s w) :
    Calls Try.prog 48 #[.pointer (some ⟨g, 0, none⟩), .int .i64 n] w (NextR g s n w) := by
  obtain ⟨A, c, h1, h2, h3⟩ := h
  obtain ⟨l, b⟩ := s
  simp only at *
  cases hh : rdHas (l, b) n
  · exact next_no g A l.length c n b w h1 l rfl h2 h3 hh
  · simp [rdHas] at hh
    obtain ⟨rfl, hn⟩ := hh
    exact next_ok g A l c n w h1 hn h2

/-- The next number. -/
def rdI (s : List UInt8 × Bool) (m : Nat) : Int := if rdHas s m then wrap64 (numOf (s.1.take m)) else 0
theorem rdNum (g m : Nat) (s : List UInt8 × Bool) (w : World) (h : RDR g s w) (h1 : 1 ≤ m) (h8 : m ≤ 8) :
    Calls Try.prog 37 #[.pointer (some ⟨g, 0, none⟩), .int .i64 m] w fun e w' => e = .returned (.int .i64 (rdI s m)) ∧ RDR g (rdS s m) w' ∧ But g w w' := by
  have CN := Lib.hid (rdNext g m s w h)
  have CU : ∀ w' v, SV w' v (bys (rdB s m)) → Calls Try.prog 44 #[v, .int .i64 0, .int .i64 m] w' fun e w'' => ∃ b, e = .returned (.tuple #[.int .i64 (rdI s m), .bool b]) ∧ w' = w'' := by
    intro w' v hv
    unfold rdI
    cases hh : rdHas s m
    · simp only [rdB, hh, Bool.false_eq_true, if_false] at hv ⊢
      refine (num_no v [] 0 m w' (by simp) hv ?_).mono fun e w'' ⟨he, hw⟩ => ⟨_, he, hw⟩
      unfold isAt
      simp
      omega
    · have hn : m ≤ s.1.length := by simp [rdHas] at hh; exact hh.2
      simp only [rdB, hh, if_true] at hv ⊢
      have hlen : (s.1.take m).length = m := by simp; omega
      have := num_yes v (s.1.take m) 0 m w' (by simp; omega) hv h1 h8 (by omega)
      rw [List.drop_zero, List.take_of_length_le (Nat.le_of_eq hlen)] at this
      exact this.mono fun e w'' ⟨he, hw⟩ => ⟨_, he, hw⟩
  replace CU := Lib.hid CU
  clear h
  go_enter Try.func37, Try.ntmps37
  go_wp2_with (first
    | (go_at_call 46; refine (fits_yes _ _ (by omega) (by omega)).mono ?_; rintro e w1 ⟨rfl, rfl⟩)
    | (go_at_call 44; refine (CU.out _ _ hsv).mono ?_; rintro e w2 ⟨b2, rfl, rfl⟩)
    | (go_at_call 48; refine CN.out.mono ?_; rintro e w1 ⟨A, c, rfl, hsv, hr1, hb1⟩; have HR := Lib.hid hr1; have HB := Lib.hid hb1; clear hr1 hb1))
  go_ret
  exact ⟨rfl, HR.out, HB.out⟩

/-- The next bytes. -/
theorem rdBytes (g n : Nat) (s : List UInt8 × Bool) (w : World) (h : RDR g s w) (hl : s.1.length ≤ 1073741824) :
    Calls Try.prog 38 #[.pointer (some ⟨g, 0, none⟩), .int .i64 n] w fun e w' => ∃ v, e = .returned v ∧ w'.ownsRow w.heap.size 5 1 v (rdB s n).length (bys (rdB s n)) ∧ RDR g (rdS s n) w' ∧ But g w w' := by
  have CN := Lib.hid (rdNext g n s w h)
  have hlen : (rdB s n).length ≤ 1073741824 := by
    unfold rdB
    split
    · simp; omega
    · simp
  clear hl h
  go_enter Try.func38, Try.ntmps38
  go_wp2_with (first
    | (go_at_call 45; refine (clone_any _ _ _ hlen hsv).mono ?_; rintro e w2 ⟨v2, rfl, h2, b2⟩; have HV := Lib.hid (own_lower h2 HB.out.size); have HR := Lib.hid (HR.out.keep b2); have HB := Lib.hid (HB.out.trans (But.of g b2)); clear h2 b2)
    | (go_at_call 48; refine CN.out.mono ?_; rintro e w1 ⟨A, c, rfl, hsv, hr1, hb1⟩; have HR := Lib.hid hr1; have HB := Lib.hid hb1; clear hr1 hb1))
  go_ret
  exact ⟨_, rfl, HV.out, HR.out, HB.out⟩

theorem rdAll (g : Nat) (s : List UInt8 × Bool) (w : World) (h : RDR g s w) :
    Calls Try.prog 51 #[.pointer (some ⟨g, 0, none⟩)] w fun e w' => e = .returned (.bool (!s.2)) ∧ w = w' := by
  obtain ⟨A, c, h1, h2, h3⟩ := h
  exact rdOK g A _ c s.2 w h1
theorem rdRest (g : Nat) (s : List UInt8 × Bool) (w : World) (h : RDR g s w) :
    Calls Try.prog 50 #[.pointer (some ⟨g, 0, none⟩)] w fun e w' => e = .returned (.int .i64 (if s.2 then 0 else s.1.length)) ∧ w = w' := by
  obtain ⟨A, c, h1, h2, h3⟩ := h
  exact rdLeft g A _ c s.2 w h1

/-- A reader of bytes, new. -/
theorem rdRead (v : Value) (l : List UInt8) (w : World) (hl : l.length ≤ 1073741824) (hv : SV w v (bys l)) :
    Calls Try.prog 36 #[v] w fun e w' => ∃ g, e = .returned (.pointer (some ⟨g, 0, none⟩)) ∧ w.heap.size ≤ g ∧ RDR g (l, false) w' ∧ Below w.heap.size w w' := by
  have C := Lib.hid (clone_any v l w hl hv)
  clear hv
  go_enter Try.func36, Try.ntmps36
  go_wp2_with (go_at_call 45; refine C.out.mono ?_; rintro e w1 ⟨v1, rfl, h1, b1⟩; obtain ⟨A, c, rfl⟩ : ∃ A c, v1 = .slice A l.length c := by obtain ⟨A, c, e, _⟩ := SV.own h1; exact ⟨A, c, by rw [bys_len] at e; exact e⟩)
  go_ret
  refine ⟨_, rfl, b1.size, ⟨A, c, Whole.made _ _ _, (SV.own h1).keep (Keeps.alloc _ _), fun h => by cases h⟩, b1.alloc b1.size _⟩
end Go.Proofs.Ytafmggipmaofnaa
