/- slices.Replace at pairs, by the lists that the rows hold. -/
import Derived.Test.YtlpgmmcdcjkkiaaDoorModelRepl
namespace Go.Proofs.YtlpgmmcdcjkkiaaDoor
set_option maxRecDepth 20000
open Go.RowKit Go.Sort

/-- One pair put into a row, or one taken out: what came back. -/
def Put9 (w : World) (M : Nat) (v : Value) (es' : List (Pr × Value)) (e : Ending) (w' : World) : Prop := ∃ v', e = .returned v' ∧ PO w' M v' es' ∧ w.grownBy w' v.ownBlock ∧ (v'.ownBlock = v.ownBlock ∨ ∃ k, v'.ownBlock = some k ∧ w.heap.size ≤ k)
theorem take_splice_mid {α : Type} (L : List α) (o : Nat) (cs : List α) (k : Nat) (h : o + cs.length ≤ k) (hL : o + cs.length ≤ L.length) : (splice L o cs).take k = L.take o ++ (cs ++ (L.take k).drop (o + cs.length)) := by
  unfold splice
  rw [List.take_append, List.length_take, Nat.min_eq_left (by omega), List.take_of_length_le (l := L.take o) (by simp; omega), List.take_append, List.take_of_length_le (l := cs) (by omega), List.drop_take, Nat.sub_sub]
theorem put_of_row {w w' : World} {M g n cap : Nat} {L F L' : List Value} {es' : List (Pr × Value)} {e : Ending} (hk : Blk w g n cap L F) (hs : ∀ x ∈ es', SV w x.2 (bys x.1.c.d)) (n' : Nat) (hn' : es'.length = n') (he : e = .returned (.slice (some ⟨g, 0, none⟩) n' cap)) (h : RowAt w g L' w') (hM : M ≤ g) (hl : L'.length = L.length) (hn : n' ≤ cap)
    (ht : L'.take (n' * 6) = flatP es') (hu : ∀ u ∈ L', isU8 u = false) : Put9 w M (.slice (some ⟨g, 0, none⟩) n cap) es' e w' := by
  subst hn'
  exact ⟨_, he, ⟨.inr ⟨g, cap, L', rfl, hM, h.1, hl.trans hk.len, hn, hk.max, ht, hu⟩, fun x hx => sv_blk hk h.2 (hs x hx)⟩, h.2, .inl rfl⟩
theorem grown_none {w w' : World} (hb : Below w.heap.size w w') (row : Option Nat) : w.grownBy w' row := ⟨hb.os, hb.tape, hb.output, hb.size, fun k hk _ => hb.block k hk⟩
theorem put_of_new {w w' : World} {M : Nat} {v : Value} {es' : List (Pr × Value)} {e : Ending} {cap : Nat} {L : List Value} (hs : ∀ x ∈ es', SV w x.2 (bys x.1.c.d)) (n' : Nat) (hn' : es'.length = n') (he : e = .returned (.slice (some ⟨w.heap.size, 0, none⟩) n' cap)) (hk : Blk w' w.heap.size n' cap L (flatP es')) (hb : Below w.heap.size w w') (hM : M ≤ w.heap.size) : Put9 w M v es' e w' := by
  subst hn'
  exact ⟨_, he, ⟨.inr ⟨_, cap, L, rfl, hM, hk⟩, fun x hx => (hs x hx).keep (Keeps.below hb)⟩, grown_none hb _, .inr ⟨_, rfl, Nat.le_refl _⟩⟩
theorem flat_split (es : List (Pr × Value)) (i : Nat) : flatP es = flatP (es.take i) ++ flatP (es.drop i) := by rw [← flatP_app, List.take_append_drop]
theorem sv_parts {w : World} {es : List (Pr × Value)} {x : Pr × Value} {i j : Nat} (h1 : ∀ x ∈ es, SV w x.2 (bys x.1.c.d)) (h2 : SV w x.2 (bys x.1.c.d)) : ∀ y ∈ es.take i ++ (x :: es.drop j), SV w y.2 (bys y.1.c.d) := by
  intro y hy
  rcases List.mem_append.1 hy with hy | hy
  · exact h1 y (List.mem_of_mem_take hy)
  · rcases List.mem_cons.1 hy with rfl | hy
    · exact h2
    · exact h1 y (List.mem_of_mem_drop hy)
theorem parts_len {es : List (Pr × Value)} {x : Pr × Value} {i j : Nat} (hi : i ≤ j) (hj : j ≤ es.length) : (es.take i ++ (x :: es.drop j)).length = i + 1 + (es.length - j) := by
  simp; omega
theorem flat_parts (es : List (Pr × Value)) (x : Pr × Value) (i j : Nat) : flatP (es.take i ++ (x :: es.drop j)) = (flatP es).take (i * 6) ++ (pcs x.1 x.2 ++ (flatP es).drop (j * 6)) := by
  rw [flatP_app, flatP_cons, flatP_take, flatP_drop]
theorem nu_splice {L cs : List Value} {o : Nat} (h1 : ∀ u ∈ L, isU8 u = false) (h2 : ∀ u ∈ cs, isU8 u = false) : ∀ u ∈ splice L o cs, isU8 u = false := fun u hu => (mem_splice hu).elim (h1 u) (h2 u)
theorem mid_drop {L : List Value} {n i : Nat} : (L.drop (i * 6)).take ((n - i) * 6) = (L.take (n * 6)).drop (i * 6) := by
  rw [List.drop_take, Nat.sub_mul]
/-- Insert. -/
theorem insert_any (w : World) (M Mb : Nat) (v nv : Value) (es : List (Pr × Value)) (x : Pr × Value) (i : Nat) (h : PO w M v es) (hx : PO w Mb nv [x]) (hM : M ≤ w.heap.size) (hne : nv.ownBlock ≠ v.ownBlock) (hi : i ≤ es.length) (hlen : es.length ≤ 1000000) :
    Calls Tryd.prog 73 #[v, .int .i64 i, nv] w (Put9 w M v (es.take i ++ (x :: es.drop i))) := by
  obtain ⟨⟨_, hx1⟩ | ⟨vb, c, Lb, rfl, _, hkb⟩, hxs⟩ := hx
  · cases hx1
  have hxv := hxs x (by simp)
  have hX : Lb.take 6 = pcs x.1 x.2 := by have := hkb.take; rw [flatP_one] at this; exact this
  have hX1 := pcs_one (p := x.1) hxv.one
  have hX2 := pcs_nu (p := x.1) hxv.nu
  have hfl := flat_parts es x i i
  have hpl := parts_len (es := es) (x := x) (Nat.le_refl i) hi
  obtain ⟨⟨rfl, rfl⟩ | ⟨g, cap, L, rfl, hMg, hk⟩, hs⟩ := h
  · obtain rfl : i = 0 := by simpa using hi
    refine (ins_end_grow w none 0 0 vb c [] Lb _ rfl (fun h => by omega) (fun u hu => by cases hu) (fun _ => ⟨rfl, rfl⟩) (fun a h => by cases h) rfl (by omega) hkb.cells hX rfl hX1 hX2).mono ?_
    rintro e w' ⟨cap', L', he, hb, hbl⟩
    exact put_of_new (fun y hy => by simp at hy; subst hy; exact hxv) 1 rfl he (by simpa [flatP] using hb) hbl hM
  · have hgl := hk.lt
    have hmx := hk.max
    unfold maxLen at hmx
    have hvg : vb ≠ g := fun e => hne (by rw [e]; rfl)
    have hfo : ∀ u ∈ L.take (es.length * 6), u.oneCell' = true := by rw [hk.take]; exact flatP_one' hs
    have hFl := flatP_len es
    by_cases hin : i = es.length
    · subst hin
      have hdrop : (flatP es).drop (es.length * 6) = [] := by rw [List.drop_of_length_le (by omega)]
      have htake : (flatP es).take (es.length * 6) = flatP es := List.take_of_length_le (by omega)
      rw [hdrop, htake, List.append_nil] at hfl
      by_cases hroom : es.length < cap
      · refine (ins_end w g es.length cap vb c L Lb _ hk.cells hk.len hroom hkb.cells hX rfl hX1).mono ?_
        rintro e w' ⟨he, hr⟩
        have hfit : es.length * 6 + (pcs x.1 x.2).length ≤ L.length := by rw [hk.len, pcs_len]; omega
        refine put_of_row hk (sv_parts hs hxv) (es.length + 1) (by rw [hpl]; omega) he hr hMg (length_splice _ _ _ hfit) (by omega) ?_ (nu_splice hk.nu hX2)
        rw [hfl, take_splice_all _ _ _ _ (by rw [pcs_len]; omega) hfit, hk.take]
      · have hcap : es.length = cap := by have := hk.le; omega
        have hLF : flatP es = L := by
          rw [← hk.take]
          exact List.take_of_length_le (by rw [hk.len]; omega)
        refine (ins_end_grow w (some ⟨g, 0, none⟩) es.length cap vb c (flatP es) Lb _ (flatP_len es) (fun _ => ⟨g, 0, rfl, fun j u hu => by rw [Nat.zero_add]; exact hk.get j u hu⟩) (flatP_nu hs) (fun h => by cases h) (fun a h => by injection h with h; rw [← h]) hcap hlen hkb.cells hX rfl hX1 hX2).mono ?_
        rintro e w' ⟨cap', L', he, hb, hbl⟩
        exact put_of_new (sv_parts hs hxv) (es.length + 1) (by rw [hpl]; omega) he (by rw [hfl]; exact hb) hbl hM
    · have hil : i < es.length := by omega
      have hC : (L.drop (i * 6)).take ((es.length - i) * 6) = (flatP es).drop (i * 6) := by rw [mid_drop, hk.take]
      have hCl : ((flatP es).drop (i * 6)).length = (es.length - i) * 6 := by rw [List.length_drop, hFl]; omega
      by_cases hroom : es.length < cap
      · refine (ins_mid w g es.length cap i vb c L Lb _ hk.cells hk.len hroom hil hmx hfo hkb.cells hvg hX rfl hX1).mono ?_
        rintro e w' ⟨he, hr⟩
        rw [hC] at hr
        have hf1 : (i + 1) * 6 + ((flatP es).drop (i * 6)).length ≤ L.length := by rw [hCl, hk.len]; omega
        have hl1 := length_splice L ((i + 1) * 6) ((flatP es).drop (i * 6)) hf1
        have hf2 : i * 6 + (pcs x.1 x.2).length ≤ (splice L ((i + 1) * 6) ((flatP es).drop (i * 6))).length := by rw [hl1, hk.len, pcs_len]; omega
        refine put_of_row hk (sv_parts hs hxv) (es.length + 1) (by rw [hpl]; omega) he hr hMg ((length_splice _ _ _ hf2).trans hl1) (by omega) ?_ (nu_splice (nu_splice hk.nu (fun u hu => flatP_nu hs u (List.mem_of_mem_drop hu))) hX2)
        rw [take_splice_mid _ _ _ _ (by rw [pcs_len]; omega) hf2, take_splice _ _ _ _ (by omega) (by rw [hk.len]; omega), take_splice_all _ _ _ _ (by rw [hCl]; omega) hf1, hfl]
        have h1 : L.take (i * 6) = (flatP es).take (i * 6) := by rw [← hk.take, List.take_take, Nat.min_eq_left (by omega)]
        rw [h1, List.drop_append, List.drop_of_length_le (by simp [pcs_len]; omega), List.nil_append, List.length_take, Nat.min_eq_left (by rw [hk.len]; omega), pcs_len, show i * 6 + 6 - (i + 1) * 6 = 0 by omega, List.drop_zero]
      · have hcap : es.length = cap := by have := hk.le; omega
        subst hcap
        have hLF : L = flatP es := by
          rw [← hk.take]
          exact (List.take_of_length_le (by rw [hk.len]; omega)).symm
        refine (ins_mid_grow w g es.length i vb c L Lb _ hk.cells hk.len hil hlen hk.nu (by rw [hLF]; exact flatP_one' hs) hkb.cells hX rfl hX1).mono ?_
        rintro e w' ⟨cap', R, he, hc1, hc2, hR, hRu, hcell, hbl⟩
        subst hLF
        have hf1 : i * 6 + (pcs x.1 x.2).length ≤ ((flatP es).take (i * 6) ++ R).length := by rw [hR, pcs_len]; omega
        have hl1 := length_splice ((flatP es).take (i * 6) ++ R) (i * 6) (pcs x.1 x.2) hf1
        have hf2 : (i + 1) * 6 + ((flatP es).drop (i * 6)).length ≤ (splice ((flatP es).take (i * 6) ++ R) (i * 6) (pcs x.1 x.2)).length := by rw [hl1, hR, hCl]; omega
        refine put_of_new (sv_parts hs hxv) (es.length + 1) (by rw [hpl]; omega) he ⟨hcell, (length_splice _ _ _ hf2).trans (hl1.trans hR), hc1, hc2, ?_, nu_splice (nu_splice hRu hX2) (fun u hu => flatP_nu hs u (List.mem_of_mem_drop hu))⟩ hbl hM
        rw [hfl, take_splice_all _ _ _ _ (by rw [hCl]; omega) hf2, take_splice_all _ _ _ _ (by rw [pcs_len]; omega) hf1, List.take_left' (by rw [List.length_take, hFl]; omega), List.append_assoc]
set_option maxHeartbeats 2000000 in
/-- Replace of nothing: Insert. -/
theorem rep_ins (w : World) (A : Option Addr) (n cap i : Nat) (nv : Value) (M : Nat) (es' : List (Pr × Value)) (hA : ∀ a, A = some a → a.spot = none) (hi : i ≤ n) (hn : n ≤ cap) (hmax : cap ≤ 9223372036854775807) (hI : Calls Tryd.prog 73 #[.slice A n cap, .int .i64 i, nv] w (Put9 w M (.slice A n cap) es')) :
    Calls Tryd.prog 46 #[.slice A n cap, .int .i64 i, .int .i64 i, nv] w (Put9 w M (.slice A n cap) es') := by
  have HI := Lib.hid hI
  clear hI
  by_cases hci : cap = i
  · subst hci
    obtain rfl : n = cap := by omega
    cases A with
    | none =>
      clear hA
      go_enter Tryd.func46, Tryd.ntmps46
      go_wp2_with fail
      refine Calls.mono HI.out ?_
      rintro e w1 ⟨v1, rfl, hr⟩
      replace hr := Lib.hid hr
      go_wp2
      go_ret
      exact ⟨v1, rfl, hr.out⟩
    | some a =>
      obtain ⟨ab, ao, asp⟩ := a
      obtain rfl : asp = none := hA _ rfl
      clear hA
      go_enter Tryd.func46, Tryd.ntmps46
      go_wp2_with fail
      refine Calls.mono HI.out ?_
      rintro e w1 ⟨v1, rfl, hr⟩
      replace hr := Lib.hid hr
      go_wp2
      go_ret
      exact ⟨v1, rfl, hr.out⟩
  · skip
    cases A with
    | none =>
      clear hA
      go_enter Tryd.func46, Tryd.ntmps46
      go_wp2_with fail
      refine Calls.mono HI.out ?_
      rintro e w1 ⟨v1, rfl, hr⟩
      replace hr := Lib.hid hr
      go_wp2
      go_ret
      exact ⟨v1, rfl, hr.out⟩
    | some a =>
      obtain ⟨ab, ao, asp⟩ := a
      obtain rfl : asp = none := hA _ rfl
      clear hA
      go_enter Tryd.func46, Tryd.ntmps46
      go_wp2_with fail
      refine Calls.mono HI.out ?_
      rintro e w1 ⟨v1, rfl, hr⟩
      replace hr := Lib.hid hr
      go_wp2
      go_ret
      exact ⟨v1, rfl, hr.out⟩
/-- Replace of none or one by one. -/
theorem replace_one (w : World) (M Mb : Nat) (v nv : Value) (es : List (Pr × Value)) (x : Pr × Value) (i j : Nat) (h : PO w M v es) (hx : PO w Mb nv [x]) (hM : M ≤ w.heap.size) (hne : nv.ownBlock ≠ v.ownBlock) (hij : j = i ∨ j = i + 1) (hj : j ≤ es.length) (hlen : es.length ≤ 1000000) :
    Calls Tryd.prog 46 #[v, .int .i64 i, .int .i64 j, nv] w (Put9 w M v (es.take i ++ (x :: es.drop j))) := by
  rcases hij with rfl | rfl
  · have hI := insert_any w M Mb v nv es x j h hx hM hne hj hlen
    obtain ⟨⟨rfl, rfl⟩ | ⟨g, cap, L, rfl, hMg, hk⟩, hs⟩ := h
    · exact rep_ins w none 0 0 j nv M _ (fun a h => by cases h) hj (Nat.le_refl _) (by omega) hI
    · have hmx := hk.max
      unfold maxLen at hmx
      exact rep_ins w _ es.length cap j nv M _ (fun a h => by injection h with h; rw [← h]) hj hk.le hmx hI
  · obtain ⟨⟨_, hx1⟩ | ⟨vb, c, Lb, rfl, _, hkb⟩, hxs⟩ := hx
    · cases hx1
    have hxv := hxs x (by simp)
    have hX : Lb.take 6 = pcs x.1 x.2 := by have := hkb.take; rw [flatP_one] at this; exact this
    have hX1 := pcs_one (p := x.1) hxv.one
    have hX2 := pcs_nu (p := x.1) hxv.nu
    have hfl := flat_parts es x i (i + 1)
    have hpl := parts_len (es := es) (x := x) (Nat.le_succ i) hj
    obtain ⟨⟨rfl, rfl⟩ | ⟨g, cap, L, rfl, hMg, hk⟩, hs⟩ := h
    · simp at hj
    · have hmx := hk.max
      unfold maxLen at hmx
      have hvg : vb ≠ g := fun e => hne (by rw [e]; rfl)
      have hFl := flatP_len es
      have hle := hk.le
      have h1 : L.take (i * 6) = (flatP es).take (i * 6) := by rw [← hk.take, List.take_take, Nat.min_eq_left (by omega)]
      have hf1 : i * 6 + (pcs x.1 x.2).length ≤ L.length := by rw [hk.len, pcs_len]; omega
      have hl1 := length_splice L (i * 6) (pcs x.1 x.2) hf1
      by_cases hin : i + 1 = es.length
      · have hR := rep_end w g i cap vb c L Lb _ hk.cells hk.len (by omega) hkb.cells hX rfl hX1
        rw [hin] at hR
        have e1 : ((i : Int) + 1) = ((i + 1 : Nat) : Int) := by omega
        rw [e1] at hR
        refine hR.mono ?_
        rintro e w' ⟨he, hr⟩
        refine put_of_row hk (sv_parts hs hxv) es.length (by rw [hpl]; omega) he hr hMg hl1 hle ?_ (nu_splice hk.nu hX2)
        rw [hfl, take_splice_all _ _ _ _ (by rw [pcs_len]; omega) hf1, h1, List.drop_of_length_le (l := flatP es) (by omega), List.append_nil]
      · have hR := rep_mid w g es.length cap i vb c L Lb _ hk.cells hk.len hle (by omega) hmx (by rw [hk.take]; exact flatP_one' hs) hkb.cells hvg hX rfl hX1
        have e1 : ((i : Int) + 1) = ((i + 1 : Nat) : Int) := by omega
        rw [e1] at hR
        refine hR.mono ?_
        rintro e w' ⟨he, hr⟩
        have hC : ((splice L (i * 6) (pcs x.1 x.2)).drop ((i + 1) * 6)).take ((es.length - (i + 1)) * 6) = (flatP es).drop ((i + 1) * 6) := by
          rw [drop_splice _ _ _ _ (by rw [pcs_len]; omega) hf1, mid_drop, hk.take]
        rw [hC] at hr
        have hCl : ((flatP es).drop ((i + 1) * 6)).length = (es.length - (i + 1)) * 6 := by rw [List.length_drop, hFl]; omega
        have hf2 : (i + 1) * 6 + ((flatP es).drop ((i + 1) * 6)).length ≤ (splice L (i * 6) (pcs x.1 x.2)).length := by rw [hCl, hl1, hk.len]; omega
        refine put_of_row hk (sv_parts hs hxv) es.length (by rw [hpl]; omega) he hr hMg ((length_splice _ _ _ hf2).trans hl1) hle ?_ (nu_splice (nu_splice hk.nu hX2) (fun u hu => flatP_nu hs u (List.mem_of_mem_drop hu)))
        rw [hfl, take_splice_all _ _ _ _ (by rw [hCl]; omega) hf2, take_splice_all _ _ _ _ (by rw [pcs_len]; omega) hf1, h1, List.append_assoc]
/-- Replace of one by none. -/
theorem replace_none (w : World) (M : Nat) (v : Value) (es : List (Pr × Value)) (i : Nat) (h : PO w M v es) (hj : i + 1 ≤ es.length) :
    Calls Tryd.prog 46 #[v, .int .i64 i, .int .i64 ((i + 1 : Nat) : Int), .slice none 0 0] w (Put9 w M v (es.take i ++ es.drop (i + 1))) := by
  have e1 : ((i + 1 : Nat) : Int) = ((i : Int) + 1) := by omega
  rw [e1]
  obtain ⟨⟨rfl, rfl⟩ | ⟨g, cap, L, rfl, hMg, hk⟩, hs⟩ := h
  · simp at hj
  have hmx := hk.max
  unfold maxLen at hmx
  have hFl := flatP_len es
  have hle := hk.le
  have hz1 : (Builtin.zeroCells zP 1).toList.length = 6 := zP_len 1
  have h1 : L.take (i * 6) = (flatP es).take (i * 6) := by rw [← hk.take, List.take_take, Nat.min_eq_left (by omega)]
  have hsv : ∀ x ∈ es.take i ++ es.drop (i + 1), SV w x.2 (bys x.1.c.d) := fun x hx => by
    rcases List.mem_append.1 hx with hx | hx
    · exact hs x (List.mem_of_mem_take hx)
    · exact hs x (List.mem_of_mem_drop hx)
  by_cases hin : i + 1 = es.length
  · have hd : es.drop (i + 1) = [] := List.drop_of_length_le (by omega)
    rw [hd, List.append_nil] at hsv ⊢
    have hR := rep_end_none w g i cap L hk.cells hk.len (by omega)
    rw [hin] at hR
    refine hR.mono ?_
    rintro e w' ⟨he, hr⟩
    have hf1 : i * 6 + (Builtin.zeroCells zP 1).toList.length ≤ L.length := by rw [hk.len, hz1]; omega
    refine put_of_row hk hsv i (by simp; omega) he hr hMg (length_splice _ _ _ hf1) (by omega) ?_ (nu_splice hk.nu (fun u hu => (zP_mem 1 u hu).1))
    rw [take_splice _ _ _ _ (Nat.le_refl _) (by omega), h1, flatP_take]
  · obtain ⟨m, hm⟩ : ∃ m, es.length = m + 1 := ⟨es.length - 1, by omega⟩
    have hR := rep_mid_none w g m cap i L hk.cells hk.len (by omega) (by omega) hmx (by rw [← hm, hk.take]; exact flatP_one' hs)
    rw [← hm] at hR
    refine hR.mono ?_
    rintro e w' ⟨he, hr⟩
    have hC : (L.drop ((i + 1) * 6)).take ((m - i) * 6) = (flatP es).drop ((i + 1) * 6) := by
      rw [show m - i = es.length - (i + 1) by omega, mid_drop, hk.take]
    rw [hC] at hr
    have hCl : ((flatP es).drop ((i + 1) * 6)).length = (m - i) * 6 := by rw [List.length_drop, hFl]; omega
    have hf1 : i * 6 + ((flatP es).drop ((i + 1) * 6)).length ≤ L.length := by rw [hCl, hk.len]; omega
    have hl1 := length_splice L (i * 6) ((flatP es).drop ((i + 1) * 6)) hf1
    have hf2 : m * 6 + (Builtin.zeroCells zP 1).toList.length ≤ (splice L (i * 6) ((flatP es).drop ((i + 1) * 6))).length := by rw [hl1, hk.len, hz1]; omega
    refine put_of_row hk hsv m (by simp; omega) he hr hMg ((length_splice _ _ _ hf2).trans hl1) (by omega) ?_ (nu_splice (nu_splice hk.nu (fun u hu => flatP_nu hs u (List.mem_of_mem_drop hu))) (fun u hu => (zP_mem 1 u hu).1))
    rw [take_splice _ _ _ _ (Nat.le_refl _) (by rw [hl1, hk.len]; omega), take_splice_all _ _ _ _ (by rw [hCl]; omega) hf1, h1, flatP_app, flatP_take, flatP_drop]
end Go.Proofs.YtlpgmmcdcjkkiaaDoor
