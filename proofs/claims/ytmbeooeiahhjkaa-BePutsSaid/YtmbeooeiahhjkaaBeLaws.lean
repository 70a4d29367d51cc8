/- Layer 1: the page's example (live), Put of no width, Text; and what the two laws come to. -/
import Derived.Test.YtmbeooeiahhjkaaBePut
namespace Go.Proofs.Ytmbeooeiahhjkaa
open Go.RowKit

theorem put_no (v : Value) (l : List UInt8) (m x : Int) (w : World) (hl : l.length ≤ 1073741824) (hv : SV w v (bys l)) (hm : m < 1 ∨ 8 < m) :
    Calls Try.prog 6 #[v, .int .i64 m, .int .i64 x] w fun e w' => ∃ v, e = .returned v ∧ w'.ownsRow w.heap.size 5 1 v l.length (bys l) ∧ Below w.heap.size w w' := by
  go_enter Try.func6, Try.ntmps6
  go_wp2_with (first
    | (go_at_call 13; refine (fits_no _ _ hm).mono ?_; rintro e w' ⟨rfl, rfl⟩)
    | (go_at_call 14; refine (clone_any _ l _ hl hv).mono ?_; rintro e w1 ⟨v1, rfl, hown, hb⟩))
  go_ret
  exact ⟨_, rfl, hown, hb⟩

theorem text_any (v : Value) (l : List UInt8) (s : ByteArray) (w : World) (hl : l.length ≤ 1073741824) (hv : SV w v (bys l)) (hs : s.size ≤ 65535) :
    Calls Try.prog 9 #[v, .string s] w fun e w' => ∃ v, e = .returned v ∧ w'.ownsRow w.heap.size 5 1 v (l.length + 2 + s.size) (bys (l ++ textb s.data.toList)) ∧ Below w.heap.size w w' := by
  obtain ⟨i0, hi, hz0, hz1, hz2⟩ := info_parts Try.info5
  have hmin : min (s.size : Int) 65535 = (s.size : Int) := by omega
  have hex : s.extract 0 s.size = s := by
    rw [ByteArray.ext_iff, ByteArray.data_extract]
    exact Array.extract_size
  go_enter Try.func9, Try.ntmps9
  go_wp2_with (first
    | (go_at_call 6; refine (put_yes _ l 2 _ _ hl hv (by omega) (by omega)).mono ?_; rintro e w1 ⟨v1, rfl, hown, hb⟩)
    | (at_builtin; refine Lib.wpList_append_own_string _ rfl _ _ 22 9 rfl w.heap.size 5 i0 Try.underlying22 Try.underlying9 hi hz0 hz1 hz2 _ (l.length + 2) _ rfl hown _ rfl (by simp [maxLen]; omega) (by omega) hb.size ?_; intro v2 w2 hown2 hg2 _))
  go_ret
  refine ⟨_, rfl, ?_, hb.grown hg2 hb.size fun k hk => (hown.lt k hk).1⟩
  have e : bys (l ++ textb s.data.toList) = bys (l ++ beb 2 (ub (s.size : Int))) ++ Lib.strCells s := by
    have h1 : ub (s.size : Int) = s.data.toList.length := ub_nat _ (by omega)
    rw [h1]
    simp [textb, bys, Lib.strCells]
  rw [e]
  exact hown2

theorem num_eq (v : Value) (l : List UInt8) (a n : Nat) (N : Int) (w : World) (hl : l.length ≤ 1073741824) (hv : SV w v (bys l)) (h1 : 1 ≤ n) (h2 : n ≤ 8) (h3 : a + n ≤ l.length) (hN : wrap64 (numOf ((l.drop a).take n)) = N) :
    Calls Try.prog 11 #[v, .int .i64 a, .int .i64 n] w fun e w' => e = .returned (.tuple #[.int .i64 N, .bool true]) ∧ w = w' := by
  subst hN
  exact num_yes v l a n w hl hv h1 h2 h3

theorem n258 : wrap64 (numOf ((([9, 1, 2] : List UInt8).drop 1).take 2)) = 258 := by
  have h : numOf ((([9, 1, 2] : List UInt8).drop 1).take 2) = 258 := by decide
  rw [h]
  unfold wrap64
  omega

/-- **live**: the page's example. -/
theorem live_any (w : World) : Calls Try.prog 5 #[] w fun e w' => e = .returned (.bool true) ∧ Below w.heap.size w w' := by
  have hlit := fun (w : World) (a b c : UInt8) => World.ownsRow_lit (base := w.heap.size) (e := 5) (size := 1) w #[.int .u8 a.toNat, .int .u8 b.toNat, .int .u8 c.toNat] 3 (Nat.le_refl _) (by decide) rfl
  have HL := Lib.hid hlit
  clear hlit
  go_enter Try.func5, Try.ntmps5
  go_wp2_with (first
    | (go_at_call 11; refine (num_eq _ [9, 1, 2] 1 2 258 _ (by decide) (SV.own (HL.out w 9 1 2)) (by decide) (by decide) (by decide) n258).mono ?_; rintro e w1 ⟨rfl, rfl⟩)
    | (go_at_call 6; refine (put_yes _ [] 3 258 _ (by decide) (SV.nil _) (by decide) (by decide)).mono ?_; rintro e w1 ⟨v1, rfl, hown, hb⟩)
    | (go_at_call 8; refine (same_any _ _ [0, 1, 2] [0, 1, 2] _ ((SV.own hown).keep (Keeps.alloc _ _)) (SV.own (HL.out _ 0 1 2))).mono ?_; rintro e w2 ⟨rfl, rfl⟩))
  go_ret
  exact ⟨rfl, (((Below.refl _ w).alloc (Nat.le_refl _) _).trans (hb.mono (by simp))).alloc (by have := hb.size; simp at this; omega) _⟩

/-- **BeNums** holds of any bytes. -/
theorem nums_law (v : Value) (l : List UInt8) (a n : Int) (w : World) (hl : l.length ≤ 9223372036854775807) (hv : SV w v (bys l)) (wa : -9223372036854775808 ≤ a ∧ a ≤ 9223372036854775807) :
    Calls Try.prog 4 #[v, .int .i64 a, .int .i64 n] w fun e w' => e = .returned (.bool true) ∧ Below w.heap.size w w' := by
  have hv' := hv
  obtain ⟨A, c, rfl, h1, h2, h3, h4⟩ := hv
  rw [bys_len] at hv' h1 ⊢
  clear h4 h3
  by_cases hlen : (600 : Int) < l.length
  · go_enter Try.func4, Try.ntmps4
    go_wp2_with (go_at_call 5; refine (live_any _).mono ?_; rintro e w1 ⟨rfl, hb⟩)
    go_ret
    exact ⟨rfl, hb⟩
  · have hlen' : (l.length : Int) ≤ 600 := by omega
    by_cases his : isAt l.length a n
    · obtain ⟨p1, p2, p3, p4⟩ := his
      obtain ⟨a', rfl⟩ := Int.eq_ofNat_of_zero_le p3
      obtain ⟨n', rfl⟩ := Int.eq_ofNat_of_zero_le (show 0 ≤ n by omega)
      go_enter Try.func4, Try.ntmps4
      go_wp2_with (first
        | (go_at_call 11; refine (num_yes _ l a' n' _ (by omega) hv' (by omega) (by omega) (by omega)).mono ?_; rintro e w1 ⟨rfl, rfl⟩)
        | (go_at_call 12; refine (at_yes _ l a' n' _ (by omega) hv' (by omega) (by omega) (by omega)).mono ?_; rintro e w1 ⟨rfl, rfl⟩)
        | (go_at_call 5; refine (live_any _).mono ?_; rintro e w1 ⟨rfl, hb⟩))
      go_ret
      exact ⟨rfl, hb⟩
    · go_enter Try.func4, Try.ntmps4
      go_wp2_with (first
        | (go_at_call 11; refine (num_no _ l _ _ _ (by omega) hv' his).mono ?_; rintro e w1 ⟨rfl, rfl⟩)
        | (go_at_call 12; refine (at_no _ l _ _ _ hv' wa his).mono ?_; rintro e w1 ⟨rfl, rfl⟩)
        | (go_at_call 5; refine (live_any _).mono ?_; rintro e w1 ⟨rfl, hb⟩))
      go_ret
      exact ⟨rfl, hb⟩

theorem numOf_app (l m : List UInt8) : numOf (l ++ m) = numOf l * 256 ^ m.length + numOf m := by
  have h : ∀ k (m : List UInt8), m.length = k → numOf (l ++ m) = numOf l * 256 ^ k + numOf m := by
    intro k
    induction k with
    | zero => intro m hm; rw [List.eq_nil_of_length_eq_zero hm]; simp [numOf]
    | succ k ih =>
      intro m hm
      obtain ⟨m', b, rfl⟩ : ∃ m' b, m = m' ++ [b] := ⟨m.dropLast, m.getLast (by rintro rfl; simp at hm), (List.dropLast_concat_getLast _).symm⟩
      rw [← List.append_assoc, numOf_snoc, ih m' (by simpa using hm), numOf_snoc, Nat.pow_succ, Nat.mul_add, ← Nat.mul_assoc, ← Nat.mul_assoc, Nat.mul_comm 256, Nat.mul_assoc _ 256, Nat.mul_comm 256, ← Nat.mul_assoc, Nat.add_assoc]
  exact h _ m rfl
theorem numOf_beb (k U : Nat) : numOf (beb k U) = U % 256 ^ k := by
  induction k with
  | zero => simp [beb, numOf, Nat.mod_one]
  | succ k ih =>
    have h : beb (k + 1) U = [UInt8.ofNat (U / 256 ^ k % 256)] ++ beb k U := rfl
    rw [h, numOf_app, ih, beb_len]
    have h1 : numOf [UInt8.ofNat (U / 256 ^ k % 256)] = U / 256 ^ k % 256 := by simp [numOf]
    rw [h1, Nat.pow_succ, Nat.mod_mul, Nat.mul_comm, Nat.add_comm]

set_option maxHeartbeats 1000000 in
/-- Where the width is none, the bytes stay as they are. -/
theorem puts_out (v : Value) (l : List UInt8) (m x : Int) (s : ByteArray) (w : World) (hl : l.length ≤ 300) (hv : SV w v (bys l)) (hm : m < 1 ∨ 8 < m) (hs : s.size ≤ 300) :
    Calls Try.prog 3 #[v, .int .i64 m, .int .i64 x, .string s] w fun e w' => e = .returned (.bool true) ∧ Below w.heap.size w w' := by
  obtain ⟨i0, hi, hz0, hz1, hz2⟩ := info_parts Try.info5
  have hv' := hv
  obtain ⟨A, c, rfl, h1, h2, h3, h4⟩ := hv
  rw [bys_len] at hv' h1 ⊢
  unfold maxLen at h2
  clear h4 h3
  have q1 : decide ((300 : Int) < l.length) = false := by simp; omega
  have q2 : decide ((300 : Int) < s.size) = false := by simp; omega
  have HT := Lib.hid (show bys (l ++ textb s.data.toList) = bys ([] ++ l) ++ bys (textb s.data.toList) by simp [bys])
  have hcase : (m < 1 ∧ decide (1 ≤ m) = false) ∨ (decide (m < 1) = false ∧ 1 ≤ m ∧ decide (m ≤ 8) = false ∧ 8 < m) := by
    rcases hm with hm | hm
    · exact .inl ⟨hm, by simp; omega⟩
    · exact .inr ⟨by simp; omega, by omega, by simp; omega, hm⟩
  rcases hcase with ⟨e1, e2⟩ | ⟨e1, e2, e3, e4⟩
  all_goals
    go_enter Try.func3, Try.ntmps3
    go_wp2_with (first
      | (go_at_call 8; have sv3 : SV w6 v3 (bys (l ++ textb s.data.toList)) := (SV.own own3).keep (Keeps.below ((b4.trans (b5.mono b4.size)).trans b6)); have sv6 : SV w6 v6 (bys (l ++ textb s.data.toList)) := (by have := SV.own own6; rwa [List.nil_append, ← bys_app] at this); refine (same_any v3 v6 (l ++ textb s.data.toList) (l ++ textb s.data.toList) _ sv3 sv6).mono ?_; rintro e w7 ⟨rfl, rfl⟩)
      | (at_builtin; refine wpList_app _ rfl (.tmp 51) (.tmp 53) 22 rfl w3.heap.size 5 i0 (.int .u8 0) 1 Try.underlying22 hi hz0 hz1 hz2 rfl v4 ([] ++ bys l) rfl ((happ4.own (.inr (World.ownsRow_lit w3 #[] 0 (Nat.le_refl _) (by decide) rfl))) |> fun h => .inl (ownsRow_later h b5)) _ (bys (textb s.data.toList)) rfl (SV.own own5) (bys_one _) (by simp [maxLen, textb]; omega) (by simp [textb]; omega) (Nat.le_trans b4.size b5.size) ?_; intro v6 w6 happ6; have own6 := happ6.own (.inr (ownsRow_later (happ4.own (.inr (World.ownsRow_lit w3 #[] 0 (Nat.le_refl _) (by decide) rfl))) b5)); have b6 : Below w3.heap.size w5 w6 := happ6.below (Nat.le_trans b4.size b5.size))
      | (go_at_call 10; refine (refText s _ (by omega)).mono ?_; rintro e w5 ⟨v5, rfl, own5, b5⟩)
      | (at_builtin; refine wpList_app _ rfl (.tmp 49) (.tmp 50) 22 rfl w3.heap.size 5 i0 (.int .u8 0) 1 Try.underlying22 hi hz0 hz1 hz2 rfl _ [] rfl (.inl (World.ownsRow_lit w3 #[] 0 (Nat.le_refl _) (by decide) rfl)) _ (bys l) rfl (hv'.keep (Keeps.below (b03.alloc b03.size _))) (bys_one _) (by simp [maxLen]; omega) (by simp; omega) (by simp) ?_; intro v4 w4 happ4; have b4 : Below w3.heap.size w3 w4 := ((Below.refl _ w3).alloc (Nat.le_refl _) _).trans (happ4.below (by simp)))
      | (go_at_call 9; refine (text_any _ l s _ (by omega) (hv'.keep (Keeps.below (b1.trans (b2.mono b1.size)))) (by omega)).mono ?_; rintro e w3 ⟨v3, rfl, own3, b3⟩; have b03 : Below w.heap.size w w3 := (b1.trans (b2.mono b1.size)).trans (b3.mono (Nat.le_trans b1.size b2.size)))
      | (go_at_call 5; refine (live_any _).mono ?_; rintro e w8 ⟨rfl, b8⟩)
      | (go_at_call 6; refine (put_no _ l _ _ _ (by omega) hv' hm).mono ?_; rintro e w1 ⟨v1, rfl, own1, b1⟩)
      | (at_builtin; refine wpList_app _ rfl (.tmp 27) (.tmp 28) 22 rfl w1.heap.size 5 i0 (.int .u8 0) 1 Try.underlying22 hi hz0 hz1 hz2 rfl _ [] rfl (.inl (World.ownsRow_lit w1 #[] 0 (Nat.le_refl _) (by decide) rfl)) _ (bys l) rfl (hv'.keep (Keeps.below (b1.alloc b1.size _))) (bys_one _) (by simp [maxLen]; omega) (by simp; omega) (by simp) ?_; intro v2 w2 happ2; have b2 : Below w1.heap.size w1 w2 := ((Below.refl _ w1).alloc (Nat.le_refl _) _).trans (happ2.below (by simp)))
      | (go_at_call 8; have tok : True := trivial; refine (same_any v1 v2 l l _ ((SV.own own1).keep (Keeps.below b2)) (SV.own (happ2.own (.inr (World.ownsRow_lit w1 #[] 0 (Nat.le_refl _) (by decide) rfl))))).mono ?_; rintro e w3 ⟨rfl, rfl⟩)
      )
    go_ret
    exact ⟨rfl, (b03.trans (((b4.trans (b5.mono b4.size)).trans b6).mono b03.size)).trans (b8.mono (Nat.le_trans b03.size (Nat.le_trans b4.size (Nat.le_trans b5.size b6.size))))⟩

set_option maxRecDepth 100000 in
set_option maxHeartbeats 2000000 in
/-- Where the width may be: the number's bytes are behind them, and are read again. -/
theorem puts_mid (v : Value) (l : List UInt8) (m : Nat) (x : Int) (s : ByteArray) (w : World) (hl : l.length ≤ 300) (hv : SV w v (bys l)) (m1 : 1 ≤ m) (m8 : m ≤ 8) (hs : s.size ≤ 300) (hx : -9223372036854775808 ≤ x ∧ x ≤ 9223372036854775807) :
    Calls Try.prog 3 #[v, .int .i64 m, .int .i64 x, .string s] w fun e w' => e = .returned (.bool true) ∧ Below w.heap.size w w' := by
  obtain ⟨i0, hi, hz0, hz1, hz2⟩ := info_parts Try.info5
  have hv' := hv
  obtain ⟨A, c, rfl, h1, h2, h3, h4⟩ := hv
  rw [bys_len] at hv' h1 ⊢
  unfold maxLen at h2
  clear h4 h3
  have q1 : decide ((300 : Int) < l.length) = false := by simp; omega
  have q2 : decide ((300 : Int) < s.size) = false := by simp; omega
  have hd : ((l ++ beb m (ub x)).drop l.length).take m = beb m (ub x) := by rw [List.drop_left]; exact List.take_of_length_le (by simp)
  have hnum : numOf (((l ++ beb m (ub x)).drop l.length).take m) = ub x % 256 ^ m := by rw [hd, numOf_beb]
  have hcase : ∃ N, wrap64 (numOf (((l ++ beb m (ub x)).drop l.length).take m)) = N ∧
      ((((m : Int) == 8) = true ∧ (N == x) = true) ∨
       (((m : Int) == 8) = false ∧ decide (0 ≤ x) = false) ∨
       (((m : Int) == 8) = false ∧ 0 ≤ x ∧ (x / 2 ^ (8 * m) == 0) = true ∧ (N == x) = true) ∨
       (((m : Int) == 8) = false ∧ 0 ≤ x ∧ (x / 2 ^ (8 * m) == 0) = false)) := by
    refine ⟨_, rfl, ?_⟩
    rw [hnum]
    by_cases e8 : m = 8
    · subst e8
      refine .inl ⟨rfl, ?_⟩
      have h := ub_cast x
      have : ub x % 256 ^ 8 = ub x := Nat.mod_eq_of_lt (ub_lt x)
      rw [this]
      simp only [beq_iff_eq]
      unfold wrap64
      omega
    · have e8' : ((m : Int) == 8) = false := by simp; omega
      by_cases hx0 : 0 ≤ x
      · by_cases hsh : x / 2 ^ (8 * m) = 0
        · refine .inr (.inr (.inl ⟨e8', hx0, by simp [hsh], ?_⟩))
          have h := ub_cast x
          have hux : ((ub x : Nat) : Int) = x := by omega
          have hpow : (2 : Int) ^ (8 * m) = ((256 ^ m : Nat) : Int) := by rw [Int.pow_mul]; simp
          have hlt : ub x < 256 ^ m := by
            rw [hpow, ← hux, ← Int.natCast_ediv] at hsh
            have h0 : ub x / 256 ^ m = 0 := by exact_mod_cast hsh
            exact (Nat.div_eq_zero_iff_lt (Nat.pow_pos (by decide))).1 h0
          rw [Nat.mod_eq_of_lt hlt, hux]
          simp only [beq_iff_eq]
          unfold wrap64
          omega
        · exact .inr (.inr (.inr ⟨e8', hx0, by simp [hsh]⟩))
      · exact .inr (.inl ⟨e8', by simp; omega⟩)
  clear hd hnum
  obtain ⟨N, hN, hcase⟩ := hcase
  have HN := Lib.hid hN
  clear hN
  rcases hcase with ⟨e1, e2⟩ | ⟨e1, e2⟩ | ⟨e1, e2, e3, e4⟩ | ⟨e1, e2, e3⟩
  all_goals
    go_enter Try.func3, Try.ntmps3
    go_wp2_with (first
      | (go_at_call 5; refine (live_any _).mono ?_; rintro e w8 ⟨rfl, b8⟩)
      | (go_at_call 11; have sv7 : SV w6 v1 (bys (l ++ beb m (ub x))) := (SV.own own1).keep (Keeps.below ((b2.trans (b03.mono b2.size)).trans ((((b4.trans (b5.mono b4.size)).trans b6)).mono (Nat.le_trans b2.size b03.size)))); refine (num_eq _ _ l.length m N _ (by simp; omega) sv7 m1 m8 (by simp) HN.out).mono ?_; rintro e w7 ⟨rfl, rfl⟩)
      | (go_at_call 8; have sv3 : SV w6 v3 (bys (l ++ textb s.data.toList)) := (SV.own own3).keep (Keeps.below ((b4.trans (b5.mono b4.size)).trans b6)); have sv6 : SV w6 v6 (bys (l ++ textb s.data.toList)) := (by have := SV.own own6; rwa [List.nil_append, ← bys_app] at this); refine (same_any v3 v6 (l ++ textb s.data.toList) (l ++ textb s.data.toList) _ sv3 sv6).mono ?_; rintro e w7 ⟨rfl, rfl⟩)
      | (at_builtin; refine wpList_app _ rfl (.tmp 51) (.tmp 53) 22 rfl w3.heap.size 5 i0 (.int .u8 0) 1 Try.underlying22 hi hz0 hz1 hz2 rfl v4 ([] ++ bys l) rfl (.inl own4) _ (bys (textb s.data.toList)) rfl (SV.own own5) (bys_one _) (by simp [maxLen, textb]; omega) (by simp [textb]; omega) (Nat.le_trans b4.size b5.size) ?_; intro v6 w6 happ6; have own6 := happ6.own (.inr own4); have b6 : Below w3.heap.size w5 w6 := happ6.below (Nat.le_trans b4.size b5.size))
      | (go_at_call 10; refine (refText s _ (by omega)).mono ?_; rintro e w5 ⟨v5, rfl, own5, b5⟩; have own4 := ownsRow_later own4a b5)
      | (at_builtin; refine wpList_app _ rfl (.tmp 49) (.tmp 50) 22 rfl w3.heap.size 5 i0 (.int .u8 0) 1 Try.underlying22 hi hz0 hz1 hz2 rfl _ [] rfl (.inl (World.ownsRow_lit w3 #[] 0 (Nat.le_refl _) (by decide) rfl)) _ (bys l) rfl (hv'.keep (Keeps.below (bw3.alloc bw3.size _))) (bys_one _) (by simp [maxLen]; omega) (by simp; omega) (by simp) ?_; intro v4 w4 happ4; have own4a := happ4.own (.inr (World.ownsRow_lit w3 #[] 0 (Nat.le_refl _) (by decide) rfl)); have b4 : Below w3.heap.size w3 w4 := ((Below.refl _ w3).alloc (Nat.le_refl _) _).trans (happ4.below (by simp)))
      | (go_at_call 9; refine (text_any _ l s _ (by omega) (hv'.keep (Keeps.below bw2)) (by omega)).mono ?_; rintro e w3 ⟨v3, rfl, own3, b03⟩; have bw3 : Below w.heap.size w w3 := bw2.trans (b03.mono bw2.size))
      | (go_at_call 8; have sv1 : SV w2 v1 (bys (l ++ beb m (ub x))) := (SV.own own1).keep (Keeps.below b2); have sv2 : SV w2 v2 (bys (l ++ beb m (ub x))) := (by have := SV.own own2; rwa [List.nil_append, ← bys_app] at this); refine (same_any v1 v2 _ _ _ sv1 sv2).mono ?_; rintro e w7 ⟨rfl, rfl⟩)
      | (at_builtin; refine wpList_app _ rfl (.tmp 36) (.tmp 39) 22 rfl w1.heap.size 5 i0 (.int .u8 0) 1 Try.underlying22 hi hz0 hz1 hz2 rfl va ([] ++ bys l) rfl (.inl owna) _ (bys (beb m (ub x))) rfl (SV.own ownb) (bys_one _) (by simp [maxLen]; omega) (by simp; omega) (Nat.le_trans ba.size bb.size) ?_; intro v2 w2 happ2; have own2 := happ2.own (.inr owna); have b2 : Below w1.heap.size w1 w2 := (ba.trans (bb.mono ba.size)).trans (happ2.below (Nat.le_trans ba.size bb.size)); have bw2 : Below w.heap.size w w2 := b1.trans (b2.mono b1.size))
      | (go_at_call 7; refine (refBytes m x _ m8).mono ?_; rintro e wb ⟨vb, rfl, ownb, bb⟩; have owna := ownsRow_later ownaa bb)
      | (at_builtin; refine wpList_app _ rfl (.tmp 27) (.tmp 28) 22 rfl w1.heap.size 5 i0 (.int .u8 0) 1 Try.underlying22 hi hz0 hz1 hz2 rfl _ [] rfl (.inl (World.ownsRow_lit w1 #[] 0 (Nat.le_refl _) (by decide) rfl)) _ (bys l) rfl (hv'.keep (Keeps.below (b1.alloc b1.size _))) (bys_one _) (by simp [maxLen]; omega) (by simp; omega) (by simp) ?_; intro va wa happa; have ownaa := happa.own (.inr (World.ownsRow_lit w1 #[] 0 (Nat.le_refl _) (by decide) rfl)); have ba : Below w1.heap.size w1 wa := ((Below.refl _ w1).alloc (Nat.le_refl _) _).trans (happa.below (by simp)))
      | (go_at_call 6; refine (put_yes _ l m x _ (by omega) hv' m1 m8).mono ?_; rintro e w1 ⟨v1, rfl, own1, b1⟩))
    go_ret
    exact ⟨rfl, (bw3.trans (((b4.trans (b5.mono b4.size)).trans b6).mono bw3.size)).trans (b8.mono (Nat.le_trans bw3.size (Nat.le_trans b4.size (Nat.le_trans b5.size b6.size))))⟩

/-- **BePuts** holds of any bytes, any width, any number, any text. -/
theorem puts_law (v : Value) (l : List UInt8) (m x : Int) (s : ByteArray) (w : World) (hl : l.length ≤ 9223372036854775807) (hv : SV w v (bys l)) (hx : -9223372036854775808 ≤ x ∧ x ≤ 9223372036854775807) (ws : s.size ≤ maxLen) :
    Calls Try.prog 3 #[v, .int .i64 m, .int .i64 x, .string s] w fun e w' => e = .returned (.bool true) ∧ Below w.heap.size w w' := by
  unfold maxLen at ws
  by_cases hlen : (300 : Int) < l.length
  · obtain ⟨A, c, rfl, h1, h2, h3, h4⟩ := hv
    rw [bys_len]
    clear h4 h3
    go_enter Try.func3, Try.ntmps3
    go_wp2_with (go_at_call 5; refine (live_any _).mono ?_; rintro e w1 ⟨rfl, hb⟩)
    go_ret
    exact ⟨rfl, hb⟩
  · by_cases hsz : (300 : Int) < s.size
    · obtain ⟨A, c, rfl, h1, h2, h3, h4⟩ := hv
      rw [bys_len]
      clear h4 h3
      go_enter Try.func3, Try.ntmps3
      go_wp2_with (go_at_call 5; refine (live_any _).mono ?_; rintro e w1 ⟨rfl, hb⟩)
      go_ret
      exact ⟨rfl, hb⟩
    · by_cases hm : m < 1 ∨ 8 < m
      · exact puts_out v l m x s w (by omega) hv hm (by omega)
      · obtain ⟨n, rfl⟩ := Int.eq_ofNat_of_zero_le (show 0 ≤ m by omega)
        exact puts_mid v l n x s w (by omega) hv (by omega) (by omega) (by omega) hx
end Go.Proofs.Ytmbeooeiahhjkaa
