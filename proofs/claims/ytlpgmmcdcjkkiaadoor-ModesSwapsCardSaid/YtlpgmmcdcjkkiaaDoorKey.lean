/- Layer 4: contracts of the program's and the reference's functions that only compute: hashes, which text is a key, buckets. -/
import Derived.Test.YtlpgmmcdcjkkiaaDoorBase
import Derived.Test.YtlpgmmcdcjkkiaaDoorKeyMath
import Derived.Test.YtlpgmmcdcjkkiaaDoorChecked
import Derived.Laws.RangeAny
import Derived.IntWalk
namespace Go.Proofs.YtlpgmmcdcjkkiaaDoor
set_option maxRecDepth 20000
open Go.RowKit

theorem take_next (s : ByteArray) (k : Nat) (h : k < s.size) : s.data.toList.take (k + 1) = s.data.toList.take k ++ [s[k]] := by
  rw [List.take_succ_eq_append_getElem (by simpa using h)]; rfl
theorem str_get (s : ByteArray) (k : Nat) (h : k < s.size) : s.data.toList[k]? = some s[k] := by
  rw [List.getElem?_eq_getElem (by simpa using h)]; rfl
theorem fold_next (h : Nat) (s : ByteArray) (k : Nat) (hk : k < s.size) : (s.data.toList.take (k + 1)).foldl hstep h = hstep ((s.data.toList.take k).foldl hstep h) s[k] := by
  rw [take_next s k hk, fold_snoc]
theorem byte_lt (x : UInt8) : x.toNat < 256 := x.toNat_lt
theorem xor_lt (h : Nat) (x : UInt8) (hh : h < 4294967296) : h ^^^ x.toNat < 4294967296 := Nat.xor_lt_two_pow (n := 32) (by omega) (by have := byte_lt x; simp only [Nat.reducePow]; omega)
theorem step32 (y : Nat) (x : UInt8) (hy : y < 4294967296) : bits .xor .u32 (y : Int) ((x.toNat : Int) % 4294967296) * 16777619 % 4294967296 = (hstep y x : Nat) := by
  have hx := byte_lt x
  have e : (x.toNat : Int) % 4294967296 = (x.toNat : Nat) := by omega
  rw [e, u32_xor_nat y x.toNat hy (by omega)]
  unfold hstep
  omega
theorem step64 (y : Nat) (x : UInt8) (hy : y < 4294967296) : (IntKind.u64.wrap (bits .xor .u64 (y : Int) (IntKind.u64.wrap (x.toNat : Int)) * 16777619)).tmod 4294967296 = (hstep y x : Nat) := by
  have hx := byte_lt x
  have hl := xor_lt y x hy
  have e : IntKind.u64.wrap (x.toNat : Int) = (x.toNat : Nat) := by rw [IntKind.wrap_u64]; omega
  rw [e, u64_xor_nat y x.toNat (by omega) (by omega), IntKind.wrap_u64, Int.tmod_eq_emod_of_nonneg (by omega)]
  unfold hstep
  omega
theorem take_all (s : ByteArray) : s.data.toList.take s.size = s.data.toList := List.take_of_length_le (by simp)

theorem kfits_yes (r : Int) (w : World) (h1 : 33 ≤ r) (h2 : r ≤ 126) : Calls Tryd.prog 82 #[.int .i32 r] w fun e w' => e = .returned (.bool true) ∧ w = w' := by
  go_enter Tryd.func82, Tryd.ntmps82
  go_wp2
  go_ret
  exact ⟨rfl, rfl⟩
theorem kfits_no (r : Int) (w : World) (h : r < 33 ∨ 126 < r) : Calls Tryd.prog 82 #[.int .i32 r] w fun e w' => e = .returned (.bool false) ∧ w = w' := by
  rcases h with h | h
  · have q : decide ((33 : Int) ≤ r) = false := by simp; omega
    go_enter Tryd.func82, Tryd.ntmps82
    go_wp2
    go_ret
    exact ⟨rfl, rfl⟩
  · have q : decide ((33 : Int) ≤ r) = true := by simp; omega
    have q2 : decide (r ≤ (126 : Int)) = false := by simp; omega
    go_enter Tryd.func82, Tryd.ntmps82
    go_wp2
    go_ret
    exact ⟨rfl, rfl⟩

/-- What Check tells. -/
def ckI (l : List UInt8) : Int := if isKey l then 0 else 1
theorem ckI_yes {l : List UInt8} (h : isKey l = true) : ckI l = 0 := by simp [ckI, h]
theorem ckI_no {l : List UInt8} (h : isKey l = false) : ckI l = 1 := by simp [ckI, h]
theorem key_short {s : ByteArray} (h : s.size < 1) : isKey s.data.toList = false := by
  simp [isKey]; omega
theorem key_long {s : ByteArray} (h : 16 < s.size) : isKey s.data.toList = false := by
  simp [isKey]; omega
theorem key_bad {s : ByteArray} {k : Nat} (h : k < s.size) (hf : fitB s[k] = false) : allFit s.data.toList = false := allFit_no (str_get s k h) hf
theorem key_good {s : ByteArray} (h : ∀ j (hj : j < s.size), fitB s[j] = true) : allFit s.data.toList = true :=
  allFit_yes fun j x hx => by
    have hj : j < s.size := by have := (List.getElem?_eq_some_iff.1 hx).1; simpa using this
    rw [str_get s j hj] at hx
    injection hx with hx
    exact hx ▸ h j hj
theorem key_of (s : ByteArray) (h1 : 1 ≤ s.size) (h2 : s.size ≤ 16) : isKey s.data.toList = allFit s.data.toList := by
  have a : 0 < s.size := by omega
  simp [isKey, a, h2]
theorem kfit_yes {x : UInt8} (h : fitB x = true) : 33 ≤ (x.toNat : Int) ∧ (x.toNat : Int) ≤ 126 := by
  simp only [fitB, Bool.and_eq_true, decide_eq_true_eq] at h; omega
theorem kfit_no {x : UInt8} (h : fitB x = false) : (x.toNat : Int) < 33 ∨ 126 < (x.toNat : Int) := by
  simp only [fitB, Bool.and_eq_false_iff, decide_eq_false_iff_not] at h; omega

theorem check_any (s : ByteArray) (w : World) (hs : s.size ≤ 9223372036854775807) :
    Calls Tryd.prog 55 #[.string s] w fun e w' => e = .returned (.int .i64 (ckI s.data.toList)) ∧ Below w.heap.size w w' := by
  by_cases h1 : s.size < 1
  · have E := Lib.hid (ckI_no (key_short h1))
    go_enter Tryd.func55, Tryd.ntmps55
    go_wp2
    go_ret
    exact ⟨ret_int E.out.symm, Below.refl _ _⟩
  · by_cases h2 : 16 < s.size
    · have E := Lib.hid (ckI_no (key_long h2))
      go_enter Tryd.func55, Tryd.ntmps55
      go_wp2
      go_ret
      exact ⟨ret_int E.out.symm, Below.refl _ _⟩
    · have E := Lib.hid (key_of s (by omega) (by omega))
      have q1 : decide ((s.size : Int) < 1) = false := by simp; omega
      have q2 : decide ((16 : Int) < s.size) = false := by simp; omega
      go_enter Tryd.func55, Tryd.ntmps55
      go_wp2
      go_loopw [4] (fun _ w' => ∃ pos : Nat, w' = w.iter s pos ∧ pos ≤ s.size ∧ ∀ j (hj : j < s.size), j < pos → fitB s[j] = true) (fun _ w' => s.size - w'.iterPos w.heap.size)
      case atStart => exact ⟨0, rfl, by omega, fun j _ h => by omega⟩
      case round =>
        obtain ⟨pos, rfl, hp, hall⟩ := hrel
        have HA := Lib.hid hall
        clear hall
        by_cases hlt : pos < s.size
        · by_cases hf : fitB s[pos] = true
          · obtain ⟨f1, f2⟩ := kfit_yes hf
            have HF := Lib.hid hf
            clear hf
            have hnx := fun ty => run_next_ascii (P := Tryd.prog) w s pos ty hlt (by omega)
            go_wp2_with (go_at_call 82; refine (kfits_yes _ _ f1 f2).mono ?_; rintro e w' ⟨rfl, rfl⟩)
            go_roundw
            case rel =>
              refine ⟨pos + 1, rfl, by omega, fun j hj h => ?_⟩
              rcases Nat.lt_or_ge j pos with h' | h'
              · exact HA.out j hj h'
              · obtain rfl : j = pos := by omega
                exact HF.out
            case measure => simp <;> omega
          · have hf' : fitB s[pos] = false := by simpa using hf
            have f := kfit_no hf'
            have E2 := Lib.hid (ckI_no (E.out.trans (key_bad hlt hf')))
            clear hf hf'
            by_cases ha : s[pos].toNat < 128
            · have hnx := fun ty => run_next_ascii (P := Tryd.prog) w s pos ty hlt ha
              go_wp2_with (go_at_call 82; refine (kfits_no _ _ f).mono ?_; rintro e w' ⟨rfl, rfl⟩)
              go_ret
              exact ⟨ret_int E2.out.symm, (Below.refl _ _).alloc (Nat.le_refl _) _⟩
            · have hd := (decode_high s pos hlt (by omega)).1
              have hnx := fun ty => run_next_any (P := Tryd.prog) w s pos ty hlt
              clear f ha
              generalize Utf8.decode s pos = d at *
              go_wp2_with (go_at_call 82; refine (kfits_no _ _ (.inr (by omega))).mono ?_; rintro e w' ⟨rfl, rfl⟩)
              go_ret
              exact ⟨ret_int E2.out.symm, (Below.refl _ _).alloc (Nat.le_refl _) _⟩
        · obtain rfl : pos = s.size := by omega
          have E2 := Lib.hid (ckI_yes (E.out.trans (key_good fun j hj => HA.out j hj hj)))
          have hnx := fun ty => run_next_end (P := Tryd.prog) w s s.size ty hlt
          go_wp2
          go_ret
          exact ⟨ret_int E2.out.symm, (Below.refl _ _).alloc (Nat.le_refl _) _⟩

theorem right_any (s : ByteArray) (w : World) (hs : s.size ≤ 9223372036854775807) :
    Calls Tryd.prog 25 #[.string s] w fun e w' => e = .returned (.bool (isKey s.data.toList)) ∧ w = w' := by
  go_enter Tryd.func25, Tryd.ntmps25
  go_wp2
  go_loop [3] (fun i => ∃ k : Nat, k ≤ s.size ∧ i = .int .i64 k ∧ ∀ j (hj : j < s.size), j < k → fitB s[j] = true) (fun i => s.size - (intOf i).toNat)
  case atStart => exact ⟨0, by omega, rfl, fun j _ h => by omega⟩
  case round =>
    obtain ⟨k, hk, rfl, hall⟩ := hrel
    have HA := Lib.hid hall
    clear hall
    by_cases hlt : k < s.size
    · by_cases hf : fitB s[k] = true
      · obtain ⟨f1, f2⟩ := kfit_yes hf
        have HF := Lib.hid hf
        clear hf
        have q1 : decide ((s[k].toNat : Int) < 33) = false := by simp; omega
        have q2 : decide ((126 : Int) < s[k].toNat) = false := by simp; omega
        go_wp2
        go_round
        case rel =>
          refine ⟨k + 1, by omega, by go_num, fun j hj h => ?_⟩
          rcases Nat.lt_or_ge j k with h' | h'
          · exact HA.out j hj h'
          · obtain rfl : j = k := by omega
            exact HF.out
        case measure => simp [intOf]; omega
      · have hf' : fitB s[k] = false := by simpa using hf
        have E2 : Hid (isKey s.data.toList = false) := Lib.hid (by simp [isKey, key_bad hlt hf'])
        have f := kfit_no hf'
        clear hf hf'
        by_cases f1 : (s[k].toNat : Int) < 33
        · go_wp2
          go_ret
          exact ⟨ret_bool E2.out.symm, rfl⟩
        · have f2 : (126 : Int) < s[k].toNat := by omega
          have q1 : decide ((s[k].toNat : Int) < 33) = false := by simpa using f1
          have q2 : decide ((126 : Int) < s[k].toNat) = true := by simpa using f2
          go_wp2
          go_ret
          exact ⟨ret_bool E2.out.symm, rfl⟩
    · obtain rfl : k = s.size := by omega
      have E := Lib.hid (key_good fun j hj => HA.out j hj hj)
      by_cases h1 : s.size < 1
      · have E2 := Lib.hid (key_short h1)
        have q1 : decide ((0 : Int) < s.size) = false := decide_eq_false (by omega)
        go_wp2
        go_ret
        exact ⟨ret_bool E2.out.symm, rfl⟩
      · by_cases h2 : 16 < s.size
        · have E2 := Lib.hid (key_long h2)
          have q1 : (0 : Int) < s.size := by omega
          have q2 : ¬ (s.size : Int) ≤ 16 := by omega
          go_wp2
          go_ret
          exact ⟨ret_bool E2.out.symm, rfl⟩
        · have E2 := Lib.hid ((key_of s (by omega) (by omega)).trans E.out)
          have q1 : (0 : Int) < s.size := by omega
          have q2 : (s.size : Int) ≤ 16 := by omega
          go_wp2
          go_ret
          exact ⟨ret_bool E2.out.symm, rfl⟩

/-- A text's bucket. -/
def bkI (l : List UInt8) (n : Int) : Int := if n < 1 then 0 else (hashN l : Int) % n
theorem bkI_no {l : List UInt8} {n : Int} (h : n < 1) : bkI l n = 0 := by simp [bkI, h]
theorem bkI_yes {l : List UInt8} {n : Int} (h : ¬ n < 1) : bkI l n = (hashN l : Int) % n := by simp [bkI, h]

end Go.Proofs.YtlpgmmcdcjkkiaaDoor
