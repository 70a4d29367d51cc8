/- Contracts of layer 2's Sum, Seal and Good, and of the reference's Seal and Good. -/
import Derived.Test.YtafmggipmaofnaaBePut
import Derived.Test.YtafmggipmaofnaaCrcTab
namespace Go.Proofs.Ytafmggipmaofnaa
set_option maxRecDepth 20000
open Go.RowKit

/-- Bytes with their sum ahead. -/
def sealb (l : List UInt8) : List UInt8 := beb 4 (more 0 l) ++ l
@[simp] theorem sealb_len (l : List UInt8) : (sealb l).length = 4 + l.length := by simp [sealb]

/-- Do bytes agree with the sum ahead of them? -/
def goodB (l : List UInt8) : Bool := decide (4 ≤ l.length) && (((numOf (l.take 4) : Nat) : Int) == ((more 0 (l.drop 4) : Nat) : Int))
theorem numOf_lt (l : List UInt8) : numOf l < 256 ^ l.length := by
  have h : ∀ k (l : List UInt8), l.length = k → numOf l < 256 ^ k := by
    intro k
    induction k with
    | zero => intro l hl; rw [List.eq_nil_of_length_eq_zero hl]; simp [numOf]
    | succ k ih =>
      intro l hl
      obtain ⟨l', b, rfl⟩ : ∃ l' b, l = l' ++ [b] := ⟨l.dropLast, l.getLast (by rintro rfl; simp at hl), (List.dropLast_concat_getLast _).symm⟩
      have h1 := ih l' (by simpa using hl)
      have h2 := u8_nat_lt b
      rw [numOf_snoc, Nat.pow_succ]
      omega
  exact h _ l rfl
theorem num4 (l : List UInt8) (h : 4 ≤ l.length) : ∃ N : Nat, wrap64 (numOf ((l.drop 0).take 4)) = (N : Int) ∧ N = numOf (l.take 4) ∧ N < 4294967296 := by
  have h1 := numOf_lt (l.take 4)
  rw [List.length_take, Nat.min_eq_left h] at h1
  simp only [Nat.reducePow] at h1
  exact ⟨_, by rw [List.drop_zero]; unfold wrap64; omega, rfl, h1⟩

theorem SV.cut4 {w : World} {A : Option Addr} {c : Nat} {l : List UInt8} (h : SV w (.slice A l.length c) (bys l)) (h4 : 4 ≤ l.length) :
    ∃ b off, A = some ⟨b, off, none⟩ ∧ (c = 4 ∧ SV w (.slice (some ⟨b, off, none⟩) 0 0) (bys (l.drop 4)) ∨ c ≠ 4 ∧ SV w (.slice (some ⟨b, off + 4, none⟩) (l.length - 4) (c - 4)) (bys (l.drop 4))) := by
  have hc := h.cut 4 h4
  obtain ⟨A', c', e, h1, h2, h3, h4'⟩ := h
  injection e with e1 _ e3
  subst e1 e3
  obtain ⟨b, off, rfl, _⟩ := h4' (bys_ne (by omega))
  refine ⟨b, off, rfl, ?_⟩
  by_cases hck : c = 4
  · rw [if_pos hck] at hc
    subst hck
    rw [bys_len] at h1
    rw [show l.length - 4 = 0 by omega] at hc
    exact .inl ⟨rfl, hc⟩
  · rw [if_neg hck] at hc
    exact .inr ⟨hck, by simpa [Addr.add_lit] using hc⟩

end Go.Proofs.Ytafmggipmaofnaa
