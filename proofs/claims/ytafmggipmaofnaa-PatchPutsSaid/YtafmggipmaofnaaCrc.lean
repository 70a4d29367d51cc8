/- Contracts of layer 2's functions that only compute: a bit's step (the reference's), eight shifts (the code's), the reference's More. -/
import Derived.Test.YtafmggipmaofnaaBase
import Derived.Test.YtafmggipmaofnaaCrcMath
import Derived.Test.YtafmggipmaofnaaChecked
namespace Go.Proofs.Ytafmggipmaofnaa
set_option maxRecDepth 20000
open Go.RowKit

theorem bit1_cast (v : Nat) (h : v < 4294967296) : ((v : Int) % 2 = 1 → bits .xor .u32 ((v : Int) / 2) 2197175160 = (bit1 v : Int)) ∧ (¬ (v : Int) % 2 = 1 → (v : Int) / 2 = (bit1 v : Int)) := by
  have h2 : (v : Int) / 2 = ((v / 2 : Nat) : Int) := rfl
  rw [h2]
  unfold bit1
  constructor
  · intro h1
    rw [if_pos (by omega)]
    exact u32_xor_nat (v / 2) 2197175160 (by omega) (by decide)
  · intro h1
    rw [if_neg (by omega)]

theorem and1_u32 (v : Nat) (h : v < 4294967296) : bits .and .u32 (v : Int) 1 = (v : Int) % 2 := by
  have := u32_and_nat v 1 h (by decide)
  rw [Nat.and_one_is_mod] at this
  exact this

end Go.Proofs.Ytafmggipmaofnaa
