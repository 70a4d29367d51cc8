/- Layer 5: the contract of the program's Get. -/
import Derived.Test.YtafmggipmaofnaaCellMath
import Derived.Test.YtafmggipmaofnaaCell
import Derived.Test.YtafmggipmaofnaaBeRead
import Derived.Test.YtafmggipmaofnaaChecked
namespace Go.Proofs.Ytafmggipmaofnaa
set_option maxRecDepth 20000
open Go.RowKit Go.Sort

/-- What is read of bytes: the cell, and the reader's state behind it. -/
def readC (l : List UInt8) : Cl × (List UInt8 × Bool) :=
  let s1 := rdS (l, false) 1
  let k := rdI (l, false) 1
  if k = 1 then (⟨1, rdB (rdS s1 1) (rdI s1 1).toNat, 0, 0, 0⟩, rdS (rdS s1 1) (rdI s1 1).toNat)
  else if k = 2 then (⟨2, [], rdI s1 8, rdI (rdS s1 8) 8, rdI (rdS (rdS s1 8) 8) 8⟩, rdS (rdS (rdS s1 8) 8) 8)
  else (⟨k, [], 0, 0, 0⟩, s1)
/-- What Get tells. -/
def getC (l : List UInt8) : Cl × Int × Int :=
  let r := readC (l.take 257)
  if r.2.2 then (zeroC, 0, 13) else if good r.1 then (r.1, ((l.take 257).length : Int) - r.2.1.length, 0) else (zeroC, 0, 12)
def GetP (l : List UInt8) (w : World) (e : Ending) (w' : World) : Prop := ∃ D, e = .returned (.tuple #[cv D (getC l).1, .int .i64 (getC l).2.1, .int .i64 (getC l).2.2]) ∧ SV w' D (bys (getC l).1.d) ∧ Below w.heap.size w w'

namespace GetSt
variable {w x y : World} {g g7 : Nat} {s s' : List UInt8 × Bool} {cs : Array Value}
end GetSt

theorem rdS_len (s : List UInt8 × Bool) (n : Nat) (h : s.1.length ≤ 1073741824) : (rdS s n).1.length ≤ 1073741824 := by
  unfold rdS
  split
  · simp; omega
  · simp

theorem rdI_one (s : List UInt8 × Bool) : 0 ≤ rdI s 1 ∧ rdI s 1 ≤ 255 := by
  unfold rdI
  split
  · rename_i h
    have hn : 1 ≤ s.1.length := by simp [rdHas] at h; exact h.2
    match hs : s.1, hn with
    | x :: r, _ =>
      have := u8_lt x
      simp [numOf, wrap64]
      omega
  · simp

end Go.Proofs.Ytafmggipmaofnaa
