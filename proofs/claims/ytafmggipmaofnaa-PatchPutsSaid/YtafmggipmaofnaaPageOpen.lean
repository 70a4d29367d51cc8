/- How an argument that is a page's bytes reads. -/
import Derived.Test.YtafmggipmaofnaaOpen
import Derived.Test.YtafmggipmaofnaaPageMath
import Derived.Test.YtafmggipmaofnaaArr
namespace Go.Proofs.Ytafmggipmaofnaa
set_option maxRecDepth 20000
open Go.RowKit Go.ChangeShapes Go.WideShapes

theorem arg_b512 {H : Type} {enc : TypeId × Value → H} {w : World} {v : Value} {d : DataW H} {p : List MemPlace} {r : Reach} {b0 : Nat} (hv : Value.okWide Try.prog w r b0 22 v) (h : DataW.Trod enc Try.prog w 0 (fun _ => true) true 22 v d p) :
    ∃ x : List UInt8, v = .agg (ab x) ∧ x.length = 512 := arg_ab Try.underlying22 Try.underlying5 (by kernel_rfl) (by kernel_rfl) hv h
end Go.Proofs.Ytafmggipmaofnaa
