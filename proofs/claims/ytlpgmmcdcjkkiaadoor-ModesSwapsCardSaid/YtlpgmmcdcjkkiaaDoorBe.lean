/- Contracts of layer 1's functions that only compute or read: fits, Num; the reference's At. -/
import Derived.Test.YtlpgmmcdcjkkiaaDoorBase
import Derived.Test.YtlpgmmcdcjkkiaaDoorBeMath
import Derived.Test.YtlpgmmcdcjkkiaaDoorChecked
namespace Go.Proofs.YtlpgmmcdcjkkiaaDoor
set_option maxRecDepth 20000
open Go.RowKit

/-- Are there width bytes of so many at a place? -/
def isAt (len at_ width : Int) : Prop := 1 ≤ width ∧ width ≤ 8 ∧ 0 ≤ at_ ∧ at_ + width ≤ len

end Go.Proofs.YtlpgmmcdcjkkiaaDoor
