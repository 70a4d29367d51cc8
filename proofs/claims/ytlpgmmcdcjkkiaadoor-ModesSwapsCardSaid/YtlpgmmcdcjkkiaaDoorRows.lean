/-
  NARROWER THAN 'FOR EVERY INPUT', by the rows' own cells (each row's printed sentence says how): ModesTables: laid · ModesSwaps: laid · ModesTight: laid · ModesOrder: laid.
  DERIVED. THE GIVEN ROWS OF THIS SEAT. 4 by the template 'for every input the law returns true; each argument reads behind the call as it read before'; 0 by the template 'total and deterministic' (their statements: YtlpgmmcdcjkkiaaDoorTotals.lean).
  GIVEN WITH THE SEED: the statements are not yours to turn. If you find one false, say at which input.
  Laid BY PROGRAM, IN A SANDBOX (cutbox-rows.mjs): the forced cells as the released guide's own fill.sh prints them over the translation e58dd7827b83331b… (all of the seat's roots in one cut). By AI agents, Wed Nov 11 2026. No macro, syntax, notation, axiom, sorry.
-/
import Derived.Test.YtlpgmmcdcjkkiaaDoorChecked
import GoSem.Claim
import GoSem.ClaimJoined
import GoSem.ClaimMapViews
import Derived.JoinedTies
import Derived.KernelRfl
namespace Go.Proofs.YtlpgmmcdcjkkiaaDoor
/- THE CELL 'sum', in the pinned program and in every row, IS THE sha256 OF THE DUMP (.gsa) THAT YtlpgmmcdcjkkiaaDoorProg.lean LOADS. Nothing in Lean hashes anything: it is a label: what it is worth is what the hold of that sum in a sandbox is worth. -/
noncomputable def Tryd.pinned : Pinned := { name := "ytlpgmmcdcjkkiaadoor", sum := "e58dd7827b83331bc445cd5dee4072a5cbbbc1d32946b7851cc9642f2b245624", checked := Tryd.checked }
namespace Rows
def none {H : Type} : Left H := { results := [], args := [] }

/- WHAT THE LISTED PACKAGE-LEVEL VARIABLES READ AS WHEN THE CALL BEGINS. Each datum BY PROGRAM (the guide's laid-datum.mjs) off the statement by which the dump's own 'gosem.cut.vars' lays the variable. In a bare row this is a premise. The card (YtlpgmmcdcjkkiaaDoorCards.lean) ties it to the program's text. -/
def laid_moneyer_modes_together {H : Type} : DataW H := .agg [.agg [.lit (.bool true), .lit (.bool false), .lit (.bool false), .lit (.bool false)], .agg [.lit (.bool false), .lit (.bool false), .lit (.bool false), .lit (.bool false)], .agg [.lit (.bool false), .lit (.bool false), .lit (.bool true), .lit (.bool true)], .agg [.lit (.bool false), .lit (.bool false), .lit (.bool true), .lit (.bool true)]]

/-- 'moneyerlaw10.ModesTables': WHATEVER THE INPUT: true; the input reads as it did. -/
def modesTablesSpec : ChangeSpec := { name := "modesTables", fn := fun _ => fun
  | [d1, d2, d3, d4, d5] => { results := [.lit (.bool true)], args := [d1, d2, d3, d4, d5] }
  | _ => none }
def modesTablesRow : OpenClaim := { program := "ytlpgmmcdcjkkiaadoor", sum := "e58dd7827b83331bc445cd5dee4072a5cbbbc1d32946b7851cc9642f2b245624", func := "moneyer/moneyerlaw10.ModesTables", spec := "modesTables", named := ["moneyer/modes.together"], apart := false, laid := [("moneyer/modes.together", laid_moneyer_modes_together)] }
def ModesTablesSaid : Prop := modesTablesRow.holds Tryd.pinned (OpenSpec.ofChange modesTablesSpec)

/-- ITS FALSE NEIGHBOUR: 'it returns false'. Refute it at one input. -/
def modesTablesWrong : ChangeSpec := { name := "modesTables", fn := fun _ => fun
  | [d1, d2, d3, d4, d5] => { results := [.lit (.bool false)], args := [d1, d2, d3, d4, d5] }
  | _ => none }
def ModesTablesWrongFalsely : Prop := modesTablesRow.holds Tryd.pinned (OpenSpec.ofChange modesTablesWrong)

/-- 'moneyerlaw10.ModesSwaps': WHATEVER THE INPUT: true; the input reads as it did. -/
def modesSwapsSpec : ChangeSpec := { name := "modesSwaps", fn := fun _ => fun
  | [d1, d2, d3] => { results := [.lit (.bool true)], args := [d1, d2, d3] }
  | _ => none }
def modesSwapsRow : OpenClaim := { program := "ytlpgmmcdcjkkiaadoor", sum := "e58dd7827b83331bc445cd5dee4072a5cbbbc1d32946b7851cc9642f2b245624", func := "moneyer/moneyerlaw10.ModesSwaps", spec := "modesSwaps", inPlace := ["math/bits.Add64", "internal/bytealg.abigen_runtime_cmpstring", "slices.overlaps[moneyer/api.Pair]"], unfollowed := true, recurses := true, named := ["moneyer/modes.together"], apart := false, laid := [("moneyer/modes.together", laid_moneyer_modes_together)] }
def ModesSwapsSaid : Prop := modesSwapsRow.holds Tryd.pinned (OpenSpec.ofChange modesSwapsSpec)

/-- ITS FALSE NEIGHBOUR: 'it returns false'. Refute it at one input. -/
def modesSwapsWrong : ChangeSpec := { name := "modesSwaps", fn := fun _ => fun
  | [d1, d2, d3] => { results := [.lit (.bool false)], args := [d1, d2, d3] }
  | _ => none }
def ModesSwapsWrongFalsely : Prop := modesSwapsRow.holds Tryd.pinned (OpenSpec.ofChange modesSwapsWrong)

/-- 'moneyerlaw10.ModesTight': WHATEVER THE INPUT: true; the input reads as it did. -/
def modesTightSpec : ChangeSpec := { name := "modesTight", fn := fun _ => fun
  | [d1, d2] => { results := [.lit (.bool true)], args := [d1, d2] }
  | _ => none }
def modesTightRow : OpenClaim := { program := "ytlpgmmcdcjkkiaadoor", sum := "e58dd7827b83331bc445cd5dee4072a5cbbbc1d32946b7851cc9642f2b245624", func := "moneyer/moneyerlaw10.ModesTight", spec := "modesTight", inPlace := ["math/bits.Add64", "internal/bytealg.abigen_runtime_cmpstring", "slices.overlaps[moneyer/api.Pair]"], unfollowed := true, recurses := true, named := ["moneyer/modes.together"], apart := false, laid := [("moneyer/modes.together", laid_moneyer_modes_together)] }
def ModesTightSaid : Prop := modesTightRow.holds Tryd.pinned (OpenSpec.ofChange modesTightSpec)

/-- ITS FALSE NEIGHBOUR: 'it returns false'. Refute it at one input. -/
def modesTightWrong : ChangeSpec := { name := "modesTight", fn := fun _ => fun
  | [d1, d2] => { results := [.lit (.bool false)], args := [d1, d2] }
  | _ => none }
def ModesTightWrongFalsely : Prop := modesTightRow.holds Tryd.pinned (OpenSpec.ofChange modesTightWrong)

/-- 'moneyerlaw10.ModesOrder': WHATEVER THE INPUT: true; the input reads as it did. -/
def modesOrderSpec : ChangeSpec := { name := "modesOrder", fn := fun _ => fun
  | [d1, d2, d3] => { results := [.lit (.bool true)], args := [d1, d2, d3] }
  | _ => none }
def modesOrderRow : OpenClaim := { program := "ytlpgmmcdcjkkiaadoor", sum := "e58dd7827b83331bc445cd5dee4072a5cbbbc1d32946b7851cc9642f2b245624", func := "moneyer/moneyerlaw10.ModesOrder", spec := "modesOrder", named := ["moneyer/modes.together"], apart := false, laid := [("moneyer/modes.together", laid_moneyer_modes_together)] }
def ModesOrderSaid : Prop := modesOrderRow.holds Tryd.pinned (OpenSpec.ofChange modesOrderSpec)

/-- ITS FALSE NEIGHBOUR: 'it returns false'. Refute it at one input. -/
def modesOrderWrong : ChangeSpec := { name := "modesOrder", fn := fun _ => fun
  | [d1, d2, d3] => { results := [.lit (.bool false)], args := [d1, d2, d3] }
  | _ => none }
def ModesOrderWrongFalsely : Prop := modesOrderRow.holds Tryd.pinned (OpenSpec.ofChange modesOrderWrong)

/- THE SECOND FORM. 'bulk': how many values and letters a reading holds, each counted each time it is reached (what is shared counts as often as it is met; a slice's spare places count too). A statement '..UptoSaid' is the law's where the arguments, and the package variables that the reading takes, are together of bulk at most 1048576: NARROWER than '..Said'. Prove '..Said' where nothing that the law and all that it calls make is longer than what came in: it says more and counts as full. Else prove '..UptoSaid'. A law counts once. -/
mutual
def uptoBulk {H : Type} : DataW H → Nat
  | .lit (.string bytes) => bytes.length + 1
  | .lit _ => 1
  | .nil => 1
  | .ptr d => uptoBulk d + 1
  | .slice elems spare => uptoBulkAll elems + uptoBulkAll spare + 1
  | .agg parts => uptoBulkAll parts + 1
  | .iface _ d => uptoBulk d + 1
  | .map entries => uptoBulkEntries entries + 1
  | .held _ => 1
def uptoBulkAll {H : Type} : List (DataW H) → Nat
  | [] => 0
  | d :: r => uptoBulk d + uptoBulkAll r
def uptoBulkEntries {H : Type} : List (Lit × DataW H) → Nat
  | [] => 0
  | x :: r => uptoBulkEntry x + uptoBulkEntries r
def uptoBulkEntry {H : Type} : Lit × DataW H → Nat
  | (.string bytes, d) => bytes.length + uptoBulk d + 1
  | (_, d) => uptoBulk d + 1
 end
def uptoSmall : (H : Type) → List (DataW H) → Bool := fun _ ds => decide (uptoBulkAll ds ≤ 1048576)
def OpenSpec.upto (s : _root_.Go.ChangeSpec) : _root_.Go.OpenSpec := { _root_.Go.OpenSpec.ofChange s with cond := some uptoSmall }

/-- 'moneyerlaw10.ModesTables', WHERE WHAT IT READS IS OF BULK AT MOST 1048576: true; the input reads as it did. -/
def modesTablesUptoRow : OpenClaim := { program := "ytlpgmmcdcjkkiaadoor", sum := "e58dd7827b83331bc445cd5dee4072a5cbbbc1d32946b7851cc9642f2b245624", func := "moneyer/moneyerlaw10.ModesTables", spec := "modesTables", named := ["moneyer/modes.together"], apart := false, laid := [("moneyer/modes.together", laid_moneyer_modes_together)], narrowed := true }
def ModesTablesUptoSaid : Prop := modesTablesUptoRow.holds Tryd.pinned (OpenSpec.upto modesTablesSpec)

/-- 'moneyerlaw10.ModesSwaps', WHERE WHAT IT READS IS OF BULK AT MOST 1048576: true; the input reads as it did. -/
def modesSwapsUptoRow : OpenClaim := { program := "ytlpgmmcdcjkkiaadoor", sum := "e58dd7827b83331bc445cd5dee4072a5cbbbc1d32946b7851cc9642f2b245624", func := "moneyer/moneyerlaw10.ModesSwaps", spec := "modesSwaps", inPlace := ["math/bits.Add64", "internal/bytealg.abigen_runtime_cmpstring", "slices.overlaps[moneyer/api.Pair]"], unfollowed := true, recurses := true, named := ["moneyer/modes.together"], apart := false, laid := [("moneyer/modes.together", laid_moneyer_modes_together)], narrowed := true }
def ModesSwapsUptoSaid : Prop := modesSwapsUptoRow.holds Tryd.pinned (OpenSpec.upto modesSwapsSpec)

/-- 'moneyerlaw10.ModesTight', WHERE WHAT IT READS IS OF BULK AT MOST 1048576: true; the input reads as it did. -/
def modesTightUptoRow : OpenClaim := { program := "ytlpgmmcdcjkkiaadoor", sum := "e58dd7827b83331bc445cd5dee4072a5cbbbc1d32946b7851cc9642f2b245624", func := "moneyer/moneyerlaw10.ModesTight", spec := "modesTight", inPlace := ["math/bits.Add64", "internal/bytealg.abigen_runtime_cmpstring", "slices.overlaps[moneyer/api.Pair]"], unfollowed := true, recurses := true, named := ["moneyer/modes.together"], apart := false, laid := [("moneyer/modes.together", laid_moneyer_modes_together)], narrowed := true }
def ModesTightUptoSaid : Prop := modesTightUptoRow.holds Tryd.pinned (OpenSpec.upto modesTightSpec)

/-- 'moneyerlaw10.ModesOrder', WHERE WHAT IT READS IS OF BULK AT MOST 1048576: true; the input reads as it did. -/
def modesOrderUptoRow : OpenClaim := { program := "ytlpgmmcdcjkkiaadoor", sum := "e58dd7827b83331bc445cd5dee4072a5cbbbc1d32946b7851cc9642f2b245624", func := "moneyer/moneyerlaw10.ModesOrder", spec := "modesOrder", named := ["moneyer/modes.together"], apart := false, laid := [("moneyer/modes.together", laid_moneyer_modes_together)], narrowed := true }
def ModesOrderUptoSaid : Prop := modesOrderUptoRow.holds Tryd.pinned (OpenSpec.upto modesOrderSpec)

end Rows
end Go.Proofs.YtlpgmmcdcjkkiaaDoor
