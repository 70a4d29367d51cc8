/-
  No cell of these rows narrows 'for every input' (looked for: loops, veiled, ifaces, maps, wideKeys, modest, calm, conditions, laid).
  DERIVED. THE GIVEN ROWS OF THIS SEAT. 4 by the template 'for every input the law returns true; each argument reads behind the call as it read before'; 0 by the template 'total and deterministic' (their statements: YtejkpjaaefobnaaTotals.lean).
  GIVEN WITH THE SEED: the statements are not yours to turn. If you find one false, say at which input.
  Laid BY PROGRAM, IN A SANDBOX (cutbox-rows.mjs): the forced cells as the released guide's own fill.sh prints them over the translation 65e02bdd88eeadff… (all of the seat's roots in one cut). By AI agents, Wed Nov 11 2026. No macro, syntax, notation, axiom, sorry.
-/
import Derived.Test.YtejkpjaaefobnaaChecked
import GoSem.Claim
import GoSem.ClaimJoined
import GoSem.ClaimMapViews
import Derived.JoinedTies
import Derived.KernelRfl
namespace Go.Proofs.Ytejkpjaaefobnaa
/- THE CELL 'sum', in the pinned program and in every row, IS THE sha256 OF THE DUMP (.gsa) THAT YtejkpjaaefobnaaProg.lean LOADS. Nothing in Lean hashes anything: it is a label: what it is worth is what the hold of that sum in a sandbox is worth. -/
noncomputable def Try.pinned : Pinned := { name := "ytejkpjaaefobnaa", sum := "65e02bdd88eeadff10ec59c778f774d864ccbdec99b33ecd2f504aa599ce8589", checked := Try.checked }
namespace Rows
def none {H : Type} : Left H := { results := [], args := [] }

/-- 'moneyerlaw09.ModelSteps': WHATEVER THE INPUT: true; the input reads as it did. -/
def modelStepsSpec : ChangeSpec := { name := "modelSteps", fn := fun _ => fun
  | [d1, d2] => { results := [.lit (.bool true)], args := [d1, d2] }
  | _ => none }
def modelStepsRow : OpenClaim := { program := "ytejkpjaaefobnaa", sum := "65e02bdd88eeadff10ec59c778f774d864ccbdec99b33ecd2f504aa599ce8589", func := "moneyer/moneyerlaw09.ModelSteps", spec := "modelSteps", inPlace := ["math/bits.Add64", "internal/bytealg.abigen_runtime_cmpstring", "slices.overlaps[moneyer/api.Pair]"], unfollowed := true, recurses := true, apart := false }
def ModelStepsSaid : Prop := modelStepsRow.holds Try.pinned (OpenSpec.ofChange modelStepsSpec)

/-- ITS FALSE NEIGHBOUR: 'it returns false'. Refute it at one input. -/
def modelStepsWrong : ChangeSpec := { name := "modelSteps", fn := fun _ => fun
  | [d1, d2] => { results := [.lit (.bool false)], args := [d1, d2] }
  | _ => none }
def ModelStepsWrongFalsely : Prop := modelStepsRow.holds Try.pinned (OpenSpec.ofChange modelStepsWrong)

/-- 'moneyerlaw09.ModelChecks': WHATEVER THE INPUT: true; the input reads as it did. -/
def modelChecksSpec : ChangeSpec := { name := "modelChecks", fn := fun _ => fun
  | [d] => { results := [.lit (.bool true)], args := [d] }
  | _ => none }
def modelChecksRow : OpenClaim := { program := "ytejkpjaaefobnaa", sum := "65e02bdd88eeadff10ec59c778f774d864ccbdec99b33ecd2f504aa599ce8589", func := "moneyer/moneyerlaw09.ModelChecks", spec := "modelChecks", inPlace := ["math/bits.Add64", "internal/bytealg.abigen_runtime_cmpstring", "slices.overlaps[moneyer/api.Pair]"], unfollowed := true, recurses := true, apart := false }
def ModelChecksSaid : Prop := modelChecksRow.holds Try.pinned (OpenSpec.ofChange modelChecksSpec)

/-- ITS FALSE NEIGHBOUR: 'it returns false'. Refute it at one input. -/
def modelChecksWrong : ChangeSpec := { name := "modelChecks", fn := fun _ => fun
  | [d] => { results := [.lit (.bool false)], args := [d] }
  | _ => none }
def ModelChecksWrongFalsely : Prop := modelChecksRow.holds Try.pinned (OpenSpec.ofChange modelChecksWrong)

/-- 'moneyerlaw09.ModelLooks': WHATEVER THE INPUT: true; the input reads as it did. -/
def modelLooksSpec : ChangeSpec := { name := "modelLooks", fn := fun _ => fun
  | [d1, d2, d3, d4, d5] => { results := [.lit (.bool true)], args := [d1, d2, d3, d4, d5] }
  | _ => none }
def modelLooksRow : OpenClaim := { program := "ytejkpjaaefobnaa", sum := "65e02bdd88eeadff10ec59c778f774d864ccbdec99b33ecd2f504aa599ce8589", func := "moneyer/moneyerlaw09.ModelLooks", spec := "modelLooks", inPlace := ["math/bits.Add64", "internal/bytealg.abigen_runtime_cmpstring", "slices.overlaps[moneyer/api.Pair]"], unfollowed := true, recurses := true, apart := false }
def ModelLooksSaid : Prop := modelLooksRow.holds Try.pinned (OpenSpec.ofChange modelLooksSpec)

/-- ITS FALSE NEIGHBOUR: 'it returns false'. Refute it at one input. -/
def modelLooksWrong : ChangeSpec := { name := "modelLooks", fn := fun _ => fun
  | [d1, d2, d3, d4, d5] => { results := [.lit (.bool false)], args := [d1, d2, d3, d4, d5] }
  | _ => none }
def ModelLooksWrongFalsely : Prop := modelLooksRow.holds Try.pinned (OpenSpec.ofChange modelLooksWrong)

/-- 'moneyerlaw09.ModelPlains': WHATEVER THE INPUT: true; the input reads as it did. -/
def modelPlainsSpec : ChangeSpec := { name := "modelPlains", fn := fun _ => fun
  | [d1, d2] => { results := [.lit (.bool true)], args := [d1, d2] }
  | _ => none }
def modelPlainsRow : OpenClaim := { program := "ytejkpjaaefobnaa", sum := "65e02bdd88eeadff10ec59c778f774d864ccbdec99b33ecd2f504aa599ce8589", func := "moneyer/moneyerlaw09.ModelPlains", spec := "modelPlains", inPlace := ["math/bits.Add64", "internal/bytealg.abigen_runtime_cmpstring", "slices.overlaps[moneyer/api.Pair]"], unfollowed := true, recurses := true, apart := false }
def ModelPlainsSaid : Prop := modelPlainsRow.holds Try.pinned (OpenSpec.ofChange modelPlainsSpec)

/-- ITS FALSE NEIGHBOUR: 'it returns false'. Refute it at one input. -/
def modelPlainsWrong : ChangeSpec := { name := "modelPlains", fn := fun _ => fun
  | [d1, d2] => { results := [.lit (.bool false)], args := [d1, d2] }
  | _ => none }
def ModelPlainsWrongFalsely : Prop := modelPlainsRow.holds Try.pinned (OpenSpec.ofChange modelPlainsWrong)

/- THE SECOND FORM. 'bulk': how many values and letters a reading holds, each counted each time it is reached (what is shared counts as often as it is met; a slice's spare places count too). A statement '..UptoSaid' is the law's where the arguments, and the package variables that the reading takes, are together of bulk at most 1048576: NARROWER than '..Said'. Prove '..Said' where nothing that the law and all that it calls make is longer than what came in: it says more and counts as full. Else prove '..UptoSaid'. A law counts once. -/
mutual
def uptoBulk {H : Type} : DataW H → Nat
  | .lit (.string bytes) => bytes.length + 1
  | .lit _ => 1
  | .nil => 1
  | .ptr d => uptoBulk d + 1
  | .slice elems spare => uptoBulkAll elems + uptoBulkAll spare + 1
  | .agg parts => uptoBulkAll parts + 1
  | .iface _ d => uptoBulk d + 1
  | .map entries => uptoBulkEntries entries + 1
  | .held _ => 1
def uptoBulkAll {H : Type} : List (DataW H) → Nat
  | [] => 0
  | d :: r => uptoBulk d + uptoBulkAll r
def uptoBulkEntries {H : Type} : List (Lit × DataW H) → Nat
  | [] => 0
  | x :: r => uptoBulkEntry x + uptoBulkEntries r
def uptoBulkEntry {H : Type} : Lit × DataW H → Nat
  | (.string bytes, d) => bytes.length + uptoBulk d + 1
  | (_, d) => uptoBulk d + 1
 end
def uptoSmall : (H : Type) → List (DataW H) → Bool := fun _ ds => decide (uptoBulkAll ds ≤ 1048576)
def OpenSpec.upto (s : _root_.Go.ChangeSpec) : _root_.Go.OpenSpec := { _root_.Go.OpenSpec.ofChange s with cond := some uptoSmall }

/-- 'moneyerlaw09.ModelSteps', WHERE WHAT IT READS IS OF BULK AT MOST 1048576: true; the input reads as it did. -/
def modelStepsUptoRow : OpenClaim := { program := "ytejkpjaaefobnaa", sum := "65e02bdd88eeadff10ec59c778f774d864ccbdec99b33ecd2f504aa599ce8589", func := "moneyer/moneyerlaw09.ModelSteps", spec := "modelSteps", inPlace := ["math/bits.Add64", "internal/bytealg.abigen_runtime_cmpstring", "slices.overlaps[moneyer/api.Pair]"], unfollowed := true, recurses := true, apart := false, narrowed := true }
def ModelStepsUptoSaid : Prop := modelStepsUptoRow.holds Try.pinned (OpenSpec.upto modelStepsSpec)

/-- 'moneyerlaw09.ModelChecks', WHERE WHAT IT READS IS OF BULK AT MOST 1048576: true; the input reads as it did. -/
def modelChecksUptoRow : OpenClaim := { program := "ytejkpjaaefobnaa", sum := "65e02bdd88eeadff10ec59c778f774d864ccbdec99b33ecd2f504aa599ce8589", func := "moneyer/moneyerlaw09.ModelChecks", spec := "modelChecks", inPlace := ["math/bits.Add64", "internal/bytealg.abigen_runtime_cmpstring", "slices.overlaps[moneyer/api.Pair]"], unfollowed := true, recurses := true, apart := false, narrowed := true }
def ModelChecksUptoSaid : Prop := modelChecksUptoRow.holds Try.pinned (OpenSpec.upto modelChecksSpec)

/-- 'moneyerlaw09.ModelLooks', WHERE WHAT IT READS IS OF BULK AT MOST 1048576: true; the input reads as it did. -/
def modelLooksUptoRow : OpenClaim := { program := "ytejkpjaaefobnaa", sum := "65e02bdd88eeadff10ec59c778f774d864ccbdec99b33ecd2f504aa599ce8589", func := "moneyer/moneyerlaw09.ModelLooks", spec := "modelLooks", inPlace := ["math/bits.Add64", "internal/bytealg.abigen_runtime_cmpstring", "slices.overlaps[moneyer/api.Pair]"], unfollowed := true, recurses := true, apart := false, narrowed := true }
def ModelLooksUptoSaid : Prop := modelLooksUptoRow.holds Try.pinned (OpenSpec.upto modelLooksSpec)

/-- 'moneyerlaw09.ModelPlains', WHERE WHAT IT READS IS OF BULK AT MOST 1048576: true; the input reads as it did. -/
def modelPlainsUptoRow : OpenClaim := { program := "ytejkpjaaefobnaa", sum := "65e02bdd88eeadff10ec59c778f774d864ccbdec99b33ecd2f504aa599ce8589", func := "moneyer/moneyerlaw09.ModelPlains", spec := "modelPlains", inPlace := ["math/bits.Add64", "internal/bytealg.abigen_runtime_cmpstring", "slices.overlaps[moneyer/api.Pair]"], unfollowed := true, recurses := true, apart := false, narrowed := true }
def ModelPlainsUptoSaid : Prop := modelPlainsUptoRow.holds Try.pinned (OpenSpec.upto modelPlainsSpec)

end Rows
end Go.Proofs.Ytejkpjaaefobnaa
