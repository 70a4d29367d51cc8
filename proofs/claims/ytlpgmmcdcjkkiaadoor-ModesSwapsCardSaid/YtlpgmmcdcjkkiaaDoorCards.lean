/-
  DERIVED. GIVEN WITH THE SEED: THE CARDS: each row of YtlpgmmcdcjkkiaaDoorRows.lean that lists a variable, with what it lists TIED to the program's text (the seventh form; the later family's looks); each row that meets fmt, with fmt's text TOLD by the authors' own Lean function (tested against real Go, not proved from fmt's source: count such statements apart). THE CARD IS WHAT COUNTS. Prove the row's statement (the work); the ties are given (YtlpgmmcdcjkkiaaDoorTie.lean); close each card by the builder's one call (the guide's Derived/Test/ToyasCard.lean, 'card_holds'). Laid BY PROGRAM, IN A SANDBOX (cutbox-door.mjs). By AI agents, Wed Nov 11 2026. No macro, syntax, notation, axiom, sorry.
-/
import Derived.Test.YtlpgmmcdcjkkiaaDoorRows
import GoSem.ClaimSeven
namespace Go.Proofs.YtlpgmmcdcjkkiaaDoor
namespace Rows

/-- THE TIED CARD OF 'moneyerlaw10.ModesTables'. -/
def modesTablesCard : Claim7 := { stood := { row := modesTablesRow, standIns := [], harness := (true, "6df4d37ec1464130848ffdca59b5d8b9c25baaa2d5ef0e2d3ec7d565ce0c8e10"), looks := false }, kinds := [], alts := [], laidByText := true, laidKinds := [.data], laidTests := true, laidLooks := .later }
def ModesTablesCardSaid : Prop := Claim7.holds Tryd.pinned (.plain (OpenSpec.ofChange modesTablesSpec)) modesTablesCard

/-- THE TIED CARD OF 'moneyerlaw10.ModesSwaps'. -/
def modesSwapsCard : Claim7 := { stood := { row := modesSwapsRow, standIns := [], harness := (true, "6df4d37ec1464130848ffdca59b5d8b9c25baaa2d5ef0e2d3ec7d565ce0c8e10"), looks := false }, kinds := [], alts := [], laidByText := true, laidKinds := [.data], laidTests := true, laidLooks := .later }
def ModesSwapsCardSaid : Prop := Claim7.holds Tryd.pinned (.plain (OpenSpec.ofChange modesSwapsSpec)) modesSwapsCard

/-- THE TIED CARD OF 'moneyerlaw10.ModesTight'. -/
def modesTightCard : Claim7 := { stood := { row := modesTightRow, standIns := [], harness := (true, "6df4d37ec1464130848ffdca59b5d8b9c25baaa2d5ef0e2d3ec7d565ce0c8e10"), looks := false }, kinds := [], alts := [], laidByText := true, laidKinds := [.data], laidTests := true, laidLooks := .later }
def ModesTightCardSaid : Prop := Claim7.holds Tryd.pinned (.plain (OpenSpec.ofChange modesTightSpec)) modesTightCard

/-- THE TIED CARD OF 'moneyerlaw10.ModesOrder'. -/
def modesOrderCard : Claim7 := { stood := { row := modesOrderRow, standIns := [], harness := (true, "6df4d37ec1464130848ffdca59b5d8b9c25baaa2d5ef0e2d3ec7d565ce0c8e10"), looks := false }, kinds := [], alts := [], laidByText := true, laidKinds := [.data], laidTests := true, laidLooks := .later }
def ModesOrderCardSaid : Prop := Claim7.holds Tryd.pinned (.plain (OpenSpec.ofChange modesOrderSpec)) modesOrderCard

/-- THE SECOND FORM's CARD OF 'moneyerlaw10.ModesTables'. -/
def modesTablesUptoCard : Claim7 := { stood := { row := modesTablesUptoRow, standIns := [], harness := (true, "6df4d37ec1464130848ffdca59b5d8b9c25baaa2d5ef0e2d3ec7d565ce0c8e10"), looks := false }, kinds := [], alts := [], laidByText := true, laidKinds := [.data], laidTests := true, laidLooks := .later }
def ModesTablesUptoCardSaid : Prop := Claim7.holds Tryd.pinned (.plain (OpenSpec.upto modesTablesSpec)) modesTablesUptoCard

/-- THE SECOND FORM's CARD OF 'moneyerlaw10.ModesSwaps'. -/
def modesSwapsUptoCard : Claim7 := { stood := { row := modesSwapsUptoRow, standIns := [], harness := (true, "6df4d37ec1464130848ffdca59b5d8b9c25baaa2d5ef0e2d3ec7d565ce0c8e10"), looks := false }, kinds := [], alts := [], laidByText := true, laidKinds := [.data], laidTests := true, laidLooks := .later }
def ModesSwapsUptoCardSaid : Prop := Claim7.holds Tryd.pinned (.plain (OpenSpec.upto modesSwapsSpec)) modesSwapsUptoCard

/-- THE SECOND FORM's CARD OF 'moneyerlaw10.ModesTight'. -/
def modesTightUptoCard : Claim7 := { stood := { row := modesTightUptoRow, standIns := [], harness := (true, "6df4d37ec1464130848ffdca59b5d8b9c25baaa2d5ef0e2d3ec7d565ce0c8e10"), looks := false }, kinds := [], alts := [], laidByText := true, laidKinds := [.data], laidTests := true, laidLooks := .later }
def ModesTightUptoCardSaid : Prop := Claim7.holds Tryd.pinned (.plain (OpenSpec.upto modesTightSpec)) modesTightUptoCard

/-- THE SECOND FORM's CARD OF 'moneyerlaw10.ModesOrder'. -/
def modesOrderUptoCard : Claim7 := { stood := { row := modesOrderUptoRow, standIns := [], harness := (true, "6df4d37ec1464130848ffdca59b5d8b9c25baaa2d5ef0e2d3ec7d565ce0c8e10"), looks := false }, kinds := [], alts := [], laidByText := true, laidKinds := [.data], laidTests := true, laidLooks := .later }
def ModesOrderUptoCardSaid : Prop := Claim7.holds Tryd.pinned (.plain (OpenSpec.upto modesOrderSpec)) modesOrderUptoCard
end Rows
end Go.Proofs.YtlpgmmcdcjkkiaaDoor
