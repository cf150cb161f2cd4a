/-
  DERIVED. GIVEN WITH THE SEED: THE CARDS: each row of YthcohnceehndfaaDoorRows.lean that lists a variable, with what it lists TIED to the program's text (the seventh form; the later family's looks); each row that meets fmt, with fmt's text TOLD by the authors' own Lean function (tested against real Go, not proved from fmt's source: count such statements apart). THE CARD IS WHAT COUNTS. Prove the row's statement (the work); the ties are given (YthcohnceehndfaaDoorTie.lean); close each card by the builder's one call (the guide's Derived/Test/ToyasCard.lean, 'card_holds'). Laid BY PROGRAM, IN A SANDBOX (cutbox-door.mjs). By AI agents, Wed Nov 11 2026. No macro, syntax, notation, axiom, sorry.
-/
import Derived.Test.YthcohnceehndfaaDoorRows
import GoSem.ClaimSeven
namespace Go.Proofs.YthcohnceehndfaaDoor
namespace Rows

/-- THE TIED CARD OF 'laws.FnFormulaNodes'. -/
def fnFormulaNodesCard : Claim7 := { stood := { row := fnFormulaNodesRow, standIns := [], harness := (true, "559e2c1da2ba4232e232a29e9ecd01aee48301fe32a582cbec216729177a5975"), looks := false }, kinds := [], alts := [], laidByText := true, laidKinds := [.data], laidTests := true, laidLooks := .later }
def FnFormulaNodesCardSaid : Prop := Claim7.holds Tryd.pinned (.plain (OpenSpec.ofChange fnFormulaNodesSpec)) fnFormulaNodesCard

/-- THE TIED CARD OF 'laws.FnExactParseFormula'. -/
def fnExactParseFormulaCard : Claim7 := { stood := { row := fnExactParseFormulaRow, standIns := [], harness := (true, "559e2c1da2ba4232e232a29e9ecd01aee48301fe32a582cbec216729177a5975"), looks := false }, kinds := [], alts := [], laidByText := true, laidKinds := [.data], laidTests := true, laidLooks := .later }
def FnExactParseFormulaCardSaid : Prop := Claim7.holds Tryd.pinned (.plain (OpenSpec.ofChange fnExactParseFormulaSpec)) fnExactParseFormulaCard

/-- THE TIED CARD OF 'laws.FnExactNormalForm'. -/
def fnExactNormalFormCard : Claim7 := { stood := { row := fnExactNormalFormRow, standIns := [], harness := (true, "559e2c1da2ba4232e232a29e9ecd01aee48301fe32a582cbec216729177a5975"), looks := false }, kinds := [], alts := [], laidByText := true, laidKinds := [.data], laidTests := true, laidLooks := .later }
def FnExactNormalFormCardSaid : Prop := Claim7.holds Tryd.pinned (.plain (OpenSpec.ofChange fnExactNormalFormSpec)) fnExactNormalFormCard

/-- THE TIED CARD OF 'laws.FnExactSubformulas'. -/
def fnExactSubformulasCard : Claim7 := { stood := { row := fnExactSubformulasRow, standIns := [], harness := (true, "559e2c1da2ba4232e232a29e9ecd01aee48301fe32a582cbec216729177a5975"), looks := false }, kinds := [], alts := [], laidByText := true, laidKinds := [.data], laidTests := true, laidLooks := .later }
def FnExactSubformulasCardSaid : Prop := Claim7.holds Tryd.pinned (.plain (OpenSpec.ofChange fnExactSubformulasSpec)) fnExactSubformulasCard

/-- THE SECOND FORM's CARD OF 'laws.FnFormulaNodes'. -/
def fnFormulaNodesUptoCard : Claim7 := { stood := { row := fnFormulaNodesUptoRow, standIns := [], harness := (true, "559e2c1da2ba4232e232a29e9ecd01aee48301fe32a582cbec216729177a5975"), looks := false }, kinds := [], alts := [], laidByText := true, laidKinds := [.data], laidTests := true, laidLooks := .later }
def FnFormulaNodesUptoCardSaid : Prop := Claim7.holds Tryd.pinned (.plain (OpenSpec.upto fnFormulaNodesSpec)) fnFormulaNodesUptoCard

/-- THE SECOND FORM's CARD OF 'laws.FnExactParseFormula'. -/
def fnExactParseFormulaUptoCard : Claim7 := { stood := { row := fnExactParseFormulaUptoRow, standIns := [], harness := (true, "559e2c1da2ba4232e232a29e9ecd01aee48301fe32a582cbec216729177a5975"), looks := false }, kinds := [], alts := [], laidByText := true, laidKinds := [.data], laidTests := true, laidLooks := .later }
def FnExactParseFormulaUptoCardSaid : Prop := Claim7.holds Tryd.pinned (.plain (OpenSpec.upto fnExactParseFormulaSpec)) fnExactParseFormulaUptoCard

/-- THE SECOND FORM's CARD OF 'laws.FnExactNormalForm'. -/
def fnExactNormalFormUptoCard : Claim7 := { stood := { row := fnExactNormalFormUptoRow, standIns := [], harness := (true, "559e2c1da2ba4232e232a29e9ecd01aee48301fe32a582cbec216729177a5975"), looks := false }, kinds := [], alts := [], laidByText := true, laidKinds := [.data], laidTests := true, laidLooks := .later }
def FnExactNormalFormUptoCardSaid : Prop := Claim7.holds Tryd.pinned (.plain (OpenSpec.upto fnExactNormalFormSpec)) fnExactNormalFormUptoCard

/-- THE SECOND FORM's CARD OF 'laws.FnExactSubformulas'. -/
def fnExactSubformulasUptoCard : Claim7 := { stood := { row := fnExactSubformulasUptoRow, standIns := [], harness := (true, "559e2c1da2ba4232e232a29e9ecd01aee48301fe32a582cbec216729177a5975"), looks := false }, kinds := [], alts := [], laidByText := true, laidKinds := [.data], laidTests := true, laidLooks := .later }
def FnExactSubformulasUptoCardSaid : Prop := Claim7.holds Tryd.pinned (.plain (OpenSpec.upto fnExactSubformulasSpec)) fnExactSubformulasUptoCard
end Rows
end Go.Proofs.YthcohnceehndfaaDoor
