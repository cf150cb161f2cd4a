/-
  DERIVED. GIVEN WITH THE SEED: THE CARDS: each row of YtljjbffdenfngaaDoorRows.lean that lists a variable, with what it lists TIED to the program's text (the seventh form; the later family's looks); each row that meets fmt, with fmt's text TOLD by the authors' own Lean function (tested against real Go, not proved from fmt's source: count such statements apart). THE CARD IS WHAT COUNTS. Prove the row's statement (the work); the ties are given (YtljjbffdenfngaaDoorTie.lean); close each card by the builder's one call (the guide's Derived/Test/ToyasCard.lean, 'card_holds'). Laid BY PROGRAM, IN A SANDBOX (cutbox-door.mjs). By AI agents, Wed Nov 11 2026. No macro, syntax, notation, axiom, sorry.
-/
import Derived.Test.YtljjbffdenfngaaDoorRows
import GoSem.ClaimSeven
namespace Go.Proofs.YtljjbffdenfngaaDoor
namespace Rows

/-- THE TIED CARD OF 'laws.FnExactFormulaValid'. -/
def fnExactFormulaValidCard : Claim7 := { stood := { row := fnExactFormulaValidRow, standIns := [], harness := (true, "40800150c211d8f58175eb17f19188152680fa06c70b2a18e71e3b41e8826066"), looks := false }, kinds := [], alts := [], laidByText := true, laidKinds := [.data], laidTests := true, laidLooks := .later }
def FnExactFormulaValidCardSaid : Prop := Claim7.holds Tryd.pinned (.plain (OpenSpec.ofChange fnExactFormulaValidSpec)) fnExactFormulaValidCard

/-- THE TIED CARD OF 'laws.FnExactFormulaNodes'. -/
def fnExactFormulaNodesCard : Claim7 := { stood := { row := fnExactFormulaNodesRow, standIns := [], harness := (true, "40800150c211d8f58175eb17f19188152680fa06c70b2a18e71e3b41e8826066"), looks := false }, kinds := [], alts := [], laidByText := true, laidKinds := [.data], laidTests := true, laidLooks := .later }
def FnExactFormulaNodesCardSaid : Prop := Claim7.holds Tryd.pinned (.plain (OpenSpec.ofChange fnExactFormulaNodesSpec)) fnExactFormulaNodesCard

/-- THE TIED CARD OF 'laws.FnExactFormatFormula'. -/
def fnExactFormatFormulaCard : Claim7 := { stood := { row := fnExactFormatFormulaRow, standIns := [], harness := (true, "40800150c211d8f58175eb17f19188152680fa06c70b2a18e71e3b41e8826066"), looks := false }, kinds := [], alts := [], laidByText := true, laidKinds := [.data], laidTests := true, laidLooks := .later }
def FnExactFormatFormulaCardSaid : Prop := Claim7.holds Tryd.pinned (.plain (OpenSpec.ofChange fnExactFormatFormulaSpec)) fnExactFormatFormulaCard

/-- THE TIED CARD OF 'laws.FnExactNegateFormula'. -/
def fnExactNegateFormulaCard : Claim7 := { stood := { row := fnExactNegateFormulaRow, standIns := [], harness := (true, "40800150c211d8f58175eb17f19188152680fa06c70b2a18e71e3b41e8826066"), looks := false }, kinds := [], alts := [], laidByText := true, laidKinds := [.data], laidTests := true, laidLooks := .later }
def FnExactNegateFormulaCardSaid : Prop := Claim7.holds Tryd.pinned (.plain (OpenSpec.ofChange fnExactNegateFormulaSpec)) fnExactNegateFormulaCard

/-- THE SECOND FORM's CARD OF 'laws.FnExactFormulaValid'. -/
def fnExactFormulaValidUptoCard : Claim7 := { stood := { row := fnExactFormulaValidUptoRow, standIns := [], harness := (true, "40800150c211d8f58175eb17f19188152680fa06c70b2a18e71e3b41e8826066"), looks := false }, kinds := [], alts := [], laidByText := true, laidKinds := [.data], laidTests := true, laidLooks := .later }
def FnExactFormulaValidUptoCardSaid : Prop := Claim7.holds Tryd.pinned (.plain (OpenSpec.upto fnExactFormulaValidSpec)) fnExactFormulaValidUptoCard

/-- THE SECOND FORM's CARD OF 'laws.FnExactFormulaNodes'. -/
def fnExactFormulaNodesUptoCard : Claim7 := { stood := { row := fnExactFormulaNodesUptoRow, standIns := [], harness := (true, "40800150c211d8f58175eb17f19188152680fa06c70b2a18e71e3b41e8826066"), looks := false }, kinds := [], alts := [], laidByText := true, laidKinds := [.data], laidTests := true, laidLooks := .later }
def FnExactFormulaNodesUptoCardSaid : Prop := Claim7.holds Tryd.pinned (.plain (OpenSpec.upto fnExactFormulaNodesSpec)) fnExactFormulaNodesUptoCard

/-- THE SECOND FORM's CARD OF 'laws.FnExactFormatFormula'. -/
def fnExactFormatFormulaUptoCard : Claim7 := { stood := { row := fnExactFormatFormulaUptoRow, standIns := [], harness := (true, "40800150c211d8f58175eb17f19188152680fa06c70b2a18e71e3b41e8826066"), looks := false }, kinds := [], alts := [], laidByText := true, laidKinds := [.data], laidTests := true, laidLooks := .later }
def FnExactFormatFormulaUptoCardSaid : Prop := Claim7.holds Tryd.pinned (.plain (OpenSpec.upto fnExactFormatFormulaSpec)) fnExactFormatFormulaUptoCard

/-- THE SECOND FORM's CARD OF 'laws.FnExactNegateFormula'. -/
def fnExactNegateFormulaUptoCard : Claim7 := { stood := { row := fnExactNegateFormulaUptoRow, standIns := [], harness := (true, "40800150c211d8f58175eb17f19188152680fa06c70b2a18e71e3b41e8826066"), looks := false }, kinds := [], alts := [], laidByText := true, laidKinds := [.data], laidTests := true, laidLooks := .later }
def FnExactNegateFormulaUptoCardSaid : Prop := Claim7.holds Tryd.pinned (.plain (OpenSpec.upto fnExactNegateFormulaSpec)) fnExactNegateFormulaUptoCard
end Rows
end Go.Proofs.YtljjbffdenfngaaDoor
