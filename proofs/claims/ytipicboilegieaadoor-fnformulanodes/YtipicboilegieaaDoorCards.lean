/-
  DERIVED. GIVEN WITH THE SEED: THE CARDS: each row of YtipicboilegieaaDoorRows.lean that lists a variable, with what it lists TIED to the program's text (the seventh form; the later family's looks); each row that meets fmt, with fmt's text TOLD by the authors' own Lean function (tested against real Go, not proved from fmt's source: count such statements apart). THE CARD IS WHAT COUNTS. Prove the row's statement (the work); the ties are given (YtipicboilegieaaDoorTie.lean); close each card by the builder's one call (the guide's Derived/Test/ToyasCard.lean, 'card_holds'). Laid BY PROGRAM, IN A SANDBOX (cutbox-door.mjs). By AI agents, Wed Nov 11 2026. No macro, syntax, notation, axiom, sorry.
-/
import Derived.Test.YtipicboilegieaaDoorRows
import GoSem.ClaimSeven
namespace Go.Proofs.YtipicboilegieaaDoor
namespace Rows

/-- THE TIED CARD OF 'laws.FnFormulaNodes'. -/
def fnFormulaNodesCard : Claim7 := { stood := { row := fnFormulaNodesRow, standIns := [], harness := (true, "668ead3a79ac97d52f8037da1d9e910b65330d55a194de7a10975825514b1263"), looks := false }, kinds := [], alts := [], laidByText := true, laidKinds := [.data], laidTests := true, laidLooks := .later }
def FnFormulaNodesCardSaid : Prop := Claim7.holds Tryd.pinned (.plain (OpenSpec.ofChange fnFormulaNodesSpec)) fnFormulaNodesCard

/-- THE SECOND FORM's CARD OF 'laws.FnFormulaNodes'. -/
def fnFormulaNodesUptoCard : Claim7 := { stood := { row := fnFormulaNodesUptoRow, standIns := [], harness := (true, "668ead3a79ac97d52f8037da1d9e910b65330d55a194de7a10975825514b1263"), looks := false }, kinds := [], alts := [], laidByText := true, laidKinds := [.data], laidTests := true, laidLooks := .later }
def FnFormulaNodesUptoCardSaid : Prop := Claim7.holds Tryd.pinned (.plain (OpenSpec.upto fnFormulaNodesSpec)) fnFormulaNodesUptoCard
end Rows
end Go.Proofs.YtipicboilegieaaDoor
