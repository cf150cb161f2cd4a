/-
  NARROWER THAN 'FOR EVERY INPUT', by the rows' own cells (each row's printed sentence says how): FnExactFormulaValid: loops, laid · FnExactFormulaNodes: loops, laid · FnExactFormatFormula: loops, laid · FnExactNegateFormula: loops, laid.
  DERIVED. THE GIVEN ROWS OF THIS SEAT. 4 by the template 'for every input the law returns true; each argument reads behind the call as it read before'; 0 by the template 'total and deterministic' (their statements: YtljjbffdenfngaaDoorTotals.lean).
  GIVEN WITH THE SEED: the statements are not yours to turn. If you find one false, say at which input.
  Laid BY PROGRAM, IN A SANDBOX (cutbox-rows.mjs): the forced cells as the released guide's own fill.sh prints them over the translation 09b84030dfb4f6e6… (all of the seat's roots in one cut). By AI agents, Wed Nov 11 2026. No macro, syntax, notation, axiom, sorry.
-/
import Derived.Test.YtljjbffdenfngaaDoorChecked
import GoSem.Claim
import GoSem.ClaimJoined
import GoSem.ClaimMapViews
import Derived.JoinedTies
import Derived.KernelRfl
namespace Go.Proofs.YtljjbffdenfngaaDoor
/- THE CELL 'sum', in the pinned program and in every row, IS THE sha256 OF THE DUMP (.gsa) THAT YtljjbffdenfngaaDoorProg.lean LOADS. Nothing in Lean hashes anything: it is a label: what it is worth is what the hold of that sum in a sandbox is worth. -/
noncomputable def Tryd.pinned : Pinned := { name := "ytljjbffdenfngaadoor", sum := "09b84030dfb4f6e604db8795a4db95eae73dd3a65e7382041e5dd793171dfc4c", checked := Tryd.checked }
namespace Rows
def none {H : Type} : Left H := { results := [], args := [] }

/- WHAT THE LISTED PACKAGE-LEVEL VARIABLES READ AS WHEN THE CALL BEGINS. Each datum BY PROGRAM (the guide's laid-datum.mjs) off the statement by which the dump's own 'gosem.cut.vars' lays the variable. In a bare row this is a premise. The card (YtljjbffdenfngaaDoorCards.lean) ties it to the program's text. -/
def laid_loop_example_ltlcheck_impl_formulaForms {H : Type} : DataW H := .agg [.agg [.lit (.int .i64 0), .lit (.string [])], .agg [.lit (.int .i64 0), .lit (.string [84])], .agg [.lit (.int .i64 0), .lit (.string [])], .agg [.lit (.int .i64 1), .lit (.string [33])], .agg [.lit (.int .i64 2), .lit (.string [38])], .agg [.lit (.int .i64 2), .lit (.string [124])], .agg [.lit (.int .i64 1), .lit (.string [88])], .agg [.lit (.int .i64 2), .lit (.string [85])], .agg [.lit (.int .i64 2), .lit (.string [82])], .agg [.lit (.int .i64 1), .lit (.string [70])], .agg [.lit (.int .i64 1), .lit (.string [71])]]

/-- 'laws.FnExactFormulaValid': WHATEVER THE INPUT: true; the input reads as it did. -/
def fnExactFormulaValidSpec : ChangeSpec := { name := "fnExactFormulaValid", vars := ["loop.example/ltlcheck/impl.formulaForms"], fn := fun _ => fun
  | [d, g1] => { results := [.lit (.bool true)], args := [d], vars := [g1] }
  | _ => none }
def fnExactFormulaValidRow : OpenClaim := { program := "ytljjbffdenfngaadoor", sum := "09b84030dfb4f6e604db8795a4db95eae73dd3a65e7382041e5dd793171dfc4c", func := "loop.example/ltlcheck/laws.FnExactFormulaValid", spec := "fnExactFormulaValid", unfollowed := true, recurses := true, named := ["loop.example/ltlcheck/impl.formulaForms"], loops := true, apart := false, laid := [("loop.example/ltlcheck/impl.formulaForms", laid_loop_example_ltlcheck_impl_formulaForms)] }
def FnExactFormulaValidSaid : Prop := fnExactFormulaValidRow.holds Tryd.pinned (OpenSpec.ofChange fnExactFormulaValidSpec)

/-- ITS FALSE NEIGHBOUR: 'it returns false'. Refute it at one input. -/
def fnExactFormulaValidWrong : ChangeSpec := { name := "fnExactFormulaValid", vars := ["loop.example/ltlcheck/impl.formulaForms"], fn := fun _ => fun
  | [d, g1] => { results := [.lit (.bool false)], args := [d], vars := [g1] }
  | _ => none }
def FnExactFormulaValidWrongFalsely : Prop := fnExactFormulaValidRow.holds Tryd.pinned (OpenSpec.ofChange fnExactFormulaValidWrong)

/-- 'laws.FnExactFormulaNodes': WHATEVER THE INPUT: true; the input reads as it did. -/
def fnExactFormulaNodesSpec : ChangeSpec := { name := "fnExactFormulaNodes", vars := ["loop.example/ltlcheck/impl.formulaForms"], fn := fun _ => fun
  | [d, g1] => { results := [.lit (.bool true)], args := [d], vars := [g1] }
  | _ => none }
def fnExactFormulaNodesRow : OpenClaim := { program := "ytljjbffdenfngaadoor", sum := "09b84030dfb4f6e604db8795a4db95eae73dd3a65e7382041e5dd793171dfc4c", func := "loop.example/ltlcheck/laws.FnExactFormulaNodes", spec := "fnExactFormulaNodes", unfollowed := true, recurses := true, named := ["loop.example/ltlcheck/impl.formulaForms"], loops := true, apart := false, laid := [("loop.example/ltlcheck/impl.formulaForms", laid_loop_example_ltlcheck_impl_formulaForms)] }
def FnExactFormulaNodesSaid : Prop := fnExactFormulaNodesRow.holds Tryd.pinned (OpenSpec.ofChange fnExactFormulaNodesSpec)

/-- ITS FALSE NEIGHBOUR: 'it returns false'. Refute it at one input. -/
def fnExactFormulaNodesWrong : ChangeSpec := { name := "fnExactFormulaNodes", vars := ["loop.example/ltlcheck/impl.formulaForms"], fn := fun _ => fun
  | [d, g1] => { results := [.lit (.bool false)], args := [d], vars := [g1] }
  | _ => none }
def FnExactFormulaNodesWrongFalsely : Prop := fnExactFormulaNodesRow.holds Tryd.pinned (OpenSpec.ofChange fnExactFormulaNodesWrong)

/-- 'laws.FnExactFormatFormula': WHATEVER THE INPUT: true; the input reads as it did. -/
def fnExactFormatFormulaSpec : ChangeSpec := { name := "fnExactFormatFormula", vars := ["loop.example/ltlcheck/impl.formulaForms"], fn := fun _ => fun
  | [d, g1] => { results := [.lit (.bool true)], args := [d], vars := [g1] }
  | _ => none }
def fnExactFormatFormulaRow : OpenClaim := { program := "ytljjbffdenfngaadoor", sum := "09b84030dfb4f6e604db8795a4db95eae73dd3a65e7382041e5dd793171dfc4c", func := "loop.example/ltlcheck/laws.FnExactFormatFormula", spec := "fnExactFormatFormula", unfollowed := true, recurses := true, named := ["loop.example/ltlcheck/impl.formulaForms"], loops := true, apart := false, laid := [("loop.example/ltlcheck/impl.formulaForms", laid_loop_example_ltlcheck_impl_formulaForms)] }
def FnExactFormatFormulaSaid : Prop := fnExactFormatFormulaRow.holds Tryd.pinned (OpenSpec.ofChange fnExactFormatFormulaSpec)

/-- ITS FALSE NEIGHBOUR: 'it returns false'. Refute it at one input. -/
def fnExactFormatFormulaWrong : ChangeSpec := { name := "fnExactFormatFormula", vars := ["loop.example/ltlcheck/impl.formulaForms"], fn := fun _ => fun
  | [d, g1] => { results := [.lit (.bool false)], args := [d], vars := [g1] }
  | _ => none }
def FnExactFormatFormulaWrongFalsely : Prop := fnExactFormatFormulaRow.holds Tryd.pinned (OpenSpec.ofChange fnExactFormatFormulaWrong)

/-- 'laws.FnExactNegateFormula': WHATEVER THE INPUT: true; the input reads as it did. -/
def fnExactNegateFormulaSpec : ChangeSpec := { name := "fnExactNegateFormula", vars := ["loop.example/ltlcheck/impl.formulaForms"], fn := fun _ => fun
  | [d, g1] => { results := [.lit (.bool true)], args := [d], vars := [g1] }
  | _ => none }
def fnExactNegateFormulaRow : OpenClaim := { program := "ytljjbffdenfngaadoor", sum := "09b84030dfb4f6e604db8795a4db95eae73dd3a65e7382041e5dd793171dfc4c", func := "loop.example/ltlcheck/laws.FnExactNegateFormula", spec := "fnExactNegateFormula", unfollowed := true, recurses := true, named := ["loop.example/ltlcheck/impl.formulaForms"], loops := true, apart := false, laid := [("loop.example/ltlcheck/impl.formulaForms", laid_loop_example_ltlcheck_impl_formulaForms)] }
def FnExactNegateFormulaSaid : Prop := fnExactNegateFormulaRow.holds Tryd.pinned (OpenSpec.ofChange fnExactNegateFormulaSpec)

/-- ITS FALSE NEIGHBOUR: 'it returns false'. Refute it at one input. -/
def fnExactNegateFormulaWrong : ChangeSpec := { name := "fnExactNegateFormula", vars := ["loop.example/ltlcheck/impl.formulaForms"], fn := fun _ => fun
  | [d, g1] => { results := [.lit (.bool false)], args := [d], vars := [g1] }
  | _ => none }
def FnExactNegateFormulaWrongFalsely : Prop := fnExactNegateFormulaRow.holds Tryd.pinned (OpenSpec.ofChange fnExactNegateFormulaWrong)

/- THE SECOND FORM. 'bulk': how many values and letters a reading holds, each counted each time it is reached (what is shared counts as often as it is met; a slice's spare places count too). A statement '..UptoSaid' is the law's where the arguments, and the package variables that the reading takes, are together of bulk at most 1048576: NARROWER than '..Said'. Prove '..Said' where nothing that the law and all that it calls make is longer than what came in: it says more and counts as full. Else prove '..UptoSaid'. A law counts once. -/
mutual
def uptoBulk {H : Type} : DataW H → Nat
  | .lit (.string bytes) => bytes.length + 1
  | .lit _ => 1
  | .nil => 1
  | .ptr d => uptoBulk d + 1
  | .slice elems spare => uptoBulkAll elems + uptoBulkAll spare + 1
  | .agg parts => uptoBulkAll parts + 1
  | .iface _ d => uptoBulk d + 1
  | .map entries => uptoBulkEntries entries + 1
  | .held _ => 1
def uptoBulkAll {H : Type} : List (DataW H) → Nat
  | [] => 0
  | d :: r => uptoBulk d + uptoBulkAll r
def uptoBulkEntries {H : Type} : List (Lit × DataW H) → Nat
  | [] => 0
  | x :: r => uptoBulkEntry x + uptoBulkEntries r
def uptoBulkEntry {H : Type} : Lit × DataW H → Nat
  | (.string bytes, d) => bytes.length + uptoBulk d + 1
  | (_, d) => uptoBulk d + 1
 end
def uptoSmall : (H : Type) → List (DataW H) → Bool := fun _ ds => decide (uptoBulkAll ds ≤ 1048576)
def OpenSpec.upto (s : _root_.Go.ChangeSpec) : _root_.Go.OpenSpec := { _root_.Go.OpenSpec.ofChange s with cond := some uptoSmall }

/-- 'laws.FnExactFormulaValid', WHERE WHAT IT READS IS OF BULK AT MOST 1048576: true; the input reads as it did. -/
def fnExactFormulaValidUptoRow : OpenClaim := { program := "ytljjbffdenfngaadoor", sum := "09b84030dfb4f6e604db8795a4db95eae73dd3a65e7382041e5dd793171dfc4c", func := "loop.example/ltlcheck/laws.FnExactFormulaValid", spec := "fnExactFormulaValid", unfollowed := true, recurses := true, named := ["loop.example/ltlcheck/impl.formulaForms"], loops := true, apart := false, laid := [("loop.example/ltlcheck/impl.formulaForms", laid_loop_example_ltlcheck_impl_formulaForms)], narrowed := true }
def FnExactFormulaValidUptoSaid : Prop := fnExactFormulaValidUptoRow.holds Tryd.pinned (OpenSpec.upto fnExactFormulaValidSpec)

/-- 'laws.FnExactFormulaNodes', WHERE WHAT IT READS IS OF BULK AT MOST 1048576: true; the input reads as it did. -/
def fnExactFormulaNodesUptoRow : OpenClaim := { program := "ytljjbffdenfngaadoor", sum := "09b84030dfb4f6e604db8795a4db95eae73dd3a65e7382041e5dd793171dfc4c", func := "loop.example/ltlcheck/laws.FnExactFormulaNodes", spec := "fnExactFormulaNodes", unfollowed := true, recurses := true, named := ["loop.example/ltlcheck/impl.formulaForms"], loops := true, apart := false, laid := [("loop.example/ltlcheck/impl.formulaForms", laid_loop_example_ltlcheck_impl_formulaForms)], narrowed := true }
def FnExactFormulaNodesUptoSaid : Prop := fnExactFormulaNodesUptoRow.holds Tryd.pinned (OpenSpec.upto fnExactFormulaNodesSpec)

/-- 'laws.FnExactFormatFormula', WHERE WHAT IT READS IS OF BULK AT MOST 1048576: true; the input reads as it did. -/
def fnExactFormatFormulaUptoRow : OpenClaim := { program := "ytljjbffdenfngaadoor", sum := "09b84030dfb4f6e604db8795a4db95eae73dd3a65e7382041e5dd793171dfc4c", func := "loop.example/ltlcheck/laws.FnExactFormatFormula", spec := "fnExactFormatFormula", unfollowed := true, recurses := true, named := ["loop.example/ltlcheck/impl.formulaForms"], loops := true, apart := false, laid := [("loop.example/ltlcheck/impl.formulaForms", laid_loop_example_ltlcheck_impl_formulaForms)], narrowed := true }
def FnExactFormatFormulaUptoSaid : Prop := fnExactFormatFormulaUptoRow.holds Tryd.pinned (OpenSpec.upto fnExactFormatFormulaSpec)

/-- 'laws.FnExactNegateFormula', WHERE WHAT IT READS IS OF BULK AT MOST 1048576: true; the input reads as it did. -/
def fnExactNegateFormulaUptoRow : OpenClaim := { program := "ytljjbffdenfngaadoor", sum := "09b84030dfb4f6e604db8795a4db95eae73dd3a65e7382041e5dd793171dfc4c", func := "loop.example/ltlcheck/laws.FnExactNegateFormula", spec := "fnExactNegateFormula", unfollowed := true, recurses := true, named := ["loop.example/ltlcheck/impl.formulaForms"], loops := true, apart := false, laid := [("loop.example/ltlcheck/impl.formulaForms", laid_loop_example_ltlcheck_impl_formulaForms)], narrowed := true }
def FnExactNegateFormulaUptoSaid : Prop := fnExactNegateFormulaUptoRow.holds Tryd.pinned (OpenSpec.upto fnExactNegateFormulaSpec)

end Rows
end Go.Proofs.YtljjbffdenfngaaDoor
