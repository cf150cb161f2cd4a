/-
  NARROWER THAN 'FOR EVERY INPUT', by the rows' own cells (each row's printed sentence says how): FnFormulaNodes: laid · FnExactParseFormula: laid · FnExactNormalForm: loops, laid · FnExactSubformulas: loops, laid.
  DERIVED. THE GIVEN ROWS OF THIS SEAT. 4 by the template 'for every input the law returns true; each argument reads behind the call as it read before'; 0 by the template 'total and deterministic' (their statements: YthcohnceehndfaaDoorTotals.lean).
  GIVEN WITH THE SEED: the statements are not yours to turn. If you find one false, say at which input.
  Laid BY PROGRAM, IN A SANDBOX (cutbox-rows.mjs): the forced cells as the released guide's own fill.sh prints them over the translation 35f4db762033db60… (all of the seat's roots in one cut). By AI agents, Wed Nov 11 2026. No macro, syntax, notation, axiom, sorry.
-/
import Derived.Test.YthcohnceehndfaaDoorChecked
import GoSem.Claim
import GoSem.ClaimJoined
import GoSem.ClaimMapViews
import Derived.JoinedTies
import Derived.KernelRfl
namespace Go.Proofs.YthcohnceehndfaaDoor
/- THE CELL 'sum', in the pinned program and in every row, IS THE sha256 OF THE DUMP (.gsa) THAT YthcohnceehndfaaDoorProg.lean LOADS. Nothing in Lean hashes anything: it is a label: what it is worth is what the hold of that sum in a sandbox is worth. -/
noncomputable def Tryd.pinned : Pinned := { name := "ythcohnceehndfaadoor", sum := "35f4db762033db608132fce2e1b63134fcdf0f9fcfd6e325137680de3c5c6c2e", checked := Tryd.checked }
namespace Rows
def none {H : Type} : Left H := { results := [], args := [] }

/- WHAT THE LISTED PACKAGE-LEVEL VARIABLES READ AS WHEN THE CALL BEGINS. Each datum BY PROGRAM (the guide's laid-datum.mjs) off the statement by which the dump's own 'gosem.cut.vars' lays the variable. In a bare row this is a premise. The card (YthcohnceehndfaaDoorCards.lean) ties it to the program's text. -/
def laid_loop_example_ltlcheck_impl_formulaForms {H : Type} : DataW H := .agg [.agg [.lit (.int .i64 0), .lit (.string [])], .agg [.lit (.int .i64 0), .lit (.string [84])], .agg [.lit (.int .i64 0), .lit (.string [])], .agg [.lit (.int .i64 1), .lit (.string [33])], .agg [.lit (.int .i64 2), .lit (.string [38])], .agg [.lit (.int .i64 2), .lit (.string [124])], .agg [.lit (.int .i64 1), .lit (.string [88])], .agg [.lit (.int .i64 2), .lit (.string [85])], .agg [.lit (.int .i64 2), .lit (.string [82])], .agg [.lit (.int .i64 1), .lit (.string [70])], .agg [.lit (.int .i64 1), .lit (.string [71])]]

/-- 'laws.FnFormulaNodes': WHATEVER THE INPUT: true; the input reads as it did. -/
def fnFormulaNodesSpec : ChangeSpec := { name := "fnFormulaNodes", vars := ["loop.example/ltlcheck/impl.formulaForms"], fn := fun _ => fun
  | [d, g1] => { results := [.lit (.bool true)], args := [d], vars := [g1] }
  | _ => none }
def fnFormulaNodesRow : OpenClaim := { program := "ythcohnceehndfaadoor", sum := "35f4db762033db608132fce2e1b63134fcdf0f9fcfd6e325137680de3c5c6c2e", func := "loop.example/ltlcheck/laws.FnFormulaNodes", spec := "fnFormulaNodes", unfollowed := true, recurses := true, named := ["loop.example/ltlcheck/impl.formulaForms"], plainKeys := false, apart := false, laid := [("loop.example/ltlcheck/impl.formulaForms", laid_loop_example_ltlcheck_impl_formulaForms)] }
def FnFormulaNodesSaid : Prop := fnFormulaNodesRow.holds Tryd.pinned (OpenSpec.ofChange fnFormulaNodesSpec)

/-- ITS FALSE NEIGHBOUR: 'it returns false'. Refute it at one input. -/
def fnFormulaNodesWrong : ChangeSpec := { name := "fnFormulaNodes", vars := ["loop.example/ltlcheck/impl.formulaForms"], fn := fun _ => fun
  | [d, g1] => { results := [.lit (.bool false)], args := [d], vars := [g1] }
  | _ => none }
def FnFormulaNodesWrongFalsely : Prop := fnFormulaNodesRow.holds Tryd.pinned (OpenSpec.ofChange fnFormulaNodesWrong)

/-- 'laws.FnExactParseFormula': WHATEVER THE INPUT: true; the input reads as it did. -/
def fnExactParseFormulaSpec : ChangeSpec := { name := "fnExactParseFormula", vars := ["loop.example/ltlcheck/impl.formulaForms"], fn := fun _ => fun
  | [d, g1] => { results := [.lit (.bool true)], args := [d], vars := [g1] }
  | _ => none }
def fnExactParseFormulaRow : OpenClaim := { program := "ythcohnceehndfaadoor", sum := "35f4db762033db608132fce2e1b63134fcdf0f9fcfd6e325137680de3c5c6c2e", func := "loop.example/ltlcheck/laws.FnExactParseFormula", spec := "fnExactParseFormula", inPlace := ["internal/bytealg.IndexByteString", "internal/bytealg.IndexString"], unfollowed := true, recurses := true, named := ["loop.example/ltlcheck/impl.formulaForms", "internal/bytealg.MaxLen"], plainKeys := false, apart := false, laid := [("loop.example/ltlcheck/impl.formulaForms", laid_loop_example_ltlcheck_impl_formulaForms)] }
def FnExactParseFormulaSaid : Prop := fnExactParseFormulaRow.holds Tryd.pinned (OpenSpec.ofChange fnExactParseFormulaSpec)

/-- ITS FALSE NEIGHBOUR: 'it returns false'. Refute it at one input. -/
def fnExactParseFormulaWrong : ChangeSpec := { name := "fnExactParseFormula", vars := ["loop.example/ltlcheck/impl.formulaForms"], fn := fun _ => fun
  | [d, g1] => { results := [.lit (.bool false)], args := [d], vars := [g1] }
  | _ => none }
def FnExactParseFormulaWrongFalsely : Prop := fnExactParseFormulaRow.holds Tryd.pinned (OpenSpec.ofChange fnExactParseFormulaWrong)

/-- 'laws.FnExactNormalForm': WHATEVER THE INPUT: true; the input reads as it did. -/
def fnExactNormalFormSpec : ChangeSpec := { name := "fnExactNormalForm", vars := ["loop.example/ltlcheck/impl.formulaForms"], fn := fun _ => fun
  | [d, g1] => { results := [.lit (.bool true)], args := [d], vars := [g1] }
  | _ => none }
def fnExactNormalFormRow : OpenClaim := { program := "ythcohnceehndfaadoor", sum := "35f4db762033db608132fce2e1b63134fcdf0f9fcfd6e325137680de3c5c6c2e", func := "loop.example/ltlcheck/laws.FnExactNormalForm", spec := "fnExactNormalForm", unfollowed := true, recurses := true, named := ["loop.example/ltlcheck/impl.formulaForms"], loops := true, plainKeys := false, apart := false, laid := [("loop.example/ltlcheck/impl.formulaForms", laid_loop_example_ltlcheck_impl_formulaForms)] }
def FnExactNormalFormSaid : Prop := fnExactNormalFormRow.holds Tryd.pinned (OpenSpec.ofChange fnExactNormalFormSpec)

/-- ITS FALSE NEIGHBOUR: 'it returns false'. Refute it at one input. -/
def fnExactNormalFormWrong : ChangeSpec := { name := "fnExactNormalForm", vars := ["loop.example/ltlcheck/impl.formulaForms"], fn := fun _ => fun
  | [d, g1] => { results := [.lit (.bool false)], args := [d], vars := [g1] }
  | _ => none }
def FnExactNormalFormWrongFalsely : Prop := fnExactNormalFormRow.holds Tryd.pinned (OpenSpec.ofChange fnExactNormalFormWrong)

/-- 'laws.FnExactSubformulas': WHATEVER THE INPUT: true; the input reads as it did. -/
def fnExactSubformulasSpec : ChangeSpec := { name := "fnExactSubformulas", vars := ["loop.example/ltlcheck/impl.formulaForms"], fn := fun _ => fun
  | [d, g1] => { results := [.lit (.bool true)], args := [d], vars := [g1] }
  | _ => none }
def fnExactSubformulasRow : OpenClaim := { program := "ythcohnceehndfaadoor", sum := "35f4db762033db608132fce2e1b63134fcdf0f9fcfd6e325137680de3c5c6c2e", func := "loop.example/ltlcheck/laws.FnExactSubformulas", spec := "fnExactSubformulas", unfollowed := true, recurses := true, named := ["loop.example/ltlcheck/impl.formulaForms"], loops := true, plainKeys := false, apart := false, laid := [("loop.example/ltlcheck/impl.formulaForms", laid_loop_example_ltlcheck_impl_formulaForms)] }
def FnExactSubformulasSaid : Prop := fnExactSubformulasRow.holds Tryd.pinned (OpenSpec.ofChange fnExactSubformulasSpec)

/-- ITS FALSE NEIGHBOUR: 'it returns false'. Refute it at one input. -/
def fnExactSubformulasWrong : ChangeSpec := { name := "fnExactSubformulas", vars := ["loop.example/ltlcheck/impl.formulaForms"], fn := fun _ => fun
  | [d, g1] => { results := [.lit (.bool false)], args := [d], vars := [g1] }
  | _ => none }
def FnExactSubformulasWrongFalsely : Prop := fnExactSubformulasRow.holds Tryd.pinned (OpenSpec.ofChange fnExactSubformulasWrong)

/- THE SECOND FORM. 'bulk': how many values and letters a reading holds, each counted each time it is reached (what is shared counts as often as it is met; a slice's spare places count too). A statement '..UptoSaid' is the law's where the arguments, and the package variables that the reading takes, are together of bulk at most 1048576: NARROWER than '..Said'. Prove '..Said' where nothing that the law and all that it calls make is longer than what came in: it says more and counts as full. Else prove '..UptoSaid'. A law counts once. -/
mutual
def uptoBulk {H : Type} : DataW H → Nat
  | .lit (.string bytes) => bytes.length + 1
  | .lit _ => 1
  | .nil => 1
  | .ptr d => uptoBulk d + 1
  | .slice elems spare => uptoBulkAll elems + uptoBulkAll spare + 1
  | .agg parts => uptoBulkAll parts + 1
  | .iface _ d => uptoBulk d + 1
  | .map entries => uptoBulkEntries entries + 1
  | .held _ => 1
def uptoBulkAll {H : Type} : List (DataW H) → Nat
  | [] => 0
  | d :: r => uptoBulk d + uptoBulkAll r
def uptoBulkEntries {H : Type} : List (Lit × DataW H) → Nat
  | [] => 0
  | x :: r => uptoBulkEntry x + uptoBulkEntries r
def uptoBulkEntry {H : Type} : Lit × DataW H → Nat
  | (.string bytes, d) => bytes.length + uptoBulk d + 1
  | (_, d) => uptoBulk d + 1
 end
def uptoSmall : (H : Type) → List (DataW H) → Bool := fun _ ds => decide (uptoBulkAll ds ≤ 1048576)
def OpenSpec.upto (s : _root_.Go.ChangeSpec) : _root_.Go.OpenSpec := { _root_.Go.OpenSpec.ofChange s with cond := some uptoSmall }

/-- 'laws.FnFormulaNodes', WHERE WHAT IT READS IS OF BULK AT MOST 1048576: true; the input reads as it did. -/
def fnFormulaNodesUptoRow : OpenClaim := { program := "ythcohnceehndfaadoor", sum := "35f4db762033db608132fce2e1b63134fcdf0f9fcfd6e325137680de3c5c6c2e", func := "loop.example/ltlcheck/laws.FnFormulaNodes", spec := "fnFormulaNodes", unfollowed := true, recurses := true, named := ["loop.example/ltlcheck/impl.formulaForms"], plainKeys := false, apart := false, laid := [("loop.example/ltlcheck/impl.formulaForms", laid_loop_example_ltlcheck_impl_formulaForms)], narrowed := true }
def FnFormulaNodesUptoSaid : Prop := fnFormulaNodesUptoRow.holds Tryd.pinned (OpenSpec.upto fnFormulaNodesSpec)

/-- 'laws.FnExactParseFormula', WHERE WHAT IT READS IS OF BULK AT MOST 1048576: true; the input reads as it did. -/
def fnExactParseFormulaUptoRow : OpenClaim := { program := "ythcohnceehndfaadoor", sum := "35f4db762033db608132fce2e1b63134fcdf0f9fcfd6e325137680de3c5c6c2e", func := "loop.example/ltlcheck/laws.FnExactParseFormula", spec := "fnExactParseFormula", inPlace := ["internal/bytealg.IndexByteString", "internal/bytealg.IndexString"], unfollowed := true, recurses := true, named := ["loop.example/ltlcheck/impl.formulaForms", "internal/bytealg.MaxLen"], plainKeys := false, apart := false, laid := [("loop.example/ltlcheck/impl.formulaForms", laid_loop_example_ltlcheck_impl_formulaForms)], narrowed := true }
def FnExactParseFormulaUptoSaid : Prop := fnExactParseFormulaUptoRow.holds Tryd.pinned (OpenSpec.upto fnExactParseFormulaSpec)

/-- 'laws.FnExactNormalForm', WHERE WHAT IT READS IS OF BULK AT MOST 1048576: true; the input reads as it did. -/
def fnExactNormalFormUptoRow : OpenClaim := { program := "ythcohnceehndfaadoor", sum := "35f4db762033db608132fce2e1b63134fcdf0f9fcfd6e325137680de3c5c6c2e", func := "loop.example/ltlcheck/laws.FnExactNormalForm", spec := "fnExactNormalForm", unfollowed := true, recurses := true, named := ["loop.example/ltlcheck/impl.formulaForms"], loops := true, plainKeys := false, apart := false, laid := [("loop.example/ltlcheck/impl.formulaForms", laid_loop_example_ltlcheck_impl_formulaForms)], narrowed := true }
def FnExactNormalFormUptoSaid : Prop := fnExactNormalFormUptoRow.holds Tryd.pinned (OpenSpec.upto fnExactNormalFormSpec)

/-- 'laws.FnExactSubformulas', WHERE WHAT IT READS IS OF BULK AT MOST 1048576: true; the input reads as it did. -/
def fnExactSubformulasUptoRow : OpenClaim := { program := "ythcohnceehndfaadoor", sum := "35f4db762033db608132fce2e1b63134fcdf0f9fcfd6e325137680de3c5c6c2e", func := "loop.example/ltlcheck/laws.FnExactSubformulas", spec := "fnExactSubformulas", unfollowed := true, recurses := true, named := ["loop.example/ltlcheck/impl.formulaForms"], loops := true, plainKeys := false, apart := false, laid := [("loop.example/ltlcheck/impl.formulaForms", laid_loop_example_ltlcheck_impl_formulaForms)], narrowed := true }
def FnExactSubformulasUptoSaid : Prop := fnExactSubformulasUptoRow.holds Tryd.pinned (OpenSpec.upto fnExactSubformulasSpec)

end Rows
end Go.Proofs.YthcohnceehndfaaDoor
