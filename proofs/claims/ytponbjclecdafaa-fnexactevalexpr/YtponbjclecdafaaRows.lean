/-
  NARROWER THAN 'FOR EVERY INPUT', by the rows' own cells (each row's printed sentence says how): FnExactLabelGraph: loops · FnExactTraceWord: loops · FnExactEvalExpr: loops · FnExactExprVars: loops · FnExactSystemReach: loops · FnExactStepProcesses: loops.
  DERIVED. THE GIVEN ROWS OF THIS SEAT. 7 by the template 'for every input the law returns true; each argument reads behind the call as it read before'; 0 by the template 'total and deterministic' (their statements: YtponbjclecdafaaTotals.lean).
  GIVEN WITH THE SEED: the statements are not yours to turn. If you find one false, say at which input.
  Laid BY PROGRAM, IN A SANDBOX (cutbox-rows.mjs): the forced cells as the released guide's own fill.sh prints them over the translation 932031c56b16ff62… (all of the seat's roots in one cut). By AI agents, Wed Nov 11 2026. No macro, syntax, notation, axiom, sorry.
-/
import Derived.Test.YtponbjclecdafaaChecked
import GoSem.Claim
import GoSem.ClaimJoined
import GoSem.ClaimMapViews
import Derived.JoinedTies
import Derived.KernelRfl
namespace Go.Proofs.Ytponbjclecdafaa
/- THE CELL 'sum', in the pinned program and in every row, IS THE sha256 OF THE DUMP (.gsa) THAT YtponbjclecdafaaProg.lean LOADS. Nothing in Lean hashes anything: it is a label: what it is worth is what the hold of that sum in a sandbox is worth. -/
noncomputable def Try.pinned : Pinned := { name := "ytponbjclecdafaa", sum := "932031c56b16ff62ec2feebe734966ef4328443b49fd5103fdcf948ae5c4dde7", checked := Try.checked }
namespace Rows
def none {H : Type} : Left H := { results := [], args := [] }

/-- 'laws.FnExactLabelGraph': WHATEVER THE INPUT: true; the input reads as it did. -/
def fnExactLabelGraphSpec : ChangeSpec := { name := "fnExactLabelGraph", fn := fun _ => fun
  | [d1, d2] => { results := [.lit (.bool true)], args := [d1, d2] }
  | _ => none }
def fnExactLabelGraphRow : OpenClaim := { program := "ytponbjclecdafaa", sum := "932031c56b16ff62ec2feebe734966ef4328443b49fd5103fdcf948ae5c4dde7", func := "loop.example/ltlcheck/laws.FnExactLabelGraph", spec := "fnExactLabelGraph", unfollowed := true, recurses := true, loops := true, apart := false }
def FnExactLabelGraphSaid : Prop := fnExactLabelGraphRow.holds Try.pinned (OpenSpec.ofChange fnExactLabelGraphSpec)

/-- ITS FALSE NEIGHBOUR: 'it returns false'. Refute it at one input. -/
def fnExactLabelGraphWrong : ChangeSpec := { name := "fnExactLabelGraph", fn := fun _ => fun
  | [d1, d2] => { results := [.lit (.bool false)], args := [d1, d2] }
  | _ => none }
def FnExactLabelGraphWrongFalsely : Prop := fnExactLabelGraphRow.holds Try.pinned (OpenSpec.ofChange fnExactLabelGraphWrong)

/-- 'laws.FnExactTraceWord': WHATEVER THE INPUT: true; the input reads as it did. -/
def fnExactTraceWordSpec : ChangeSpec := { name := "fnExactTraceWord", fn := fun _ => fun
  | [d1, d2, d3] => { results := [.lit (.bool true)], args := [d1, d2, d3] }
  | _ => none }
def fnExactTraceWordRow : OpenClaim := { program := "ytponbjclecdafaa", sum := "932031c56b16ff62ec2feebe734966ef4328443b49fd5103fdcf948ae5c4dde7", func := "loop.example/ltlcheck/laws.FnExactTraceWord", spec := "fnExactTraceWord", unfollowed := true, recurses := true, loops := true, apart := false }
def FnExactTraceWordSaid : Prop := fnExactTraceWordRow.holds Try.pinned (OpenSpec.ofChange fnExactTraceWordSpec)

/-- ITS FALSE NEIGHBOUR: 'it returns false'. Refute it at one input. -/
def fnExactTraceWordWrong : ChangeSpec := { name := "fnExactTraceWord", fn := fun _ => fun
  | [d1, d2, d3] => { results := [.lit (.bool false)], args := [d1, d2, d3] }
  | _ => none }
def FnExactTraceWordWrongFalsely : Prop := fnExactTraceWordRow.holds Try.pinned (OpenSpec.ofChange fnExactTraceWordWrong)

/-- 'laws.FnExactEvalExpr': WHATEVER THE INPUT: true; the input reads as it did. -/
def fnExactEvalExprSpec : ChangeSpec := { name := "fnExactEvalExpr", fn := fun _ => fun
  | [d1, d2] => { results := [.lit (.bool true)], args := [d1, d2] }
  | _ => none }
def fnExactEvalExprRow : OpenClaim := { program := "ytponbjclecdafaa", sum := "932031c56b16ff62ec2feebe734966ef4328443b49fd5103fdcf948ae5c4dde7", func := "loop.example/ltlcheck/laws.FnExactEvalExpr", spec := "fnExactEvalExpr", unfollowed := true, recurses := true, loops := true, apart := false }
def FnExactEvalExprSaid : Prop := fnExactEvalExprRow.holds Try.pinned (OpenSpec.ofChange fnExactEvalExprSpec)

/-- ITS FALSE NEIGHBOUR: 'it returns false'. Refute it at one input. -/
def fnExactEvalExprWrong : ChangeSpec := { name := "fnExactEvalExpr", fn := fun _ => fun
  | [d1, d2] => { results := [.lit (.bool false)], args := [d1, d2] }
  | _ => none }
def FnExactEvalExprWrongFalsely : Prop := fnExactEvalExprRow.holds Try.pinned (OpenSpec.ofChange fnExactEvalExprWrong)

/-- 'laws.FnExactExprVars': WHATEVER THE INPUT: true; the input reads as it did. -/
def fnExactExprVarsSpec : ChangeSpec := { name := "fnExactExprVars", fn := fun _ => fun
  | [d] => { results := [.lit (.bool true)], args := [d] }
  | _ => none }
def fnExactExprVarsRow : OpenClaim := { program := "ytponbjclecdafaa", sum := "932031c56b16ff62ec2feebe734966ef4328443b49fd5103fdcf948ae5c4dde7", func := "loop.example/ltlcheck/laws.FnExactExprVars", spec := "fnExactExprVars", unfollowed := true, recurses := true, loops := true, apart := false }
def FnExactExprVarsSaid : Prop := fnExactExprVarsRow.holds Try.pinned (OpenSpec.ofChange fnExactExprVarsSpec)

/-- ITS FALSE NEIGHBOUR: 'it returns false'. Refute it at one input. -/
def fnExactExprVarsWrong : ChangeSpec := { name := "fnExactExprVars", fn := fun _ => fun
  | [d] => { results := [.lit (.bool false)], args := [d] }
  | _ => none }
def FnExactExprVarsWrongFalsely : Prop := fnExactExprVarsRow.holds Try.pinned (OpenSpec.ofChange fnExactExprVarsWrong)

/-- 'laws.FnExactUniteAutomata': WHATEVER THE INPUT: true; the input reads as it did. -/
def fnExactUniteAutomataSpec : ChangeSpec := { name := "fnExactUniteAutomata", fn := fun _ => fun
  | [d1, d2] => { results := [.lit (.bool true)], args := [d1, d2] }
  | _ => none }
def fnExactUniteAutomataRow : OpenClaim := { program := "ytponbjclecdafaa", sum := "932031c56b16ff62ec2feebe734966ef4328443b49fd5103fdcf948ae5c4dde7", func := "loop.example/ltlcheck/laws.FnExactUniteAutomata", spec := "fnExactUniteAutomata", apart := false }
def FnExactUniteAutomataSaid : Prop := fnExactUniteAutomataRow.holds Try.pinned (OpenSpec.ofChange fnExactUniteAutomataSpec)

/-- ITS FALSE NEIGHBOUR: 'it returns false'. Refute it at one input. -/
def fnExactUniteAutomataWrong : ChangeSpec := { name := "fnExactUniteAutomata", fn := fun _ => fun
  | [d1, d2] => { results := [.lit (.bool false)], args := [d1, d2] }
  | _ => none }
def FnExactUniteAutomataWrongFalsely : Prop := fnExactUniteAutomataRow.holds Try.pinned (OpenSpec.ofChange fnExactUniteAutomataWrong)

/-- 'laws.FnExactSystemReach': WHATEVER THE INPUT: true; the input reads as it did. -/
def fnExactSystemReachSpec : ChangeSpec := { name := "fnExactSystemReach", fn := fun _ => fun
  | [d1, d2] => { results := [.lit (.bool true)], args := [d1, d2] }
  | _ => none }
def fnExactSystemReachRow : OpenClaim := { program := "ytponbjclecdafaa", sum := "932031c56b16ff62ec2feebe734966ef4328443b49fd5103fdcf948ae5c4dde7", func := "loop.example/ltlcheck/laws.FnExactSystemReach", spec := "fnExactSystemReach", unfollowed := true, recurses := true, loops := true, apart := false }
def FnExactSystemReachSaid : Prop := fnExactSystemReachRow.holds Try.pinned (OpenSpec.ofChange fnExactSystemReachSpec)

/-- ITS FALSE NEIGHBOUR: 'it returns false'. Refute it at one input. -/
def fnExactSystemReachWrong : ChangeSpec := { name := "fnExactSystemReach", fn := fun _ => fun
  | [d1, d2] => { results := [.lit (.bool false)], args := [d1, d2] }
  | _ => none }
def FnExactSystemReachWrongFalsely : Prop := fnExactSystemReachRow.holds Try.pinned (OpenSpec.ofChange fnExactSystemReachWrong)

/-- 'laws.FnExactStepProcesses': WHATEVER THE INPUT: true; the input reads as it did. -/
def fnExactStepProcessesSpec : ChangeSpec := { name := "fnExactStepProcesses", fn := fun _ => fun
  | [d1, d2] => { results := [.lit (.bool true)], args := [d1, d2] }
  | _ => none }
def fnExactStepProcessesRow : OpenClaim := { program := "ytponbjclecdafaa", sum := "932031c56b16ff62ec2feebe734966ef4328443b49fd5103fdcf948ae5c4dde7", func := "loop.example/ltlcheck/laws.FnExactStepProcesses", spec := "fnExactStepProcesses", unfollowed := true, recurses := true, loops := true, apart := false }
def FnExactStepProcessesSaid : Prop := fnExactStepProcessesRow.holds Try.pinned (OpenSpec.ofChange fnExactStepProcessesSpec)

/-- ITS FALSE NEIGHBOUR: 'it returns false'. Refute it at one input. -/
def fnExactStepProcessesWrong : ChangeSpec := { name := "fnExactStepProcesses", fn := fun _ => fun
  | [d1, d2] => { results := [.lit (.bool false)], args := [d1, d2] }
  | _ => none }
def FnExactStepProcessesWrongFalsely : Prop := fnExactStepProcessesRow.holds Try.pinned (OpenSpec.ofChange fnExactStepProcessesWrong)

/- THE SECOND FORM. 'bulk': how many values and letters a reading holds, each counted each time it is reached (what is shared counts as often as it is met; a slice's spare places count too). A statement '..UptoSaid' is the law's where the arguments, and the package variables that the reading takes, are together of bulk at most 1048576: NARROWER than '..Said'. Prove '..Said' where nothing that the law and all that it calls make is longer than what came in: it says more and counts as full. Else prove '..UptoSaid'. A law counts once. -/
mutual
def uptoBulk {H : Type} : DataW H → Nat
  | .lit (.string bytes) => bytes.length + 1
  | .lit _ => 1
  | .nil => 1
  | .ptr d => uptoBulk d + 1
  | .slice elems spare => uptoBulkAll elems + uptoBulkAll spare + 1
  | .agg parts => uptoBulkAll parts + 1
  | .iface _ d => uptoBulk d + 1
  | .map entries => uptoBulkEntries entries + 1
  | .held _ => 1
def uptoBulkAll {H : Type} : List (DataW H) → Nat
  | [] => 0
  | d :: r => uptoBulk d + uptoBulkAll r
def uptoBulkEntries {H : Type} : List (Lit × DataW H) → Nat
  | [] => 0
  | x :: r => uptoBulkEntry x + uptoBulkEntries r
def uptoBulkEntry {H : Type} : Lit × DataW H → Nat
  | (.string bytes, d) => bytes.length + uptoBulk d + 1
  | (_, d) => uptoBulk d + 1
 end
def uptoSmall : (H : Type) → List (DataW H) → Bool := fun _ ds => decide (uptoBulkAll ds ≤ 1048576)
def OpenSpec.upto (s : _root_.Go.ChangeSpec) : _root_.Go.OpenSpec := { _root_.Go.OpenSpec.ofChange s with cond := some uptoSmall }

/-- 'laws.FnExactLabelGraph', WHERE WHAT IT READS IS OF BULK AT MOST 1048576: true; the input reads as it did. -/
def fnExactLabelGraphUptoRow : OpenClaim := { program := "ytponbjclecdafaa", sum := "932031c56b16ff62ec2feebe734966ef4328443b49fd5103fdcf948ae5c4dde7", func := "loop.example/ltlcheck/laws.FnExactLabelGraph", spec := "fnExactLabelGraph", unfollowed := true, recurses := true, loops := true, apart := false, narrowed := true }
def FnExactLabelGraphUptoSaid : Prop := fnExactLabelGraphUptoRow.holds Try.pinned (OpenSpec.upto fnExactLabelGraphSpec)

/-- 'laws.FnExactTraceWord', WHERE WHAT IT READS IS OF BULK AT MOST 1048576: true; the input reads as it did. -/
def fnExactTraceWordUptoRow : OpenClaim := { program := "ytponbjclecdafaa", sum := "932031c56b16ff62ec2feebe734966ef4328443b49fd5103fdcf948ae5c4dde7", func := "loop.example/ltlcheck/laws.FnExactTraceWord", spec := "fnExactTraceWord", unfollowed := true, recurses := true, loops := true, apart := false, narrowed := true }
def FnExactTraceWordUptoSaid : Prop := fnExactTraceWordUptoRow.holds Try.pinned (OpenSpec.upto fnExactTraceWordSpec)

/-- 'laws.FnExactEvalExpr', WHERE WHAT IT READS IS OF BULK AT MOST 1048576: true; the input reads as it did. -/
def fnExactEvalExprUptoRow : OpenClaim := { program := "ytponbjclecdafaa", sum := "932031c56b16ff62ec2feebe734966ef4328443b49fd5103fdcf948ae5c4dde7", func := "loop.example/ltlcheck/laws.FnExactEvalExpr", spec := "fnExactEvalExpr", unfollowed := true, recurses := true, loops := true, apart := false, narrowed := true }
def FnExactEvalExprUptoSaid : Prop := fnExactEvalExprUptoRow.holds Try.pinned (OpenSpec.upto fnExactEvalExprSpec)

/-- 'laws.FnExactExprVars', WHERE WHAT IT READS IS OF BULK AT MOST 1048576: true; the input reads as it did. -/
def fnExactExprVarsUptoRow : OpenClaim := { program := "ytponbjclecdafaa", sum := "932031c56b16ff62ec2feebe734966ef4328443b49fd5103fdcf948ae5c4dde7", func := "loop.example/ltlcheck/laws.FnExactExprVars", spec := "fnExactExprVars", unfollowed := true, recurses := true, loops := true, apart := false, narrowed := true }
def FnExactExprVarsUptoSaid : Prop := fnExactExprVarsUptoRow.holds Try.pinned (OpenSpec.upto fnExactExprVarsSpec)

/-- 'laws.FnExactUniteAutomata', WHERE WHAT IT READS IS OF BULK AT MOST 1048576: true; the input reads as it did. -/
def fnExactUniteAutomataUptoRow : OpenClaim := { program := "ytponbjclecdafaa", sum := "932031c56b16ff62ec2feebe734966ef4328443b49fd5103fdcf948ae5c4dde7", func := "loop.example/ltlcheck/laws.FnExactUniteAutomata", spec := "fnExactUniteAutomata", apart := false, narrowed := true }
def FnExactUniteAutomataUptoSaid : Prop := fnExactUniteAutomataUptoRow.holds Try.pinned (OpenSpec.upto fnExactUniteAutomataSpec)

/-- 'laws.FnExactSystemReach', WHERE WHAT IT READS IS OF BULK AT MOST 1048576: true; the input reads as it did. -/
def fnExactSystemReachUptoRow : OpenClaim := { program := "ytponbjclecdafaa", sum := "932031c56b16ff62ec2feebe734966ef4328443b49fd5103fdcf948ae5c4dde7", func := "loop.example/ltlcheck/laws.FnExactSystemReach", spec := "fnExactSystemReach", unfollowed := true, recurses := true, loops := true, apart := false, narrowed := true }
def FnExactSystemReachUptoSaid : Prop := fnExactSystemReachUptoRow.holds Try.pinned (OpenSpec.upto fnExactSystemReachSpec)

/-- 'laws.FnExactStepProcesses', WHERE WHAT IT READS IS OF BULK AT MOST 1048576: true; the input reads as it did. -/
def fnExactStepProcessesUptoRow : OpenClaim := { program := "ytponbjclecdafaa", sum := "932031c56b16ff62ec2feebe734966ef4328443b49fd5103fdcf948ae5c4dde7", func := "loop.example/ltlcheck/laws.FnExactStepProcesses", spec := "fnExactStepProcesses", unfollowed := true, recurses := true, loops := true, apart := false, narrowed := true }
def FnExactStepProcessesUptoSaid : Prop := fnExactStepProcessesUptoRow.holds Try.pinned (OpenSpec.upto fnExactStepProcessesSpec)

end Rows
end Go.Proofs.Ytponbjclecdafaa
