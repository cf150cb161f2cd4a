/-
  NARROWER THAN 'FOR EVERY INPUT', by the rows' own cells (each row's printed sentence says how): FnExactSystemVars: loops · FnExactStepProcesses: loops · FnExactLabelGraph: loops · FnExactTraceWord: loops.
  DERIVED. THE GIVEN ROWS OF THIS SEAT. 5 by the template 'for every input the law returns true; each argument reads behind the call as it read before'; 0 by the template 'total and deterministic' (their statements: YtldnegacgjijlaaTotals.lean).
  GIVEN WITH THE SEED: the statements are not yours to turn. If you find one false, say at which input.
  Laid BY PROGRAM, IN A SANDBOX (cutbox-rows.mjs): the forced cells as the released guide's own fill.sh prints them over the translation 2b92ad69e3f22662… (all of the seat's roots in one cut). By AI agents, Wed Nov 11 2026. No macro, syntax, notation, axiom, sorry.
-/
import Derived.Test.YtldnegacgjijlaaChecked
import GoSem.Claim
import GoSem.ClaimJoined
import GoSem.ClaimMapViews
import Derived.JoinedTies
import Derived.KernelRfl
namespace Go.Proofs.Ytldnegacgjijlaa
/- THE CELL 'sum', in the pinned program and in every row, IS THE sha256 OF THE DUMP (.gsa) THAT YtldnegacgjijlaaProg.lean LOADS. Nothing in Lean hashes anything: it is a label: what it is worth is what the hold of that sum in a sandbox is worth. -/
noncomputable def Try.pinned : Pinned := { name := "ytldnegacgjijlaa", sum := "2b92ad69e3f22662050c2e3ae82f8bd20056d75f5f4dd5fff39d70262d3c9c26", checked := Try.checked }
namespace Rows
def none {H : Type} : Left H := { results := [], args := [] }

/-- 'laws.FnExactSystemVars': WHATEVER THE INPUT: true; the input reads as it did. -/
def fnExactSystemVarsSpec : ChangeSpec := { name := "fnExactSystemVars", fn := fun _ => fun
  | [d] => { results := [.lit (.bool true)], args := [d] }
  | _ => none }
def fnExactSystemVarsRow : OpenClaim := { program := "ytldnegacgjijlaa", sum := "2b92ad69e3f22662050c2e3ae82f8bd20056d75f5f4dd5fff39d70262d3c9c26", func := "loop.example/ltlcheck/laws.FnExactSystemVars", spec := "fnExactSystemVars", unfollowed := true, recurses := true, loops := true, apart := false }
def FnExactSystemVarsSaid : Prop := fnExactSystemVarsRow.holds Try.pinned (OpenSpec.ofChange fnExactSystemVarsSpec)

/-- ITS FALSE NEIGHBOUR: 'it returns false'. Refute it at one input. -/
def fnExactSystemVarsWrong : ChangeSpec := { name := "fnExactSystemVars", fn := fun _ => fun
  | [d] => { results := [.lit (.bool false)], args := [d] }
  | _ => none }
def FnExactSystemVarsWrongFalsely : Prop := fnExactSystemVarsRow.holds Try.pinned (OpenSpec.ofChange fnExactSystemVarsWrong)

/-- 'laws.FnExactStepProcesses': WHATEVER THE INPUT: true; the input reads as it did. -/
def fnExactStepProcessesSpec : ChangeSpec := { name := "fnExactStepProcesses", fn := fun _ => fun
  | [d1, d2] => { results := [.lit (.bool true)], args := [d1, d2] }
  | _ => none }
def fnExactStepProcessesRow : OpenClaim := { program := "ytldnegacgjijlaa", sum := "2b92ad69e3f22662050c2e3ae82f8bd20056d75f5f4dd5fff39d70262d3c9c26", func := "loop.example/ltlcheck/laws.FnExactStepProcesses", spec := "fnExactStepProcesses", unfollowed := true, recurses := true, loops := true, apart := false }
def FnExactStepProcessesSaid : Prop := fnExactStepProcessesRow.holds Try.pinned (OpenSpec.ofChange fnExactStepProcessesSpec)

/-- ITS FALSE NEIGHBOUR: 'it returns false'. Refute it at one input. -/
def fnExactStepProcessesWrong : ChangeSpec := { name := "fnExactStepProcesses", fn := fun _ => fun
  | [d1, d2] => { results := [.lit (.bool false)], args := [d1, d2] }
  | _ => none }
def FnExactStepProcessesWrongFalsely : Prop := fnExactStepProcessesRow.holds Try.pinned (OpenSpec.ofChange fnExactStepProcessesWrong)

/-- 'laws.FnExactUniteAutomata': WHATEVER THE INPUT: true; the input reads as it did. -/
def fnExactUniteAutomataSpec : ChangeSpec := { name := "fnExactUniteAutomata", fn := fun _ => fun
  | [d1, d2] => { results := [.lit (.bool true)], args := [d1, d2] }
  | _ => none }
def fnExactUniteAutomataRow : OpenClaim := { program := "ytldnegacgjijlaa", sum := "2b92ad69e3f22662050c2e3ae82f8bd20056d75f5f4dd5fff39d70262d3c9c26", func := "loop.example/ltlcheck/laws.FnExactUniteAutomata", spec := "fnExactUniteAutomata", apart := false }
def FnExactUniteAutomataSaid : Prop := fnExactUniteAutomataRow.holds Try.pinned (OpenSpec.ofChange fnExactUniteAutomataSpec)

/-- ITS FALSE NEIGHBOUR: 'it returns false'. Refute it at one input. -/
def fnExactUniteAutomataWrong : ChangeSpec := { name := "fnExactUniteAutomata", fn := fun _ => fun
  | [d1, d2] => { results := [.lit (.bool false)], args := [d1, d2] }
  | _ => none }
def FnExactUniteAutomataWrongFalsely : Prop := fnExactUniteAutomataRow.holds Try.pinned (OpenSpec.ofChange fnExactUniteAutomataWrong)

/-- 'laws.FnExactLabelGraph': WHATEVER THE INPUT: true; the input reads as it did. -/
def fnExactLabelGraphSpec : ChangeSpec := { name := "fnExactLabelGraph", fn := fun _ => fun
  | [d1, d2] => { results := [.lit (.bool true)], args := [d1, d2] }
  | _ => none }
def fnExactLabelGraphRow : OpenClaim := { program := "ytldnegacgjijlaa", sum := "2b92ad69e3f22662050c2e3ae82f8bd20056d75f5f4dd5fff39d70262d3c9c26", func := "loop.example/ltlcheck/laws.FnExactLabelGraph", spec := "fnExactLabelGraph", unfollowed := true, recurses := true, loops := true, apart := false }
def FnExactLabelGraphSaid : Prop := fnExactLabelGraphRow.holds Try.pinned (OpenSpec.ofChange fnExactLabelGraphSpec)

/-- ITS FALSE NEIGHBOUR: 'it returns false'. Refute it at one input. -/
def fnExactLabelGraphWrong : ChangeSpec := { name := "fnExactLabelGraph", fn := fun _ => fun
  | [d1, d2] => { results := [.lit (.bool false)], args := [d1, d2] }
  | _ => none }
def FnExactLabelGraphWrongFalsely : Prop := fnExactLabelGraphRow.holds Try.pinned (OpenSpec.ofChange fnExactLabelGraphWrong)

/-- 'laws.FnExactTraceWord': WHATEVER THE INPUT: true; the input reads as it did. -/
def fnExactTraceWordSpec : ChangeSpec := { name := "fnExactTraceWord", fn := fun _ => fun
  | [d1, d2, d3] => { results := [.lit (.bool true)], args := [d1, d2, d3] }
  | _ => none }
def fnExactTraceWordRow : OpenClaim := { program := "ytldnegacgjijlaa", sum := "2b92ad69e3f22662050c2e3ae82f8bd20056d75f5f4dd5fff39d70262d3c9c26", func := "loop.example/ltlcheck/laws.FnExactTraceWord", spec := "fnExactTraceWord", unfollowed := true, recurses := true, loops := true, apart := false }
def FnExactTraceWordSaid : Prop := fnExactTraceWordRow.holds Try.pinned (OpenSpec.ofChange fnExactTraceWordSpec)

/-- ITS FALSE NEIGHBOUR: 'it returns false'. Refute it at one input. -/
def fnExactTraceWordWrong : ChangeSpec := { name := "fnExactTraceWord", fn := fun _ => fun
  | [d1, d2, d3] => { results := [.lit (.bool false)], args := [d1, d2, d3] }
  | _ => none }
def FnExactTraceWordWrongFalsely : Prop := fnExactTraceWordRow.holds Try.pinned (OpenSpec.ofChange fnExactTraceWordWrong)

/- THE SECOND FORM. 'bulk': how many values and letters a reading holds, each counted each time it is reached (what is shared counts as often as it is met; a slice's spare places count too). A statement '..UptoSaid' is the law's where the arguments, and the package variables that the reading takes, are together of bulk at most 1048576: NARROWER than '..Said'. Prove '..Said' where nothing that the law and all that it calls make is longer than what came in: it says more and counts as full. Else prove '..UptoSaid'. A law counts once. -/
mutual
def uptoBulk {H : Type} : DataW H → Nat
  | .lit (.string bytes) => bytes.length + 1
  | .lit _ => 1
  | .nil => 1
  | .ptr d => uptoBulk d + 1
  | .slice elems spare => uptoBulkAll elems + uptoBulkAll spare + 1
  | .agg parts => uptoBulkAll parts + 1
  | .iface _ d => uptoBulk d + 1
  | .map entries => uptoBulkEntries entries + 1
  | .held _ => 1
def uptoBulkAll {H : Type} : List (DataW H) → Nat
  | [] => 0
  | d :: r => uptoBulk d + uptoBulkAll r
def uptoBulkEntries {H : Type} : List (Lit × DataW H) → Nat
  | [] => 0
  | x :: r => uptoBulkEntry x + uptoBulkEntries r
def uptoBulkEntry {H : Type} : Lit × DataW H → Nat
  | (.string bytes, d) => bytes.length + uptoBulk d + 1
  | (_, d) => uptoBulk d + 1
 end
def uptoSmall : (H : Type) → List (DataW H) → Bool := fun _ ds => decide (uptoBulkAll ds ≤ 1048576)
def OpenSpec.upto (s : _root_.Go.ChangeSpec) : _root_.Go.OpenSpec := { _root_.Go.OpenSpec.ofChange s with cond := some uptoSmall }

/-- 'laws.FnExactSystemVars', WHERE WHAT IT READS IS OF BULK AT MOST 1048576: true; the input reads as it did. -/
def fnExactSystemVarsUptoRow : OpenClaim := { program := "ytldnegacgjijlaa", sum := "2b92ad69e3f22662050c2e3ae82f8bd20056d75f5f4dd5fff39d70262d3c9c26", func := "loop.example/ltlcheck/laws.FnExactSystemVars", spec := "fnExactSystemVars", unfollowed := true, recurses := true, loops := true, apart := false, narrowed := true }
def FnExactSystemVarsUptoSaid : Prop := fnExactSystemVarsUptoRow.holds Try.pinned (OpenSpec.upto fnExactSystemVarsSpec)

/-- 'laws.FnExactStepProcesses', WHERE WHAT IT READS IS OF BULK AT MOST 1048576: true; the input reads as it did. -/
def fnExactStepProcessesUptoRow : OpenClaim := { program := "ytldnegacgjijlaa", sum := "2b92ad69e3f22662050c2e3ae82f8bd20056d75f5f4dd5fff39d70262d3c9c26", func := "loop.example/ltlcheck/laws.FnExactStepProcesses", spec := "fnExactStepProcesses", unfollowed := true, recurses := true, loops := true, apart := false, narrowed := true }
def FnExactStepProcessesUptoSaid : Prop := fnExactStepProcessesUptoRow.holds Try.pinned (OpenSpec.upto fnExactStepProcessesSpec)

/-- 'laws.FnExactUniteAutomata', WHERE WHAT IT READS IS OF BULK AT MOST 1048576: true; the input reads as it did. -/
def fnExactUniteAutomataUptoRow : OpenClaim := { program := "ytldnegacgjijlaa", sum := "2b92ad69e3f22662050c2e3ae82f8bd20056d75f5f4dd5fff39d70262d3c9c26", func := "loop.example/ltlcheck/laws.FnExactUniteAutomata", spec := "fnExactUniteAutomata", apart := false, narrowed := true }
def FnExactUniteAutomataUptoSaid : Prop := fnExactUniteAutomataUptoRow.holds Try.pinned (OpenSpec.upto fnExactUniteAutomataSpec)

/-- 'laws.FnExactLabelGraph', WHERE WHAT IT READS IS OF BULK AT MOST 1048576: true; the input reads as it did. -/
def fnExactLabelGraphUptoRow : OpenClaim := { program := "ytldnegacgjijlaa", sum := "2b92ad69e3f22662050c2e3ae82f8bd20056d75f5f4dd5fff39d70262d3c9c26", func := "loop.example/ltlcheck/laws.FnExactLabelGraph", spec := "fnExactLabelGraph", unfollowed := true, recurses := true, loops := true, apart := false, narrowed := true }
def FnExactLabelGraphUptoSaid : Prop := fnExactLabelGraphUptoRow.holds Try.pinned (OpenSpec.upto fnExactLabelGraphSpec)

/-- 'laws.FnExactTraceWord', WHERE WHAT IT READS IS OF BULK AT MOST 1048576: true; the input reads as it did. -/
def fnExactTraceWordUptoRow : OpenClaim := { program := "ytldnegacgjijlaa", sum := "2b92ad69e3f22662050c2e3ae82f8bd20056d75f5f4dd5fff39d70262d3c9c26", func := "loop.example/ltlcheck/laws.FnExactTraceWord", spec := "fnExactTraceWord", unfollowed := true, recurses := true, loops := true, apart := false, narrowed := true }
def FnExactTraceWordUptoSaid : Prop := fnExactTraceWordUptoRow.holds Try.pinned (OpenSpec.upto fnExactTraceWordSpec)

end Rows
end Go.Proofs.Ytldnegacgjijlaa
