/-
  NARROWER THAN 'FOR EVERY INPUT', by the rows' own cells (each row's printed sentence says how): FnExactParseState: loops · FnExactIsDeadlock: loops · FnExactEnabledSteps: loops · FnExactApplyStep: loops.
  DERIVED. THE GIVEN ROWS OF THIS SEAT. 10 by the template 'for every input the law returns true; each argument reads behind the call as it read before'; 0 by the template 'total and deterministic' (their statements: YtanmlgnjgbdjiaaTotals.lean).
  GIVEN WITH THE SEED: the statements are not yours to turn. If you find one false, say at which input.
  Laid BY PROGRAM, IN A SANDBOX (cutbox-rows.mjs): the forced cells as the released guide's own fill.sh prints them over the translation 0557935eb9a28866… (all of the seat's roots in one cut). By AI agents, Wed Nov 11 2026. No macro, syntax, notation, axiom, sorry.
-/
import Derived.Test.YtanmlgnjgbdjiaaChecked
import GoSem.Claim
import GoSem.ClaimJoined
import GoSem.ClaimMapViews
import Derived.JoinedTies
import Derived.KernelRfl
namespace Go.Proofs.Ytanmlgnjgbdjiaa
/- THE CELL 'sum', in the pinned program and in every row, IS THE sha256 OF THE DUMP (.gsa) THAT YtanmlgnjgbdjiaaProg.lean LOADS. Nothing in Lean hashes anything: it is a label: what it is worth is what the hold of that sum in a sandbox is worth. -/
noncomputable def Try.pinned : Pinned := { name := "ytanmlgnjgbdjiaa", sum := "0557935eb9a28866b9342f86422964d667f4d93c8916cb1e1121feef75b95d49", checked := Try.checked }
namespace Rows
def none {H : Type} : Left H := { results := [], args := [] }

/-- 'laws.FnExactParseState': WHATEVER THE INPUT: true; the input reads as it did. -/
def fnExactParseStateSpec : ChangeSpec := { name := "fnExactParseState", fn := fun _ => fun
  | [d1, d2] => { results := [.lit (.bool true)], args := [d1, d2] }
  | _ => none }
def fnExactParseStateRow : OpenClaim := { program := "ytanmlgnjgbdjiaa", sum := "0557935eb9a28866b9342f86422964d667f4d93c8916cb1e1121feef75b95d49", func := "loop.example/ltlcheck/laws.FnExactParseState", spec := "fnExactParseState", inPlace := ["internal/bytealg.IndexByteString", "internal/bytealg.IndexString"], recurses := true, named := ["internal/bytealg.MaxLen"], loops := true, plainKeys := false, apart := false }
def FnExactParseStateSaid : Prop := fnExactParseStateRow.holds Try.pinned (OpenSpec.ofChange fnExactParseStateSpec)

/-- ITS FALSE NEIGHBOUR: 'it returns false'. Refute it at one input. -/
def fnExactParseStateWrong : ChangeSpec := { name := "fnExactParseState", fn := fun _ => fun
  | [d1, d2] => { results := [.lit (.bool false)], args := [d1, d2] }
  | _ => none }
def FnExactParseStateWrongFalsely : Prop := fnExactParseStateRow.holds Try.pinned (OpenSpec.ofChange fnExactParseStateWrong)

/-- 'laws.FnExactIsDeadlock': WHATEVER THE INPUT: true; the input reads as it did. -/
def fnExactIsDeadlockSpec : ChangeSpec := { name := "fnExactIsDeadlock", fn := fun _ => fun
  | [d1, d2] => { results := [.lit (.bool true)], args := [d1, d2] }
  | _ => none }
def fnExactIsDeadlockRow : OpenClaim := { program := "ytanmlgnjgbdjiaa", sum := "0557935eb9a28866b9342f86422964d667f4d93c8916cb1e1121feef75b95d49", func := "loop.example/ltlcheck/laws.FnExactIsDeadlock", spec := "fnExactIsDeadlock", unfollowed := true, recurses := true, loops := true, plainKeys := false, apart := false }
def FnExactIsDeadlockSaid : Prop := fnExactIsDeadlockRow.holds Try.pinned (OpenSpec.ofChange fnExactIsDeadlockSpec)

/-- ITS FALSE NEIGHBOUR: 'it returns false'. Refute it at one input. -/
def fnExactIsDeadlockWrong : ChangeSpec := { name := "fnExactIsDeadlock", fn := fun _ => fun
  | [d1, d2] => { results := [.lit (.bool false)], args := [d1, d2] }
  | _ => none }
def FnExactIsDeadlockWrongFalsely : Prop := fnExactIsDeadlockRow.holds Try.pinned (OpenSpec.ofChange fnExactIsDeadlockWrong)

/-- 'laws.FnExactEnabledSteps': WHATEVER THE INPUT: true; the input reads as it did. -/
def fnExactEnabledStepsSpec : ChangeSpec := { name := "fnExactEnabledSteps", fn := fun _ => fun
  | [d1, d2] => { results := [.lit (.bool true)], args := [d1, d2] }
  | _ => none }
def fnExactEnabledStepsRow : OpenClaim := { program := "ytanmlgnjgbdjiaa", sum := "0557935eb9a28866b9342f86422964d667f4d93c8916cb1e1121feef75b95d49", func := "loop.example/ltlcheck/laws.FnExactEnabledSteps", spec := "fnExactEnabledSteps", unfollowed := true, recurses := true, loops := true, plainKeys := false, apart := false }
def FnExactEnabledStepsSaid : Prop := fnExactEnabledStepsRow.holds Try.pinned (OpenSpec.ofChange fnExactEnabledStepsSpec)

/-- ITS FALSE NEIGHBOUR: 'it returns false'. Refute it at one input. -/
def fnExactEnabledStepsWrong : ChangeSpec := { name := "fnExactEnabledSteps", fn := fun _ => fun
  | [d1, d2] => { results := [.lit (.bool false)], args := [d1, d2] }
  | _ => none }
def FnExactEnabledStepsWrongFalsely : Prop := fnExactEnabledStepsRow.holds Try.pinned (OpenSpec.ofChange fnExactEnabledStepsWrong)

/-- 'laws.FnExactApplyStep': WHATEVER THE INPUT: true; the input reads as it did. -/
def fnExactApplyStepSpec : ChangeSpec := { name := "fnExactApplyStep", fn := fun _ => fun
  | [d1, d2, d3] => { results := [.lit (.bool true)], args := [d1, d2, d3] }
  | _ => none }
def fnExactApplyStepRow : OpenClaim := { program := "ytanmlgnjgbdjiaa", sum := "0557935eb9a28866b9342f86422964d667f4d93c8916cb1e1121feef75b95d49", func := "loop.example/ltlcheck/laws.FnExactApplyStep", spec := "fnExactApplyStep", unfollowed := true, recurses := true, loops := true, plainKeys := false, apart := false }
def FnExactApplyStepSaid : Prop := fnExactApplyStepRow.holds Try.pinned (OpenSpec.ofChange fnExactApplyStepSpec)

/-- ITS FALSE NEIGHBOUR: 'it returns false'. Refute it at one input. -/
def fnExactApplyStepWrong : ChangeSpec := { name := "fnExactApplyStep", fn := fun _ => fun
  | [d1, d2, d3] => { results := [.lit (.bool false)], args := [d1, d2, d3] }
  | _ => none }
def FnExactApplyStepWrongFalsely : Prop := fnExactApplyStepRow.holds Try.pinned (OpenSpec.ofChange fnExactApplyStepWrong)

/-- 'laws.FnStepProcesses': WHATEVER THE INPUT: true; the input reads as it did. -/
def fnStepProcessesSpec : ChangeSpec := { name := "fnStepProcesses", fn := fun _ => fun
  | [d] => { results := [.lit (.bool true)], args := [d] }
  | _ => none }
def fnStepProcessesRow : OpenClaim := { program := "ytanmlgnjgbdjiaa", sum := "0557935eb9a28866b9342f86422964d667f4d93c8916cb1e1121feef75b95d49", func := "loop.example/ltlcheck/laws.FnStepProcesses", spec := "fnStepProcesses", recurses := true, plainKeys := false, apart := false }
def FnStepProcessesSaid : Prop := fnStepProcessesRow.holds Try.pinned (OpenSpec.ofChange fnStepProcessesSpec)

/-- ITS FALSE NEIGHBOUR: 'it returns false'. Refute it at one input. -/
def fnStepProcessesWrong : ChangeSpec := { name := "fnStepProcesses", fn := fun _ => fun
  | [d] => { results := [.lit (.bool false)], args := [d] }
  | _ => none }
def FnStepProcessesWrongFalsely : Prop := fnStepProcessesRow.holds Try.pinned (OpenSpec.ofChange fnStepProcessesWrong)

/-- 'laws.FnEnabledSteps': WHATEVER THE INPUT: true; the input reads as it did. -/
def fnEnabledStepsSpec : ChangeSpec := { name := "fnEnabledSteps", fn := fun _ => fun
  | [d] => { results := [.lit (.bool true)], args := [d] }
  | _ => none }
def fnEnabledStepsRow : OpenClaim := { program := "ytanmlgnjgbdjiaa", sum := "0557935eb9a28866b9342f86422964d667f4d93c8916cb1e1121feef75b95d49", func := "loop.example/ltlcheck/laws.FnEnabledSteps", spec := "fnEnabledSteps", unfollowed := true, recurses := true, plainKeys := false, apart := false }
def FnEnabledStepsSaid : Prop := fnEnabledStepsRow.holds Try.pinned (OpenSpec.ofChange fnEnabledStepsSpec)

/-- ITS FALSE NEIGHBOUR: 'it returns false'. Refute it at one input. -/
def fnEnabledStepsWrong : ChangeSpec := { name := "fnEnabledSteps", fn := fun _ => fun
  | [d] => { results := [.lit (.bool false)], args := [d] }
  | _ => none }
def FnEnabledStepsWrongFalsely : Prop := fnEnabledStepsRow.holds Try.pinned (OpenSpec.ofChange fnEnabledStepsWrong)

/-- 'laws.FnSystemValid': WHATEVER THE INPUT: true; the input reads as it did. -/
def fnSystemValidSpec : ChangeSpec := { name := "fnSystemValid", fn := fun _ => fun
  | [d] => { results := [.lit (.bool true)], args := [d] }
  | _ => none }
def fnSystemValidRow : OpenClaim := { program := "ytanmlgnjgbdjiaa", sum := "0557935eb9a28866b9342f86422964d667f4d93c8916cb1e1121feef75b95d49", func := "loop.example/ltlcheck/laws.FnSystemValid", spec := "fnSystemValid", recurses := true, plainKeys := false, apart := false }
def FnSystemValidSaid : Prop := fnSystemValidRow.holds Try.pinned (OpenSpec.ofChange fnSystemValidSpec)

/-- ITS FALSE NEIGHBOUR: 'it returns false'. Refute it at one input. -/
def fnSystemValidWrong : ChangeSpec := { name := "fnSystemValid", fn := fun _ => fun
  | [d] => { results := [.lit (.bool false)], args := [d] }
  | _ => none }
def FnSystemValidWrongFalsely : Prop := fnSystemValidRow.holds Try.pinned (OpenSpec.ofChange fnSystemValidWrong)

/-- 'laws.FnSystemVars': WHATEVER THE INPUT: true; the input reads as it did. -/
def fnSystemVarsSpec : ChangeSpec := { name := "fnSystemVars", fn := fun _ => fun
  | [d] => { results := [.lit (.bool true)], args := [d] }
  | _ => none }
def fnSystemVarsRow : OpenClaim := { program := "ytanmlgnjgbdjiaa", sum := "0557935eb9a28866b9342f86422964d667f4d93c8916cb1e1121feef75b95d49", func := "loop.example/ltlcheck/laws.FnSystemVars", spec := "fnSystemVars", unfollowed := true, recurses := true, plainKeys := false, apart := false }
def FnSystemVarsSaid : Prop := fnSystemVarsRow.holds Try.pinned (OpenSpec.ofChange fnSystemVarsSpec)

/-- ITS FALSE NEIGHBOUR: 'it returns false'. Refute it at one input. -/
def fnSystemVarsWrong : ChangeSpec := { name := "fnSystemVars", fn := fun _ => fun
  | [d] => { results := [.lit (.bool false)], args := [d] }
  | _ => none }
def FnSystemVarsWrongFalsely : Prop := fnSystemVarsRow.holds Try.pinned (OpenSpec.ofChange fnSystemVarsWrong)

/-- 'laws.FnSystemReach': WHATEVER THE INPUT: true; the input reads as it did. -/
def fnSystemReachSpec : ChangeSpec := { name := "fnSystemReach", fn := fun _ => fun
  | [d] => { results := [.lit (.bool true)], args := [d] }
  | _ => none }
def fnSystemReachRow : OpenClaim := { program := "ytanmlgnjgbdjiaa", sum := "0557935eb9a28866b9342f86422964d667f4d93c8916cb1e1121feef75b95d49", func := "loop.example/ltlcheck/laws.FnSystemReach", spec := "fnSystemReach", recurses := true, plainKeys := false, apart := false }
def FnSystemReachSaid : Prop := fnSystemReachRow.holds Try.pinned (OpenSpec.ofChange fnSystemReachSpec)

/-- ITS FALSE NEIGHBOUR: 'it returns false'. Refute it at one input. -/
def fnSystemReachWrong : ChangeSpec := { name := "fnSystemReach", fn := fun _ => fun
  | [d] => { results := [.lit (.bool false)], args := [d] }
  | _ => none }
def FnSystemReachWrongFalsely : Prop := fnSystemReachRow.holds Try.pinned (OpenSpec.ofChange fnSystemReachWrong)

/-- 'laws.FnEdgeValid': WHATEVER THE INPUT: true; the input reads as it did. -/
def fnEdgeValidSpec : ChangeSpec := { name := "fnEdgeValid", fn := fun _ => fun
  | [d] => { results := [.lit (.bool true)], args := [d] }
  | _ => none }
def fnEdgeValidRow : OpenClaim := { program := "ytanmlgnjgbdjiaa", sum := "0557935eb9a28866b9342f86422964d667f4d93c8916cb1e1121feef75b95d49", func := "loop.example/ltlcheck/laws.FnEdgeValid", spec := "fnEdgeValid", recurses := true, plainKeys := false, apart := false }
def FnEdgeValidSaid : Prop := fnEdgeValidRow.holds Try.pinned (OpenSpec.ofChange fnEdgeValidSpec)

/-- ITS FALSE NEIGHBOUR: 'it returns false'. Refute it at one input. -/
def fnEdgeValidWrong : ChangeSpec := { name := "fnEdgeValid", fn := fun _ => fun
  | [d] => { results := [.lit (.bool false)], args := [d] }
  | _ => none }
def FnEdgeValidWrongFalsely : Prop := fnEdgeValidRow.holds Try.pinned (OpenSpec.ofChange fnEdgeValidWrong)

/- THE SECOND FORM. 'bulk': how many values and letters a reading holds, each counted each time it is reached (what is shared counts as often as it is met; a slice's spare places count too). A statement '..UptoSaid' is the law's where the arguments, and the package variables that the reading takes, are together of bulk at most 1048576: NARROWER than '..Said'. Prove '..Said' where nothing that the law and all that it calls make is longer than what came in: it says more and counts as full. Else prove '..UptoSaid'. A law counts once. -/
mutual
def uptoBulk {H : Type} : DataW H → Nat
  | .lit (.string bytes) => bytes.length + 1
  | .lit _ => 1
  | .nil => 1
  | .ptr d => uptoBulk d + 1
  | .slice elems spare => uptoBulkAll elems + uptoBulkAll spare + 1
  | .agg parts => uptoBulkAll parts + 1
  | .iface _ d => uptoBulk d + 1
  | .map entries => uptoBulkEntries entries + 1
  | .held _ => 1
def uptoBulkAll {H : Type} : List (DataW H) → Nat
  | [] => 0
  | d :: r => uptoBulk d + uptoBulkAll r
def uptoBulkEntries {H : Type} : List (Lit × DataW H) → Nat
  | [] => 0
  | x :: r => uptoBulkEntry x + uptoBulkEntries r
def uptoBulkEntry {H : Type} : Lit × DataW H → Nat
  | (.string bytes, d) => bytes.length + uptoBulk d + 1
  | (_, d) => uptoBulk d + 1
 end
def uptoSmall : (H : Type) → List (DataW H) → Bool := fun _ ds => decide (uptoBulkAll ds ≤ 1048576)
def OpenSpec.upto (s : _root_.Go.ChangeSpec) : _root_.Go.OpenSpec := { _root_.Go.OpenSpec.ofChange s with cond := some uptoSmall }

/-- 'laws.FnExactParseState', WHERE WHAT IT READS IS OF BULK AT MOST 1048576: true; the input reads as it did. -/
def fnExactParseStateUptoRow : OpenClaim := { program := "ytanmlgnjgbdjiaa", sum := "0557935eb9a28866b9342f86422964d667f4d93c8916cb1e1121feef75b95d49", func := "loop.example/ltlcheck/laws.FnExactParseState", spec := "fnExactParseState", inPlace := ["internal/bytealg.IndexByteString", "internal/bytealg.IndexString"], recurses := true, named := ["internal/bytealg.MaxLen"], loops := true, plainKeys := false, apart := false, narrowed := true }
def FnExactParseStateUptoSaid : Prop := fnExactParseStateUptoRow.holds Try.pinned (OpenSpec.upto fnExactParseStateSpec)

/-- 'laws.FnExactIsDeadlock', WHERE WHAT IT READS IS OF BULK AT MOST 1048576: true; the input reads as it did. -/
def fnExactIsDeadlockUptoRow : OpenClaim := { program := "ytanmlgnjgbdjiaa", sum := "0557935eb9a28866b9342f86422964d667f4d93c8916cb1e1121feef75b95d49", func := "loop.example/ltlcheck/laws.FnExactIsDeadlock", spec := "fnExactIsDeadlock", unfollowed := true, recurses := true, loops := true, plainKeys := false, apart := false, narrowed := true }
def FnExactIsDeadlockUptoSaid : Prop := fnExactIsDeadlockUptoRow.holds Try.pinned (OpenSpec.upto fnExactIsDeadlockSpec)

/-- 'laws.FnExactEnabledSteps', WHERE WHAT IT READS IS OF BULK AT MOST 1048576: true; the input reads as it did. -/
def fnExactEnabledStepsUptoRow : OpenClaim := { program := "ytanmlgnjgbdjiaa", sum := "0557935eb9a28866b9342f86422964d667f4d93c8916cb1e1121feef75b95d49", func := "loop.example/ltlcheck/laws.FnExactEnabledSteps", spec := "fnExactEnabledSteps", unfollowed := true, recurses := true, loops := true, plainKeys := false, apart := false, narrowed := true }
def FnExactEnabledStepsUptoSaid : Prop := fnExactEnabledStepsUptoRow.holds Try.pinned (OpenSpec.upto fnExactEnabledStepsSpec)

/-- 'laws.FnExactApplyStep', WHERE WHAT IT READS IS OF BULK AT MOST 1048576: true; the input reads as it did. -/
def fnExactApplyStepUptoRow : OpenClaim := { program := "ytanmlgnjgbdjiaa", sum := "0557935eb9a28866b9342f86422964d667f4d93c8916cb1e1121feef75b95d49", func := "loop.example/ltlcheck/laws.FnExactApplyStep", spec := "fnExactApplyStep", unfollowed := true, recurses := true, loops := true, plainKeys := false, apart := false, narrowed := true }
def FnExactApplyStepUptoSaid : Prop := fnExactApplyStepUptoRow.holds Try.pinned (OpenSpec.upto fnExactApplyStepSpec)

/-- 'laws.FnStepProcesses', WHERE WHAT IT READS IS OF BULK AT MOST 1048576: true; the input reads as it did. -/
def fnStepProcessesUptoRow : OpenClaim := { program := "ytanmlgnjgbdjiaa", sum := "0557935eb9a28866b9342f86422964d667f4d93c8916cb1e1121feef75b95d49", func := "loop.example/ltlcheck/laws.FnStepProcesses", spec := "fnStepProcesses", recurses := true, plainKeys := false, apart := false, narrowed := true }
def FnStepProcessesUptoSaid : Prop := fnStepProcessesUptoRow.holds Try.pinned (OpenSpec.upto fnStepProcessesSpec)

/-- 'laws.FnEnabledSteps', WHERE WHAT IT READS IS OF BULK AT MOST 1048576: true; the input reads as it did. -/
def fnEnabledStepsUptoRow : OpenClaim := { program := "ytanmlgnjgbdjiaa", sum := "0557935eb9a28866b9342f86422964d667f4d93c8916cb1e1121feef75b95d49", func := "loop.example/ltlcheck/laws.FnEnabledSteps", spec := "fnEnabledSteps", unfollowed := true, recurses := true, plainKeys := false, apart := false, narrowed := true }
def FnEnabledStepsUptoSaid : Prop := fnEnabledStepsUptoRow.holds Try.pinned (OpenSpec.upto fnEnabledStepsSpec)

/-- 'laws.FnSystemValid', WHERE WHAT IT READS IS OF BULK AT MOST 1048576: true; the input reads as it did. -/
def fnSystemValidUptoRow : OpenClaim := { program := "ytanmlgnjgbdjiaa", sum := "0557935eb9a28866b9342f86422964d667f4d93c8916cb1e1121feef75b95d49", func := "loop.example/ltlcheck/laws.FnSystemValid", spec := "fnSystemValid", recurses := true, plainKeys := false, apart := false, narrowed := true }
def FnSystemValidUptoSaid : Prop := fnSystemValidUptoRow.holds Try.pinned (OpenSpec.upto fnSystemValidSpec)

/-- 'laws.FnSystemVars', WHERE WHAT IT READS IS OF BULK AT MOST 1048576: true; the input reads as it did. -/
def fnSystemVarsUptoRow : OpenClaim := { program := "ytanmlgnjgbdjiaa", sum := "0557935eb9a28866b9342f86422964d667f4d93c8916cb1e1121feef75b95d49", func := "loop.example/ltlcheck/laws.FnSystemVars", spec := "fnSystemVars", unfollowed := true, recurses := true, plainKeys := false, apart := false, narrowed := true }
def FnSystemVarsUptoSaid : Prop := fnSystemVarsUptoRow.holds Try.pinned (OpenSpec.upto fnSystemVarsSpec)

/-- 'laws.FnSystemReach', WHERE WHAT IT READS IS OF BULK AT MOST 1048576: true; the input reads as it did. -/
def fnSystemReachUptoRow : OpenClaim := { program := "ytanmlgnjgbdjiaa", sum := "0557935eb9a28866b9342f86422964d667f4d93c8916cb1e1121feef75b95d49", func := "loop.example/ltlcheck/laws.FnSystemReach", spec := "fnSystemReach", recurses := true, plainKeys := false, apart := false, narrowed := true }
def FnSystemReachUptoSaid : Prop := fnSystemReachUptoRow.holds Try.pinned (OpenSpec.upto fnSystemReachSpec)

/-- 'laws.FnEdgeValid', WHERE WHAT IT READS IS OF BULK AT MOST 1048576: true; the input reads as it did. -/
def fnEdgeValidUptoRow : OpenClaim := { program := "ytanmlgnjgbdjiaa", sum := "0557935eb9a28866b9342f86422964d667f4d93c8916cb1e1121feef75b95d49", func := "loop.example/ltlcheck/laws.FnEdgeValid", spec := "fnEdgeValid", recurses := true, plainKeys := false, apart := false, narrowed := true }
def FnEdgeValidUptoSaid : Prop := fnEdgeValidUptoRow.holds Try.pinned (OpenSpec.upto fnEdgeValidSpec)

end Rows
end Go.Proofs.Ytanmlgnjgbdjiaa
