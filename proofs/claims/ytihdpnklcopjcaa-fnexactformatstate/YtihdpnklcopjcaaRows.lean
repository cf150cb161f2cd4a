/-
  NARROWER THAN 'FOR EVERY INPUT', by the rows' own cells (each row's printed sentence says how): FnExactInitialState: loops · FnExactStateValid: loops · FnExactStepProcesses: loops · FnExactIsDeadlock: loops · FnExactEdgeValid: loops.
  DERIVED. THE GIVEN ROWS OF THIS SEAT. 12 by the template 'for every input the law returns true; each argument reads behind the call as it read before'; 0 by the template 'total and deterministic' (their statements: YtihdpnklcopjcaaTotals.lean).
  GIVEN WITH THE SEED: the statements are not yours to turn. If you find one false, say at which input.
  Laid BY PROGRAM, IN A SANDBOX (cutbox-rows.mjs): the forced cells as the released guide's own fill.sh prints them over the translation 80bf0a574437f8db… (all of the seat's roots in one cut). By AI agents, Wed Nov 11 2026. No macro, syntax, notation, axiom, sorry.
-/
import Derived.Test.YtihdpnklcopjcaaChecked
import GoSem.Claim
import GoSem.ClaimJoined
import GoSem.ClaimMapViews
import Derived.JoinedTies
import Derived.KernelRfl
namespace Go.Proofs.Ytihdpnklcopjcaa
/- THE CELL 'sum', in the pinned program and in every row, IS THE sha256 OF THE DUMP (.gsa) THAT YtihdpnklcopjcaaProg.lean LOADS. Nothing in Lean hashes anything: it is a label: what it is worth is what the hold of that sum in a sandbox is worth. -/
noncomputable def Try.pinned : Pinned := { name := "ytihdpnklcopjcaa", sum := "80bf0a574437f8db69f255fb539f15b3b3d892f72ab2cea98ce5be199f90cfce", checked := Try.checked }
namespace Rows
def none {H : Type} : Left H := { results := [], args := [] }

/-- 'laws.FnExactInitialState': WHATEVER THE INPUT: true; the input reads as it did. -/
def fnExactInitialStateSpec : ChangeSpec := { name := "fnExactInitialState", fn := fun _ => fun
  | [d] => { results := [.lit (.bool true)], args := [d] }
  | _ => none }
def fnExactInitialStateRow : OpenClaim := { program := "ytihdpnklcopjcaa", sum := "80bf0a574437f8db69f255fb539f15b3b3d892f72ab2cea98ce5be199f90cfce", func := "loop.example/ltlcheck/laws.FnExactInitialState", spec := "fnExactInitialState", recurses := true, loops := true, plainKeys := false, apart := false }
def FnExactInitialStateSaid : Prop := fnExactInitialStateRow.holds Try.pinned (OpenSpec.ofChange fnExactInitialStateSpec)

/-- ITS FALSE NEIGHBOUR: 'it returns false'. Refute it at one input. -/
def fnExactInitialStateWrong : ChangeSpec := { name := "fnExactInitialState", fn := fun _ => fun
  | [d] => { results := [.lit (.bool false)], args := [d] }
  | _ => none }
def FnExactInitialStateWrongFalsely : Prop := fnExactInitialStateRow.holds Try.pinned (OpenSpec.ofChange fnExactInitialStateWrong)

/-- 'laws.FnExactStateValid': WHATEVER THE INPUT: true; the input reads as it did. -/
def fnExactStateValidSpec : ChangeSpec := { name := "fnExactStateValid", fn := fun _ => fun
  | [d1, d2] => { results := [.lit (.bool true)], args := [d1, d2] }
  | _ => none }
def fnExactStateValidRow : OpenClaim := { program := "ytihdpnklcopjcaa", sum := "80bf0a574437f8db69f255fb539f15b3b3d892f72ab2cea98ce5be199f90cfce", func := "loop.example/ltlcheck/laws.FnExactStateValid", spec := "fnExactStateValid", recurses := true, loops := true, plainKeys := false, apart := false }
def FnExactStateValidSaid : Prop := fnExactStateValidRow.holds Try.pinned (OpenSpec.ofChange fnExactStateValidSpec)

/-- ITS FALSE NEIGHBOUR: 'it returns false'. Refute it at one input. -/
def fnExactStateValidWrong : ChangeSpec := { name := "fnExactStateValid", fn := fun _ => fun
  | [d1, d2] => { results := [.lit (.bool false)], args := [d1, d2] }
  | _ => none }
def FnExactStateValidWrongFalsely : Prop := fnExactStateValidRow.holds Try.pinned (OpenSpec.ofChange fnExactStateValidWrong)

/-- 'laws.FnExactStateSame': WHATEVER THE INPUT: true; the input reads as it did. -/
def fnExactStateSameSpec : ChangeSpec := { name := "fnExactStateSame", fn := fun _ => fun
  | [d1, d2] => { results := [.lit (.bool true)], args := [d1, d2] }
  | _ => none }
def fnExactStateSameRow : OpenClaim := { program := "ytihdpnklcopjcaa", sum := "80bf0a574437f8db69f255fb539f15b3b3d892f72ab2cea98ce5be199f90cfce", func := "loop.example/ltlcheck/laws.FnExactStateSame", spec := "fnExactStateSame", plainKeys := false, apart := false }
def FnExactStateSameSaid : Prop := fnExactStateSameRow.holds Try.pinned (OpenSpec.ofChange fnExactStateSameSpec)

/-- ITS FALSE NEIGHBOUR: 'it returns false'. Refute it at one input. -/
def fnExactStateSameWrong : ChangeSpec := { name := "fnExactStateSame", fn := fun _ => fun
  | [d1, d2] => { results := [.lit (.bool false)], args := [d1, d2] }
  | _ => none }
def FnExactStateSameWrongFalsely : Prop := fnExactStateSameRow.holds Try.pinned (OpenSpec.ofChange fnExactStateSameWrong)

/-- 'laws.FnExactStepProcesses': WHATEVER THE INPUT: true; the input reads as it did. -/
def fnExactStepProcessesSpec : ChangeSpec := { name := "fnExactStepProcesses", fn := fun _ => fun
  | [d1, d2] => { results := [.lit (.bool true)], args := [d1, d2] }
  | _ => none }
def fnExactStepProcessesRow : OpenClaim := { program := "ytihdpnklcopjcaa", sum := "80bf0a574437f8db69f255fb539f15b3b3d892f72ab2cea98ce5be199f90cfce", func := "loop.example/ltlcheck/laws.FnExactStepProcesses", spec := "fnExactStepProcesses", recurses := true, loops := true, plainKeys := false, apart := false }
def FnExactStepProcessesSaid : Prop := fnExactStepProcessesRow.holds Try.pinned (OpenSpec.ofChange fnExactStepProcessesSpec)

/-- ITS FALSE NEIGHBOUR: 'it returns false'. Refute it at one input. -/
def fnExactStepProcessesWrong : ChangeSpec := { name := "fnExactStepProcesses", fn := fun _ => fun
  | [d1, d2] => { results := [.lit (.bool false)], args := [d1, d2] }
  | _ => none }
def FnExactStepProcessesWrongFalsely : Prop := fnExactStepProcessesRow.holds Try.pinned (OpenSpec.ofChange fnExactStepProcessesWrong)

/-- 'laws.FnExactFormatState': WHATEVER THE INPUT: true; the input reads as it did. -/
def fnExactFormatStateSpec : ChangeSpec := { name := "fnExactFormatState", fn := fun _ => fun
  | [d] => { results := [.lit (.bool true)], args := [d] }
  | _ => none }
def fnExactFormatStateRow : OpenClaim := { program := "ytihdpnklcopjcaa", sum := "80bf0a574437f8db69f255fb539f15b3b3d892f72ab2cea98ce5be199f90cfce", func := "loop.example/ltlcheck/laws.FnExactFormatState", spec := "fnExactFormatState", recurses := true, plainKeys := false, apart := false }
def FnExactFormatStateSaid : Prop := fnExactFormatStateRow.holds Try.pinned (OpenSpec.ofChange fnExactFormatStateSpec)

/-- ITS FALSE NEIGHBOUR: 'it returns false'. Refute it at one input. -/
def fnExactFormatStateWrong : ChangeSpec := { name := "fnExactFormatState", fn := fun _ => fun
  | [d] => { results := [.lit (.bool false)], args := [d] }
  | _ => none }
def FnExactFormatStateWrongFalsely : Prop := fnExactFormatStateRow.holds Try.pinned (OpenSpec.ofChange fnExactFormatStateWrong)

/-- 'laws.FnExactIsDeadlock': WHATEVER THE INPUT: true; the input reads as it did. -/
def fnExactIsDeadlockSpec : ChangeSpec := { name := "fnExactIsDeadlock", fn := fun _ => fun
  | [d1, d2] => { results := [.lit (.bool true)], args := [d1, d2] }
  | _ => none }
def fnExactIsDeadlockRow : OpenClaim := { program := "ytihdpnklcopjcaa", sum := "80bf0a574437f8db69f255fb539f15b3b3d892f72ab2cea98ce5be199f90cfce", func := "loop.example/ltlcheck/laws.FnExactIsDeadlock", spec := "fnExactIsDeadlock", unfollowed := true, recurses := true, loops := true, plainKeys := false, apart := false }
def FnExactIsDeadlockSaid : Prop := fnExactIsDeadlockRow.holds Try.pinned (OpenSpec.ofChange fnExactIsDeadlockSpec)

/-- ITS FALSE NEIGHBOUR: 'it returns false'. Refute it at one input. -/
def fnExactIsDeadlockWrong : ChangeSpec := { name := "fnExactIsDeadlock", fn := fun _ => fun
  | [d1, d2] => { results := [.lit (.bool false)], args := [d1, d2] }
  | _ => none }
def FnExactIsDeadlockWrongFalsely : Prop := fnExactIsDeadlockRow.holds Try.pinned (OpenSpec.ofChange fnExactIsDeadlockWrong)

/-- 'laws.FnSystemValid': WHATEVER THE INPUT: true; the input reads as it did. -/
def fnSystemValidSpec : ChangeSpec := { name := "fnSystemValid", fn := fun _ => fun
  | [d] => { results := [.lit (.bool true)], args := [d] }
  | _ => none }
def fnSystemValidRow : OpenClaim := { program := "ytihdpnklcopjcaa", sum := "80bf0a574437f8db69f255fb539f15b3b3d892f72ab2cea98ce5be199f90cfce", func := "loop.example/ltlcheck/laws.FnSystemValid", spec := "fnSystemValid", recurses := true, plainKeys := false, apart := false }
def FnSystemValidSaid : Prop := fnSystemValidRow.holds Try.pinned (OpenSpec.ofChange fnSystemValidSpec)

/-- ITS FALSE NEIGHBOUR: 'it returns false'. Refute it at one input. -/
def fnSystemValidWrong : ChangeSpec := { name := "fnSystemValid", fn := fun _ => fun
  | [d] => { results := [.lit (.bool false)], args := [d] }
  | _ => none }
def FnSystemValidWrongFalsely : Prop := fnSystemValidRow.holds Try.pinned (OpenSpec.ofChange fnSystemValidWrong)

/-- 'laws.FnSystemVars': WHATEVER THE INPUT: true; the input reads as it did. -/
def fnSystemVarsSpec : ChangeSpec := { name := "fnSystemVars", fn := fun _ => fun
  | [d] => { results := [.lit (.bool true)], args := [d] }
  | _ => none }
def fnSystemVarsRow : OpenClaim := { program := "ytihdpnklcopjcaa", sum := "80bf0a574437f8db69f255fb539f15b3b3d892f72ab2cea98ce5be199f90cfce", func := "loop.example/ltlcheck/laws.FnSystemVars", spec := "fnSystemVars", unfollowed := true, recurses := true, plainKeys := false, apart := false }
def FnSystemVarsSaid : Prop := fnSystemVarsRow.holds Try.pinned (OpenSpec.ofChange fnSystemVarsSpec)

/-- ITS FALSE NEIGHBOUR: 'it returns false'. Refute it at one input. -/
def fnSystemVarsWrong : ChangeSpec := { name := "fnSystemVars", fn := fun _ => fun
  | [d] => { results := [.lit (.bool false)], args := [d] }
  | _ => none }
def FnSystemVarsWrongFalsely : Prop := fnSystemVarsRow.holds Try.pinned (OpenSpec.ofChange fnSystemVarsWrong)

/-- 'laws.FnSystemReach': WHATEVER THE INPUT: true; the input reads as it did. -/
def fnSystemReachSpec : ChangeSpec := { name := "fnSystemReach", fn := fun _ => fun
  | [d] => { results := [.lit (.bool true)], args := [d] }
  | _ => none }
def fnSystemReachRow : OpenClaim := { program := "ytihdpnklcopjcaa", sum := "80bf0a574437f8db69f255fb539f15b3b3d892f72ab2cea98ce5be199f90cfce", func := "loop.example/ltlcheck/laws.FnSystemReach", spec := "fnSystemReach", recurses := true, plainKeys := false, apart := false }
def FnSystemReachSaid : Prop := fnSystemReachRow.holds Try.pinned (OpenSpec.ofChange fnSystemReachSpec)

/-- ITS FALSE NEIGHBOUR: 'it returns false'. Refute it at one input. -/
def fnSystemReachWrong : ChangeSpec := { name := "fnSystemReach", fn := fun _ => fun
  | [d] => { results := [.lit (.bool false)], args := [d] }
  | _ => none }
def FnSystemReachWrongFalsely : Prop := fnSystemReachRow.holds Try.pinned (OpenSpec.ofChange fnSystemReachWrong)

/-- 'laws.FnExactEdgeValid': WHATEVER THE INPUT: true; the input reads as it did. -/
def fnExactEdgeValidSpec : ChangeSpec := { name := "fnExactEdgeValid", fn := fun _ => fun
  | [d1, d2] => { results := [.lit (.bool true)], args := [d1, d2] }
  | _ => none }
def fnExactEdgeValidRow : OpenClaim := { program := "ytihdpnklcopjcaa", sum := "80bf0a574437f8db69f255fb539f15b3b3d892f72ab2cea98ce5be199f90cfce", func := "loop.example/ltlcheck/laws.FnExactEdgeValid", spec := "fnExactEdgeValid", recurses := true, loops := true, plainKeys := false, apart := false }
def FnExactEdgeValidSaid : Prop := fnExactEdgeValidRow.holds Try.pinned (OpenSpec.ofChange fnExactEdgeValidSpec)

/-- ITS FALSE NEIGHBOUR: 'it returns false'. Refute it at one input. -/
def fnExactEdgeValidWrong : ChangeSpec := { name := "fnExactEdgeValid", fn := fun _ => fun
  | [d1, d2] => { results := [.lit (.bool false)], args := [d1, d2] }
  | _ => none }
def FnExactEdgeValidWrongFalsely : Prop := fnExactEdgeValidRow.holds Try.pinned (OpenSpec.ofChange fnExactEdgeValidWrong)

/-- 'laws.FnEdgeValid': WHATEVER THE INPUT: true; the input reads as it did. -/
def fnEdgeValidSpec : ChangeSpec := { name := "fnEdgeValid", fn := fun _ => fun
  | [d] => { results := [.lit (.bool true)], args := [d] }
  | _ => none }
def fnEdgeValidRow : OpenClaim := { program := "ytihdpnklcopjcaa", sum := "80bf0a574437f8db69f255fb539f15b3b3d892f72ab2cea98ce5be199f90cfce", func := "loop.example/ltlcheck/laws.FnEdgeValid", spec := "fnEdgeValid", recurses := true, plainKeys := false, apart := false }
def FnEdgeValidSaid : Prop := fnEdgeValidRow.holds Try.pinned (OpenSpec.ofChange fnEdgeValidSpec)

/-- ITS FALSE NEIGHBOUR: 'it returns false'. Refute it at one input. -/
def fnEdgeValidWrong : ChangeSpec := { name := "fnEdgeValid", fn := fun _ => fun
  | [d] => { results := [.lit (.bool false)], args := [d] }
  | _ => none }
def FnEdgeValidWrongFalsely : Prop := fnEdgeValidRow.holds Try.pinned (OpenSpec.ofChange fnEdgeValidWrong)

/-- 'laws.FnStepProcesses': WHATEVER THE INPUT: true; the input reads as it did. -/
def fnStepProcessesSpec : ChangeSpec := { name := "fnStepProcesses", fn := fun _ => fun
  | [d] => { results := [.lit (.bool true)], args := [d] }
  | _ => none }
def fnStepProcessesRow : OpenClaim := { program := "ytihdpnklcopjcaa", sum := "80bf0a574437f8db69f255fb539f15b3b3d892f72ab2cea98ce5be199f90cfce", func := "loop.example/ltlcheck/laws.FnStepProcesses", spec := "fnStepProcesses", recurses := true, plainKeys := false, apart := false }
def FnStepProcessesSaid : Prop := fnStepProcessesRow.holds Try.pinned (OpenSpec.ofChange fnStepProcessesSpec)

/-- ITS FALSE NEIGHBOUR: 'it returns false'. Refute it at one input. -/
def fnStepProcessesWrong : ChangeSpec := { name := "fnStepProcesses", fn := fun _ => fun
  | [d] => { results := [.lit (.bool false)], args := [d] }
  | _ => none }
def FnStepProcessesWrongFalsely : Prop := fnStepProcessesRow.holds Try.pinned (OpenSpec.ofChange fnStepProcessesWrong)

/- THE SECOND FORM. 'bulk': how many values and letters a reading holds, each counted each time it is reached (what is shared counts as often as it is met; a slice's spare places count too). A statement '..UptoSaid' is the law's where the arguments, and the package variables that the reading takes, are together of bulk at most 1048576: NARROWER than '..Said'. Prove '..Said' where nothing that the law and all that it calls make is longer than what came in: it says more and counts as full. Else prove '..UptoSaid'. A law counts once. -/
mutual
def uptoBulk {H : Type} : DataW H → Nat
  | .lit (.string bytes) => bytes.length + 1
  | .lit _ => 1
  | .nil => 1
  | .ptr d => uptoBulk d + 1
  | .slice elems spare => uptoBulkAll elems + uptoBulkAll spare + 1
  | .agg parts => uptoBulkAll parts + 1
  | .iface _ d => uptoBulk d + 1
  | .map entries => uptoBulkEntries entries + 1
  | .held _ => 1
def uptoBulkAll {H : Type} : List (DataW H) → Nat
  | [] => 0
  | d :: r => uptoBulk d + uptoBulkAll r
def uptoBulkEntries {H : Type} : List (Lit × DataW H) → Nat
  | [] => 0
  | x :: r => uptoBulkEntry x + uptoBulkEntries r
def uptoBulkEntry {H : Type} : Lit × DataW H → Nat
  | (.string bytes, d) => bytes.length + uptoBulk d + 1
  | (_, d) => uptoBulk d + 1
 end
def uptoSmall : (H : Type) → List (DataW H) → Bool := fun _ ds => decide (uptoBulkAll ds ≤ 1048576)
def OpenSpec.upto (s : _root_.Go.ChangeSpec) : _root_.Go.OpenSpec := { _root_.Go.OpenSpec.ofChange s with cond := some uptoSmall }

/-- 'laws.FnExactInitialState', WHERE WHAT IT READS IS OF BULK AT MOST 1048576: true; the input reads as it did. -/
def fnExactInitialStateUptoRow : OpenClaim := { program := "ytihdpnklcopjcaa", sum := "80bf0a574437f8db69f255fb539f15b3b3d892f72ab2cea98ce5be199f90cfce", func := "loop.example/ltlcheck/laws.FnExactInitialState", spec := "fnExactInitialState", recurses := true, loops := true, plainKeys := false, apart := false, narrowed := true }
def FnExactInitialStateUptoSaid : Prop := fnExactInitialStateUptoRow.holds Try.pinned (OpenSpec.upto fnExactInitialStateSpec)

/-- 'laws.FnExactStateValid', WHERE WHAT IT READS IS OF BULK AT MOST 1048576: true; the input reads as it did. -/
def fnExactStateValidUptoRow : OpenClaim := { program := "ytihdpnklcopjcaa", sum := "80bf0a574437f8db69f255fb539f15b3b3d892f72ab2cea98ce5be199f90cfce", func := "loop.example/ltlcheck/laws.FnExactStateValid", spec := "fnExactStateValid", recurses := true, loops := true, plainKeys := false, apart := false, narrowed := true }
def FnExactStateValidUptoSaid : Prop := fnExactStateValidUptoRow.holds Try.pinned (OpenSpec.upto fnExactStateValidSpec)

/-- 'laws.FnExactStateSame', WHERE WHAT IT READS IS OF BULK AT MOST 1048576: true; the input reads as it did. -/
def fnExactStateSameUptoRow : OpenClaim := { program := "ytihdpnklcopjcaa", sum := "80bf0a574437f8db69f255fb539f15b3b3d892f72ab2cea98ce5be199f90cfce", func := "loop.example/ltlcheck/laws.FnExactStateSame", spec := "fnExactStateSame", plainKeys := false, apart := false, narrowed := true }
def FnExactStateSameUptoSaid : Prop := fnExactStateSameUptoRow.holds Try.pinned (OpenSpec.upto fnExactStateSameSpec)

/-- 'laws.FnExactStepProcesses', WHERE WHAT IT READS IS OF BULK AT MOST 1048576: true; the input reads as it did. -/
def fnExactStepProcessesUptoRow : OpenClaim := { program := "ytihdpnklcopjcaa", sum := "80bf0a574437f8db69f255fb539f15b3b3d892f72ab2cea98ce5be199f90cfce", func := "loop.example/ltlcheck/laws.FnExactStepProcesses", spec := "fnExactStepProcesses", recurses := true, loops := true, plainKeys := false, apart := false, narrowed := true }
def FnExactStepProcessesUptoSaid : Prop := fnExactStepProcessesUptoRow.holds Try.pinned (OpenSpec.upto fnExactStepProcessesSpec)

/-- 'laws.FnExactFormatState', WHERE WHAT IT READS IS OF BULK AT MOST 1048576: true; the input reads as it did. -/
def fnExactFormatStateUptoRow : OpenClaim := { program := "ytihdpnklcopjcaa", sum := "80bf0a574437f8db69f255fb539f15b3b3d892f72ab2cea98ce5be199f90cfce", func := "loop.example/ltlcheck/laws.FnExactFormatState", spec := "fnExactFormatState", recurses := true, plainKeys := false, apart := false, narrowed := true }
def FnExactFormatStateUptoSaid : Prop := fnExactFormatStateUptoRow.holds Try.pinned (OpenSpec.upto fnExactFormatStateSpec)

/-- 'laws.FnExactIsDeadlock', WHERE WHAT IT READS IS OF BULK AT MOST 1048576: true; the input reads as it did. -/
def fnExactIsDeadlockUptoRow : OpenClaim := { program := "ytihdpnklcopjcaa", sum := "80bf0a574437f8db69f255fb539f15b3b3d892f72ab2cea98ce5be199f90cfce", func := "loop.example/ltlcheck/laws.FnExactIsDeadlock", spec := "fnExactIsDeadlock", unfollowed := true, recurses := true, loops := true, plainKeys := false, apart := false, narrowed := true }
def FnExactIsDeadlockUptoSaid : Prop := fnExactIsDeadlockUptoRow.holds Try.pinned (OpenSpec.upto fnExactIsDeadlockSpec)

/-- 'laws.FnSystemValid', WHERE WHAT IT READS IS OF BULK AT MOST 1048576: true; the input reads as it did. -/
def fnSystemValidUptoRow : OpenClaim := { program := "ytihdpnklcopjcaa", sum := "80bf0a574437f8db69f255fb539f15b3b3d892f72ab2cea98ce5be199f90cfce", func := "loop.example/ltlcheck/laws.FnSystemValid", spec := "fnSystemValid", recurses := true, plainKeys := false, apart := false, narrowed := true }
def FnSystemValidUptoSaid : Prop := fnSystemValidUptoRow.holds Try.pinned (OpenSpec.upto fnSystemValidSpec)

/-- 'laws.FnSystemVars', WHERE WHAT IT READS IS OF BULK AT MOST 1048576: true; the input reads as it did. -/
def fnSystemVarsUptoRow : OpenClaim := { program := "ytihdpnklcopjcaa", sum := "80bf0a574437f8db69f255fb539f15b3b3d892f72ab2cea98ce5be199f90cfce", func := "loop.example/ltlcheck/laws.FnSystemVars", spec := "fnSystemVars", unfollowed := true, recurses := true, plainKeys := false, apart := false, narrowed := true }
def FnSystemVarsUptoSaid : Prop := fnSystemVarsUptoRow.holds Try.pinned (OpenSpec.upto fnSystemVarsSpec)

/-- 'laws.FnSystemReach', WHERE WHAT IT READS IS OF BULK AT MOST 1048576: true; the input reads as it did. -/
def fnSystemReachUptoRow : OpenClaim := { program := "ytihdpnklcopjcaa", sum := "80bf0a574437f8db69f255fb539f15b3b3d892f72ab2cea98ce5be199f90cfce", func := "loop.example/ltlcheck/laws.FnSystemReach", spec := "fnSystemReach", recurses := true, plainKeys := false, apart := false, narrowed := true }
def FnSystemReachUptoSaid : Prop := fnSystemReachUptoRow.holds Try.pinned (OpenSpec.upto fnSystemReachSpec)

/-- 'laws.FnExactEdgeValid', WHERE WHAT IT READS IS OF BULK AT MOST 1048576: true; the input reads as it did. -/
def fnExactEdgeValidUptoRow : OpenClaim := { program := "ytihdpnklcopjcaa", sum := "80bf0a574437f8db69f255fb539f15b3b3d892f72ab2cea98ce5be199f90cfce", func := "loop.example/ltlcheck/laws.FnExactEdgeValid", spec := "fnExactEdgeValid", recurses := true, loops := true, plainKeys := false, apart := false, narrowed := true }
def FnExactEdgeValidUptoSaid : Prop := fnExactEdgeValidUptoRow.holds Try.pinned (OpenSpec.upto fnExactEdgeValidSpec)

/-- 'laws.FnEdgeValid', WHERE WHAT IT READS IS OF BULK AT MOST 1048576: true; the input reads as it did. -/
def fnEdgeValidUptoRow : OpenClaim := { program := "ytihdpnklcopjcaa", sum := "80bf0a574437f8db69f255fb539f15b3b3d892f72ab2cea98ce5be199f90cfce", func := "loop.example/ltlcheck/laws.FnEdgeValid", spec := "fnEdgeValid", recurses := true, plainKeys := false, apart := false, narrowed := true }
def FnEdgeValidUptoSaid : Prop := fnEdgeValidUptoRow.holds Try.pinned (OpenSpec.upto fnEdgeValidSpec)

/-- 'laws.FnStepProcesses', WHERE WHAT IT READS IS OF BULK AT MOST 1048576: true; the input reads as it did. -/
def fnStepProcessesUptoRow : OpenClaim := { program := "ytihdpnklcopjcaa", sum := "80bf0a574437f8db69f255fb539f15b3b3d892f72ab2cea98ce5be199f90cfce", func := "loop.example/ltlcheck/laws.FnStepProcesses", spec := "fnStepProcesses", recurses := true, plainKeys := false, apart := false, narrowed := true }
def FnStepProcessesUptoSaid : Prop := fnStepProcessesUptoRow.holds Try.pinned (OpenSpec.upto fnStepProcessesSpec)

end Rows
end Go.Proofs.Ytihdpnklcopjcaa
