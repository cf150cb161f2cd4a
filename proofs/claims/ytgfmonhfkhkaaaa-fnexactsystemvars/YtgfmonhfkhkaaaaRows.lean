/-
  NARROWER THAN 'FOR EVERY INPUT', by the rows' own cells (each row's printed sentence says how): FnExactExprSame: loops · FnExactSubstExpr: loops · FnExactEdgeValid: loops · FnExactSystemValid: loops · FnExactSystemSame: loops · FnExactSystemVars: loops · FnExactSystemReach: loops.
  DERIVED. THE GIVEN ROWS OF THIS SEAT. 12 by the template 'for every input the law returns true; each argument reads behind the call as it read before'; 0 by the template 'total and deterministic' (their statements: YtgfmonhfkhkaaaaTotals.lean).
  GIVEN WITH THE SEED: the statements are not yours to turn. If you find one false, say at which input.
  Laid BY PROGRAM, IN A SANDBOX (cutbox-rows.mjs): the forced cells as the released guide's own fill.sh prints them over the translation 5a3cdff765e5f1c2… (all of the seat's roots in one cut). By AI agents, Wed Nov 11 2026. No macro, syntax, notation, axiom, sorry.
-/
import Derived.Test.YtgfmonhfkhkaaaaChecked
import GoSem.Claim
import GoSem.ClaimJoined
import GoSem.ClaimMapViews
import Derived.JoinedTies
import Derived.KernelRfl
namespace Go.Proofs.Ytgfmonhfkhkaaaa
/- THE CELL 'sum', in the pinned program and in every row, IS THE sha256 OF THE DUMP (.gsa) THAT YtgfmonhfkhkaaaaProg.lean LOADS. Nothing in Lean hashes anything: it is a label: what it is worth is what the hold of that sum in a sandbox is worth. -/
noncomputable def Try.pinned : Pinned := { name := "ytgfmonhfkhkaaaa", sum := "5a3cdff765e5f1c21d14eef91fbbfcef8d90311176731d2ef7288394d9c7e7c4", checked := Try.checked }
namespace Rows
def none {H : Type} : Left H := { results := [], args := [] }

/-- 'laws.FnSystemValid': WHATEVER THE INPUT: true; the input reads as it did. -/
def fnSystemValidSpec : ChangeSpec := { name := "fnSystemValid", fn := fun _ => fun
  | [d] => { results := [.lit (.bool true)], args := [d] }
  | _ => none }
def fnSystemValidRow : OpenClaim := { program := "ytgfmonhfkhkaaaa", sum := "5a3cdff765e5f1c21d14eef91fbbfcef8d90311176731d2ef7288394d9c7e7c4", func := "loop.example/ltlcheck/laws.FnSystemValid", spec := "fnSystemValid", recurses := true, plainKeys := false, apart := false }
def FnSystemValidSaid : Prop := fnSystemValidRow.holds Try.pinned (OpenSpec.ofChange fnSystemValidSpec)

/-- ITS FALSE NEIGHBOUR: 'it returns false'. Refute it at one input. -/
def fnSystemValidWrong : ChangeSpec := { name := "fnSystemValid", fn := fun _ => fun
  | [d] => { results := [.lit (.bool false)], args := [d] }
  | _ => none }
def FnSystemValidWrongFalsely : Prop := fnSystemValidRow.holds Try.pinned (OpenSpec.ofChange fnSystemValidWrong)

/-- 'laws.FnEdgeValid': WHATEVER THE INPUT: true; the input reads as it did. -/
def fnEdgeValidSpec : ChangeSpec := { name := "fnEdgeValid", fn := fun _ => fun
  | [d] => { results := [.lit (.bool true)], args := [d] }
  | _ => none }
def fnEdgeValidRow : OpenClaim := { program := "ytgfmonhfkhkaaaa", sum := "5a3cdff765e5f1c21d14eef91fbbfcef8d90311176731d2ef7288394d9c7e7c4", func := "loop.example/ltlcheck/laws.FnEdgeValid", spec := "fnEdgeValid", recurses := true, plainKeys := false, apart := false }
def FnEdgeValidSaid : Prop := fnEdgeValidRow.holds Try.pinned (OpenSpec.ofChange fnEdgeValidSpec)

/-- ITS FALSE NEIGHBOUR: 'it returns false'. Refute it at one input. -/
def fnEdgeValidWrong : ChangeSpec := { name := "fnEdgeValid", fn := fun _ => fun
  | [d] => { results := [.lit (.bool false)], args := [d] }
  | _ => none }
def FnEdgeValidWrongFalsely : Prop := fnEdgeValidRow.holds Try.pinned (OpenSpec.ofChange fnEdgeValidWrong)

/-- 'laws.FnSystemVars': WHATEVER THE INPUT: true; the input reads as it did. -/
def fnSystemVarsSpec : ChangeSpec := { name := "fnSystemVars", fn := fun _ => fun
  | [d] => { results := [.lit (.bool true)], args := [d] }
  | _ => none }
def fnSystemVarsRow : OpenClaim := { program := "ytgfmonhfkhkaaaa", sum := "5a3cdff765e5f1c21d14eef91fbbfcef8d90311176731d2ef7288394d9c7e7c4", func := "loop.example/ltlcheck/laws.FnSystemVars", spec := "fnSystemVars", unfollowed := true, recurses := true, plainKeys := false, apart := false }
def FnSystemVarsSaid : Prop := fnSystemVarsRow.holds Try.pinned (OpenSpec.ofChange fnSystemVarsSpec)

/-- ITS FALSE NEIGHBOUR: 'it returns false'. Refute it at one input. -/
def fnSystemVarsWrong : ChangeSpec := { name := "fnSystemVars", fn := fun _ => fun
  | [d] => { results := [.lit (.bool false)], args := [d] }
  | _ => none }
def FnSystemVarsWrongFalsely : Prop := fnSystemVarsRow.holds Try.pinned (OpenSpec.ofChange fnSystemVarsWrong)

/-- 'laws.FnSystemReach': WHATEVER THE INPUT: true; the input reads as it did. -/
def fnSystemReachSpec : ChangeSpec := { name := "fnSystemReach", fn := fun _ => fun
  | [d] => { results := [.lit (.bool true)], args := [d] }
  | _ => none }
def fnSystemReachRow : OpenClaim := { program := "ytgfmonhfkhkaaaa", sum := "5a3cdff765e5f1c21d14eef91fbbfcef8d90311176731d2ef7288394d9c7e7c4", func := "loop.example/ltlcheck/laws.FnSystemReach", spec := "fnSystemReach", recurses := true, plainKeys := false, apart := false }
def FnSystemReachSaid : Prop := fnSystemReachRow.holds Try.pinned (OpenSpec.ofChange fnSystemReachSpec)

/-- ITS FALSE NEIGHBOUR: 'it returns false'. Refute it at one input. -/
def fnSystemReachWrong : ChangeSpec := { name := "fnSystemReach", fn := fun _ => fun
  | [d] => { results := [.lit (.bool false)], args := [d] }
  | _ => none }
def FnSystemReachWrongFalsely : Prop := fnSystemReachRow.holds Try.pinned (OpenSpec.ofChange fnSystemReachWrong)

/-- 'laws.FnExactExprSame': WHATEVER THE INPUT: true; the input reads as it did. -/
def fnExactExprSameSpec : ChangeSpec := { name := "fnExactExprSame", fn := fun _ => fun
  | [d1, d2] => { results := [.lit (.bool true)], args := [d1, d2] }
  | _ => none }
def fnExactExprSameRow : OpenClaim := { program := "ytgfmonhfkhkaaaa", sum := "5a3cdff765e5f1c21d14eef91fbbfcef8d90311176731d2ef7288394d9c7e7c4", func := "loop.example/ltlcheck/laws.FnExactExprSame", spec := "fnExactExprSame", recurses := true, loops := true, plainKeys := false, apart := false }
def FnExactExprSameSaid : Prop := fnExactExprSameRow.holds Try.pinned (OpenSpec.ofChange fnExactExprSameSpec)

/-- ITS FALSE NEIGHBOUR: 'it returns false'. Refute it at one input. -/
def fnExactExprSameWrong : ChangeSpec := { name := "fnExactExprSame", fn := fun _ => fun
  | [d1, d2] => { results := [.lit (.bool false)], args := [d1, d2] }
  | _ => none }
def FnExactExprSameWrongFalsely : Prop := fnExactExprSameRow.holds Try.pinned (OpenSpec.ofChange fnExactExprSameWrong)

/-- 'laws.FnExactParseExpr': WHATEVER THE INPUT: true; the input reads as it did. -/
def fnExactParseExprSpec : ChangeSpec := { name := "fnExactParseExpr", fn := fun _ => fun
  | [d] => { results := [.lit (.bool true)], args := [d] }
  | _ => none }
def fnExactParseExprRow : OpenClaim := { program := "ytgfmonhfkhkaaaa", sum := "5a3cdff765e5f1c21d14eef91fbbfcef8d90311176731d2ef7288394d9c7e7c4", func := "loop.example/ltlcheck/laws.FnExactParseExpr", spec := "fnExactParseExpr", inPlace := ["internal/bytealg.IndexByteString"], recurses := true, plainKeys := false, apart := false }
def FnExactParseExprSaid : Prop := fnExactParseExprRow.holds Try.pinned (OpenSpec.ofChange fnExactParseExprSpec)

/-- ITS FALSE NEIGHBOUR: 'it returns false'. Refute it at one input. -/
def fnExactParseExprWrong : ChangeSpec := { name := "fnExactParseExpr", fn := fun _ => fun
  | [d] => { results := [.lit (.bool false)], args := [d] }
  | _ => none }
def FnExactParseExprWrongFalsely : Prop := fnExactParseExprRow.holds Try.pinned (OpenSpec.ofChange fnExactParseExprWrong)

/-- 'laws.FnExactSubstExpr': WHATEVER THE INPUT: true; the input reads as it did. -/
def fnExactSubstExprSpec : ChangeSpec := { name := "fnExactSubstExpr", fn := fun _ => fun
  | [d1, d2, d3] => { results := [.lit (.bool true)], args := [d1, d2, d3] }
  | _ => none }
def fnExactSubstExprRow : OpenClaim := { program := "ytgfmonhfkhkaaaa", sum := "5a3cdff765e5f1c21d14eef91fbbfcef8d90311176731d2ef7288394d9c7e7c4", func := "loop.example/ltlcheck/laws.FnExactSubstExpr", spec := "fnExactSubstExpr", unfollowed := true, recurses := true, loops := true, plainKeys := false, apart := false }
def FnExactSubstExprSaid : Prop := fnExactSubstExprRow.holds Try.pinned (OpenSpec.ofChange fnExactSubstExprSpec)

/-- ITS FALSE NEIGHBOUR: 'it returns false'. Refute it at one input. -/
def fnExactSubstExprWrong : ChangeSpec := { name := "fnExactSubstExpr", fn := fun _ => fun
  | [d1, d2, d3] => { results := [.lit (.bool false)], args := [d1, d2, d3] }
  | _ => none }
def FnExactSubstExprWrongFalsely : Prop := fnExactSubstExprRow.holds Try.pinned (OpenSpec.ofChange fnExactSubstExprWrong)

/-- 'laws.FnExactEdgeValid': WHATEVER THE INPUT: true; the input reads as it did. -/
def fnExactEdgeValidSpec : ChangeSpec := { name := "fnExactEdgeValid", fn := fun _ => fun
  | [d1, d2] => { results := [.lit (.bool true)], args := [d1, d2] }
  | _ => none }
def fnExactEdgeValidRow : OpenClaim := { program := "ytgfmonhfkhkaaaa", sum := "5a3cdff765e5f1c21d14eef91fbbfcef8d90311176731d2ef7288394d9c7e7c4", func := "loop.example/ltlcheck/laws.FnExactEdgeValid", spec := "fnExactEdgeValid", recurses := true, loops := true, plainKeys := false, apart := false }
def FnExactEdgeValidSaid : Prop := fnExactEdgeValidRow.holds Try.pinned (OpenSpec.ofChange fnExactEdgeValidSpec)

/-- ITS FALSE NEIGHBOUR: 'it returns false'. Refute it at one input. -/
def fnExactEdgeValidWrong : ChangeSpec := { name := "fnExactEdgeValid", fn := fun _ => fun
  | [d1, d2] => { results := [.lit (.bool false)], args := [d1, d2] }
  | _ => none }
def FnExactEdgeValidWrongFalsely : Prop := fnExactEdgeValidRow.holds Try.pinned (OpenSpec.ofChange fnExactEdgeValidWrong)

/-- 'laws.FnExactSystemValid': WHATEVER THE INPUT: true; the input reads as it did. -/
def fnExactSystemValidSpec : ChangeSpec := { name := "fnExactSystemValid", fn := fun _ => fun
  | [d] => { results := [.lit (.bool true)], args := [d] }
  | _ => none }
def fnExactSystemValidRow : OpenClaim := { program := "ytgfmonhfkhkaaaa", sum := "5a3cdff765e5f1c21d14eef91fbbfcef8d90311176731d2ef7288394d9c7e7c4", func := "loop.example/ltlcheck/laws.FnExactSystemValid", spec := "fnExactSystemValid", recurses := true, loops := true, plainKeys := false, apart := false }
def FnExactSystemValidSaid : Prop := fnExactSystemValidRow.holds Try.pinned (OpenSpec.ofChange fnExactSystemValidSpec)

/-- ITS FALSE NEIGHBOUR: 'it returns false'. Refute it at one input. -/
def fnExactSystemValidWrong : ChangeSpec := { name := "fnExactSystemValid", fn := fun _ => fun
  | [d] => { results := [.lit (.bool false)], args := [d] }
  | _ => none }
def FnExactSystemValidWrongFalsely : Prop := fnExactSystemValidRow.holds Try.pinned (OpenSpec.ofChange fnExactSystemValidWrong)

/-- 'laws.FnExactSystemSame': WHATEVER THE INPUT: true; the input reads as it did. -/
def fnExactSystemSameSpec : ChangeSpec := { name := "fnExactSystemSame", fn := fun _ => fun
  | [d1, d2] => { results := [.lit (.bool true)], args := [d1, d2] }
  | _ => none }
def fnExactSystemSameRow : OpenClaim := { program := "ytgfmonhfkhkaaaa", sum := "5a3cdff765e5f1c21d14eef91fbbfcef8d90311176731d2ef7288394d9c7e7c4", func := "loop.example/ltlcheck/laws.FnExactSystemSame", spec := "fnExactSystemSame", unfollowed := true, recurses := true, loops := true, plainKeys := false, apart := false }
def FnExactSystemSameSaid : Prop := fnExactSystemSameRow.holds Try.pinned (OpenSpec.ofChange fnExactSystemSameSpec)

/-- ITS FALSE NEIGHBOUR: 'it returns false'. Refute it at one input. -/
def fnExactSystemSameWrong : ChangeSpec := { name := "fnExactSystemSame", fn := fun _ => fun
  | [d1, d2] => { results := [.lit (.bool false)], args := [d1, d2] }
  | _ => none }
def FnExactSystemSameWrongFalsely : Prop := fnExactSystemSameRow.holds Try.pinned (OpenSpec.ofChange fnExactSystemSameWrong)

/-- 'laws.FnExactSystemVars': WHATEVER THE INPUT: true; the input reads as it did. -/
def fnExactSystemVarsSpec : ChangeSpec := { name := "fnExactSystemVars", fn := fun _ => fun
  | [d] => { results := [.lit (.bool true)], args := [d] }
  | _ => none }
def fnExactSystemVarsRow : OpenClaim := { program := "ytgfmonhfkhkaaaa", sum := "5a3cdff765e5f1c21d14eef91fbbfcef8d90311176731d2ef7288394d9c7e7c4", func := "loop.example/ltlcheck/laws.FnExactSystemVars", spec := "fnExactSystemVars", unfollowed := true, recurses := true, loops := true, plainKeys := false, apart := false }
def FnExactSystemVarsSaid : Prop := fnExactSystemVarsRow.holds Try.pinned (OpenSpec.ofChange fnExactSystemVarsSpec)

/-- ITS FALSE NEIGHBOUR: 'it returns false'. Refute it at one input. -/
def fnExactSystemVarsWrong : ChangeSpec := { name := "fnExactSystemVars", fn := fun _ => fun
  | [d] => { results := [.lit (.bool false)], args := [d] }
  | _ => none }
def FnExactSystemVarsWrongFalsely : Prop := fnExactSystemVarsRow.holds Try.pinned (OpenSpec.ofChange fnExactSystemVarsWrong)

/-- 'laws.FnExactSystemReach': WHATEVER THE INPUT: true; the input reads as it did. -/
def fnExactSystemReachSpec : ChangeSpec := { name := "fnExactSystemReach", fn := fun _ => fun
  | [d1, d2] => { results := [.lit (.bool true)], args := [d1, d2] }
  | _ => none }
def fnExactSystemReachRow : OpenClaim := { program := "ytgfmonhfkhkaaaa", sum := "5a3cdff765e5f1c21d14eef91fbbfcef8d90311176731d2ef7288394d9c7e7c4", func := "loop.example/ltlcheck/laws.FnExactSystemReach", spec := "fnExactSystemReach", recurses := true, loops := true, plainKeys := false, apart := false }
def FnExactSystemReachSaid : Prop := fnExactSystemReachRow.holds Try.pinned (OpenSpec.ofChange fnExactSystemReachSpec)

/-- ITS FALSE NEIGHBOUR: 'it returns false'. Refute it at one input. -/
def fnExactSystemReachWrong : ChangeSpec := { name := "fnExactSystemReach", fn := fun _ => fun
  | [d1, d2] => { results := [.lit (.bool false)], args := [d1, d2] }
  | _ => none }
def FnExactSystemReachWrongFalsely : Prop := fnExactSystemReachRow.holds Try.pinned (OpenSpec.ofChange fnExactSystemReachWrong)

/- THE SECOND FORM. 'bulk': how many values and letters a reading holds, each counted each time it is reached (what is shared counts as often as it is met; a slice's spare places count too). A statement '..UptoSaid' is the law's where the arguments, and the package variables that the reading takes, are together of bulk at most 1048576: NARROWER than '..Said'. Prove '..Said' where nothing that the law and all that it calls make is longer than what came in: it says more and counts as full. Else prove '..UptoSaid'. A law counts once. -/
mutual
def uptoBulk {H : Type} : DataW H → Nat
  | .lit (.string bytes) => bytes.length + 1
  | .lit _ => 1
  | .nil => 1
  | .ptr d => uptoBulk d + 1
  | .slice elems spare => uptoBulkAll elems + uptoBulkAll spare + 1
  | .agg parts => uptoBulkAll parts + 1
  | .iface _ d => uptoBulk d + 1
  | .map entries => uptoBulkEntries entries + 1
  | .held _ => 1
def uptoBulkAll {H : Type} : List (DataW H) → Nat
  | [] => 0
  | d :: r => uptoBulk d + uptoBulkAll r
def uptoBulkEntries {H : Type} : List (Lit × DataW H) → Nat
  | [] => 0
  | x :: r => uptoBulkEntry x + uptoBulkEntries r
def uptoBulkEntry {H : Type} : Lit × DataW H → Nat
  | (.string bytes, d) => bytes.length + uptoBulk d + 1
  | (_, d) => uptoBulk d + 1
 end
def uptoSmall : (H : Type) → List (DataW H) → Bool := fun _ ds => decide (uptoBulkAll ds ≤ 1048576)
def OpenSpec.upto (s : _root_.Go.ChangeSpec) : _root_.Go.OpenSpec := { _root_.Go.OpenSpec.ofChange s with cond := some uptoSmall }

/-- 'laws.FnSystemValid', WHERE WHAT IT READS IS OF BULK AT MOST 1048576: true; the input reads as it did. -/
def fnSystemValidUptoRow : OpenClaim := { program := "ytgfmonhfkhkaaaa", sum := "5a3cdff765e5f1c21d14eef91fbbfcef8d90311176731d2ef7288394d9c7e7c4", func := "loop.example/ltlcheck/laws.FnSystemValid", spec := "fnSystemValid", recurses := true, plainKeys := false, apart := false, narrowed := true }
def FnSystemValidUptoSaid : Prop := fnSystemValidUptoRow.holds Try.pinned (OpenSpec.upto fnSystemValidSpec)

/-- 'laws.FnEdgeValid', WHERE WHAT IT READS IS OF BULK AT MOST 1048576: true; the input reads as it did. -/
def fnEdgeValidUptoRow : OpenClaim := { program := "ytgfmonhfkhkaaaa", sum := "5a3cdff765e5f1c21d14eef91fbbfcef8d90311176731d2ef7288394d9c7e7c4", func := "loop.example/ltlcheck/laws.FnEdgeValid", spec := "fnEdgeValid", recurses := true, plainKeys := false, apart := false, narrowed := true }
def FnEdgeValidUptoSaid : Prop := fnEdgeValidUptoRow.holds Try.pinned (OpenSpec.upto fnEdgeValidSpec)

/-- 'laws.FnSystemVars', WHERE WHAT IT READS IS OF BULK AT MOST 1048576: true; the input reads as it did. -/
def fnSystemVarsUptoRow : OpenClaim := { program := "ytgfmonhfkhkaaaa", sum := "5a3cdff765e5f1c21d14eef91fbbfcef8d90311176731d2ef7288394d9c7e7c4", func := "loop.example/ltlcheck/laws.FnSystemVars", spec := "fnSystemVars", unfollowed := true, recurses := true, plainKeys := false, apart := false, narrowed := true }
def FnSystemVarsUptoSaid : Prop := fnSystemVarsUptoRow.holds Try.pinned (OpenSpec.upto fnSystemVarsSpec)

/-- 'laws.FnSystemReach', WHERE WHAT IT READS IS OF BULK AT MOST 1048576: true; the input reads as it did. -/
def fnSystemReachUptoRow : OpenClaim := { program := "ytgfmonhfkhkaaaa", sum := "5a3cdff765e5f1c21d14eef91fbbfcef8d90311176731d2ef7288394d9c7e7c4", func := "loop.example/ltlcheck/laws.FnSystemReach", spec := "fnSystemReach", recurses := true, plainKeys := false, apart := false, narrowed := true }
def FnSystemReachUptoSaid : Prop := fnSystemReachUptoRow.holds Try.pinned (OpenSpec.upto fnSystemReachSpec)

/-- 'laws.FnExactExprSame', WHERE WHAT IT READS IS OF BULK AT MOST 1048576: true; the input reads as it did. -/
def fnExactExprSameUptoRow : OpenClaim := { program := "ytgfmonhfkhkaaaa", sum := "5a3cdff765e5f1c21d14eef91fbbfcef8d90311176731d2ef7288394d9c7e7c4", func := "loop.example/ltlcheck/laws.FnExactExprSame", spec := "fnExactExprSame", recurses := true, loops := true, plainKeys := false, apart := false, narrowed := true }
def FnExactExprSameUptoSaid : Prop := fnExactExprSameUptoRow.holds Try.pinned (OpenSpec.upto fnExactExprSameSpec)

/-- 'laws.FnExactParseExpr', WHERE WHAT IT READS IS OF BULK AT MOST 1048576: true; the input reads as it did. -/
def fnExactParseExprUptoRow : OpenClaim := { program := "ytgfmonhfkhkaaaa", sum := "5a3cdff765e5f1c21d14eef91fbbfcef8d90311176731d2ef7288394d9c7e7c4", func := "loop.example/ltlcheck/laws.FnExactParseExpr", spec := "fnExactParseExpr", inPlace := ["internal/bytealg.IndexByteString"], recurses := true, plainKeys := false, apart := false, narrowed := true }
def FnExactParseExprUptoSaid : Prop := fnExactParseExprUptoRow.holds Try.pinned (OpenSpec.upto fnExactParseExprSpec)

/-- 'laws.FnExactSubstExpr', WHERE WHAT IT READS IS OF BULK AT MOST 1048576: true; the input reads as it did. -/
def fnExactSubstExprUptoRow : OpenClaim := { program := "ytgfmonhfkhkaaaa", sum := "5a3cdff765e5f1c21d14eef91fbbfcef8d90311176731d2ef7288394d9c7e7c4", func := "loop.example/ltlcheck/laws.FnExactSubstExpr", spec := "fnExactSubstExpr", unfollowed := true, recurses := true, loops := true, plainKeys := false, apart := false, narrowed := true }
def FnExactSubstExprUptoSaid : Prop := fnExactSubstExprUptoRow.holds Try.pinned (OpenSpec.upto fnExactSubstExprSpec)

/-- 'laws.FnExactEdgeValid', WHERE WHAT IT READS IS OF BULK AT MOST 1048576: true; the input reads as it did. -/
def fnExactEdgeValidUptoRow : OpenClaim := { program := "ytgfmonhfkhkaaaa", sum := "5a3cdff765e5f1c21d14eef91fbbfcef8d90311176731d2ef7288394d9c7e7c4", func := "loop.example/ltlcheck/laws.FnExactEdgeValid", spec := "fnExactEdgeValid", recurses := true, loops := true, plainKeys := false, apart := false, narrowed := true }
def FnExactEdgeValidUptoSaid : Prop := fnExactEdgeValidUptoRow.holds Try.pinned (OpenSpec.upto fnExactEdgeValidSpec)

/-- 'laws.FnExactSystemValid', WHERE WHAT IT READS IS OF BULK AT MOST 1048576: true; the input reads as it did. -/
def fnExactSystemValidUptoRow : OpenClaim := { program := "ytgfmonhfkhkaaaa", sum := "5a3cdff765e5f1c21d14eef91fbbfcef8d90311176731d2ef7288394d9c7e7c4", func := "loop.example/ltlcheck/laws.FnExactSystemValid", spec := "fnExactSystemValid", recurses := true, loops := true, plainKeys := false, apart := false, narrowed := true }
def FnExactSystemValidUptoSaid : Prop := fnExactSystemValidUptoRow.holds Try.pinned (OpenSpec.upto fnExactSystemValidSpec)

/-- 'laws.FnExactSystemSame', WHERE WHAT IT READS IS OF BULK AT MOST 1048576: true; the input reads as it did. -/
def fnExactSystemSameUptoRow : OpenClaim := { program := "ytgfmonhfkhkaaaa", sum := "5a3cdff765e5f1c21d14eef91fbbfcef8d90311176731d2ef7288394d9c7e7c4", func := "loop.example/ltlcheck/laws.FnExactSystemSame", spec := "fnExactSystemSame", unfollowed := true, recurses := true, loops := true, plainKeys := false, apart := false, narrowed := true }
def FnExactSystemSameUptoSaid : Prop := fnExactSystemSameUptoRow.holds Try.pinned (OpenSpec.upto fnExactSystemSameSpec)

/-- 'laws.FnExactSystemVars', WHERE WHAT IT READS IS OF BULK AT MOST 1048576: true; the input reads as it did. -/
def fnExactSystemVarsUptoRow : OpenClaim := { program := "ytgfmonhfkhkaaaa", sum := "5a3cdff765e5f1c21d14eef91fbbfcef8d90311176731d2ef7288394d9c7e7c4", func := "loop.example/ltlcheck/laws.FnExactSystemVars", spec := "fnExactSystemVars", unfollowed := true, recurses := true, loops := true, plainKeys := false, apart := false, narrowed := true }
def FnExactSystemVarsUptoSaid : Prop := fnExactSystemVarsUptoRow.holds Try.pinned (OpenSpec.upto fnExactSystemVarsSpec)

/-- 'laws.FnExactSystemReach', WHERE WHAT IT READS IS OF BULK AT MOST 1048576: true; the input reads as it did. -/
def fnExactSystemReachUptoRow : OpenClaim := { program := "ytgfmonhfkhkaaaa", sum := "5a3cdff765e5f1c21d14eef91fbbfcef8d90311176731d2ef7288394d9c7e7c4", func := "loop.example/ltlcheck/laws.FnExactSystemReach", spec := "fnExactSystemReach", recurses := true, loops := true, plainKeys := false, apart := false, narrowed := true }
def FnExactSystemReachUptoSaid : Prop := fnExactSystemReachUptoRow.holds Try.pinned (OpenSpec.upto fnExactSystemReachSpec)

end Rows
end Go.Proofs.Ytgfmonhfkhkaaaa
