/-
  NARROWER THAN 'FOR EVERY INPUT', by the rows' own cells (each row's printed sentence says how): FnExactLabelsValid: loops · FnExactLabelState: loops · FnExactLabelGraph: loops · FnExactTraceWord: loops · FnExactEvalExpr: loops.
  DERIVED. THE GIVEN ROWS OF THIS SEAT. 6 by the template 'for every input the law returns true; each argument reads behind the call as it read before'; 0 by the template 'total and deterministic' (their statements: YtnkicididcnkbaaTotals.lean).
  GIVEN WITH THE SEED: the statements are not yours to turn. If you find one false, say at which input.
  Laid BY PROGRAM, IN A SANDBOX (cutbox-rows.mjs): the forced cells as the released guide's own fill.sh prints them over the translation fd11530fbe235062… (all of the seat's roots in one cut). By AI agents, Wed Nov 11 2026. No macro, syntax, notation, axiom, sorry.
-/
import Derived.Test.YtnkicididcnkbaaChecked
import GoSem.Claim
import GoSem.ClaimJoined
import GoSem.ClaimMapViews
import Derived.JoinedTies
import Derived.KernelRfl
namespace Go.Proofs.Ytnkicididcnkbaa
/- THE CELL 'sum', in the pinned program and in every row, IS THE sha256 OF THE DUMP (.gsa) THAT YtnkicididcnkbaaProg.lean LOADS. Nothing in Lean hashes anything: it is a label: what it is worth is what the hold of that sum in a sandbox is worth. -/
noncomputable def Try.pinned : Pinned := { name := "ytnkicididcnkbaa", sum := "fd11530fbe2350626f8abda5e501ef6f5b5e9d6d088708c5b37d80c6ac286f6f", checked := Try.checked }
namespace Rows
def none {H : Type} : Left H := { results := [], args := [] }

/-- 'laws.FnExactLabelsValid': WHATEVER THE INPUT: true; the input reads as it did. -/
def fnExactLabelsValidSpec : ChangeSpec := { name := "fnExactLabelsValid", fn := fun _ => fun
  | [d] => { results := [.lit (.bool true)], args := [d] }
  | _ => none }
def fnExactLabelsValidRow : OpenClaim := { program := "ytnkicididcnkbaa", sum := "fd11530fbe2350626f8abda5e501ef6f5b5e9d6d088708c5b37d80c6ac286f6f", func := "loop.example/ltlcheck/laws.FnExactLabelsValid", spec := "fnExactLabelsValid", unfollowed := true, recurses := true, loops := true, apart := false }
def FnExactLabelsValidSaid : Prop := fnExactLabelsValidRow.holds Try.pinned (OpenSpec.ofChange fnExactLabelsValidSpec)

/-- ITS FALSE NEIGHBOUR: 'it returns false'. Refute it at one input. -/
def fnExactLabelsValidWrong : ChangeSpec := { name := "fnExactLabelsValid", fn := fun _ => fun
  | [d] => { results := [.lit (.bool false)], args := [d] }
  | _ => none }
def FnExactLabelsValidWrongFalsely : Prop := fnExactLabelsValidRow.holds Try.pinned (OpenSpec.ofChange fnExactLabelsValidWrong)

/-- 'laws.FnExactLabelState': WHATEVER THE INPUT: true; the input reads as it did. -/
def fnExactLabelStateSpec : ChangeSpec := { name := "fnExactLabelState", fn := fun _ => fun
  | [d1, d2] => { results := [.lit (.bool true)], args := [d1, d2] }
  | _ => none }
def fnExactLabelStateRow : OpenClaim := { program := "ytnkicididcnkbaa", sum := "fd11530fbe2350626f8abda5e501ef6f5b5e9d6d088708c5b37d80c6ac286f6f", func := "loop.example/ltlcheck/laws.FnExactLabelState", spec := "fnExactLabelState", unfollowed := true, recurses := true, loops := true, apart := false }
def FnExactLabelStateSaid : Prop := fnExactLabelStateRow.holds Try.pinned (OpenSpec.ofChange fnExactLabelStateSpec)

/-- ITS FALSE NEIGHBOUR: 'it returns false'. Refute it at one input. -/
def fnExactLabelStateWrong : ChangeSpec := { name := "fnExactLabelState", fn := fun _ => fun
  | [d1, d2] => { results := [.lit (.bool false)], args := [d1, d2] }
  | _ => none }
def FnExactLabelStateWrongFalsely : Prop := fnExactLabelStateRow.holds Try.pinned (OpenSpec.ofChange fnExactLabelStateWrong)

/-- 'laws.FnExactTraceValid': WHATEVER THE INPUT: true; the input reads as it did. -/
def fnExactTraceValidSpec : ChangeSpec := { name := "fnExactTraceValid", fn := fun _ => fun
  | [d1, d2] => { results := [.lit (.bool true)], args := [d1, d2] }
  | _ => none }
def fnExactTraceValidRow : OpenClaim := { program := "ytnkicididcnkbaa", sum := "fd11530fbe2350626f8abda5e501ef6f5b5e9d6d088708c5b37d80c6ac286f6f", func := "loop.example/ltlcheck/laws.FnExactTraceValid", spec := "fnExactTraceValid", apart := false }
def FnExactTraceValidSaid : Prop := fnExactTraceValidRow.holds Try.pinned (OpenSpec.ofChange fnExactTraceValidSpec)

/-- ITS FALSE NEIGHBOUR: 'it returns false'. Refute it at one input. -/
def fnExactTraceValidWrong : ChangeSpec := { name := "fnExactTraceValid", fn := fun _ => fun
  | [d1, d2] => { results := [.lit (.bool false)], args := [d1, d2] }
  | _ => none }
def FnExactTraceValidWrongFalsely : Prop := fnExactTraceValidRow.holds Try.pinned (OpenSpec.ofChange fnExactTraceValidWrong)

/-- 'laws.FnExactLabelGraph': WHATEVER THE INPUT: true; the input reads as it did. -/
def fnExactLabelGraphSpec : ChangeSpec := { name := "fnExactLabelGraph", fn := fun _ => fun
  | [d1, d2] => { results := [.lit (.bool true)], args := [d1, d2] }
  | _ => none }
def fnExactLabelGraphRow : OpenClaim := { program := "ytnkicididcnkbaa", sum := "fd11530fbe2350626f8abda5e501ef6f5b5e9d6d088708c5b37d80c6ac286f6f", func := "loop.example/ltlcheck/laws.FnExactLabelGraph", spec := "fnExactLabelGraph", unfollowed := true, recurses := true, loops := true, apart := false }
def FnExactLabelGraphSaid : Prop := fnExactLabelGraphRow.holds Try.pinned (OpenSpec.ofChange fnExactLabelGraphSpec)

/-- ITS FALSE NEIGHBOUR: 'it returns false'. Refute it at one input. -/
def fnExactLabelGraphWrong : ChangeSpec := { name := "fnExactLabelGraph", fn := fun _ => fun
  | [d1, d2] => { results := [.lit (.bool false)], args := [d1, d2] }
  | _ => none }
def FnExactLabelGraphWrongFalsely : Prop := fnExactLabelGraphRow.holds Try.pinned (OpenSpec.ofChange fnExactLabelGraphWrong)

/-- 'laws.FnExactTraceWord': WHATEVER THE INPUT: true; the input reads as it did. -/
def fnExactTraceWordSpec : ChangeSpec := { name := "fnExactTraceWord", fn := fun _ => fun
  | [d1, d2, d3] => { results := [.lit (.bool true)], args := [d1, d2, d3] }
  | _ => none }
def fnExactTraceWordRow : OpenClaim := { program := "ytnkicididcnkbaa", sum := "fd11530fbe2350626f8abda5e501ef6f5b5e9d6d088708c5b37d80c6ac286f6f", func := "loop.example/ltlcheck/laws.FnExactTraceWord", spec := "fnExactTraceWord", unfollowed := true, recurses := true, loops := true, apart := false }
def FnExactTraceWordSaid : Prop := fnExactTraceWordRow.holds Try.pinned (OpenSpec.ofChange fnExactTraceWordSpec)

/-- ITS FALSE NEIGHBOUR: 'it returns false'. Refute it at one input. -/
def fnExactTraceWordWrong : ChangeSpec := { name := "fnExactTraceWord", fn := fun _ => fun
  | [d1, d2, d3] => { results := [.lit (.bool false)], args := [d1, d2, d3] }
  | _ => none }
def FnExactTraceWordWrongFalsely : Prop := fnExactTraceWordRow.holds Try.pinned (OpenSpec.ofChange fnExactTraceWordWrong)

/-- 'laws.FnExactEvalExpr': WHATEVER THE INPUT: true; the input reads as it did. -/
def fnExactEvalExprSpec : ChangeSpec := { name := "fnExactEvalExpr", fn := fun _ => fun
  | [d1, d2] => { results := [.lit (.bool true)], args := [d1, d2] }
  | _ => none }
def fnExactEvalExprRow : OpenClaim := { program := "ytnkicididcnkbaa", sum := "fd11530fbe2350626f8abda5e501ef6f5b5e9d6d088708c5b37d80c6ac286f6f", func := "loop.example/ltlcheck/laws.FnExactEvalExpr", spec := "fnExactEvalExpr", unfollowed := true, recurses := true, loops := true, apart := false }
def FnExactEvalExprSaid : Prop := fnExactEvalExprRow.holds Try.pinned (OpenSpec.ofChange fnExactEvalExprSpec)

/-- ITS FALSE NEIGHBOUR: 'it returns false'. Refute it at one input. -/
def fnExactEvalExprWrong : ChangeSpec := { name := "fnExactEvalExpr", fn := fun _ => fun
  | [d1, d2] => { results := [.lit (.bool false)], args := [d1, d2] }
  | _ => none }
def FnExactEvalExprWrongFalsely : Prop := fnExactEvalExprRow.holds Try.pinned (OpenSpec.ofChange fnExactEvalExprWrong)

/- THE SECOND FORM. 'bulk': how many values and letters a reading holds, each counted each time it is reached (what is shared counts as often as it is met; a slice's spare places count too). A statement '..UptoSaid' is the law's where the arguments, and the package variables that the reading takes, are together of bulk at most 1048576: NARROWER than '..Said'. Prove '..Said' where nothing that the law and all that it calls make is longer than what came in: it says more and counts as full. Else prove '..UptoSaid'. A law counts once. -/
mutual
def uptoBulk {H : Type} : DataW H → Nat
  | .lit (.string bytes) => bytes.length + 1
  | .lit _ => 1
  | .nil => 1
  | .ptr d => uptoBulk d + 1
  | .slice elems spare => uptoBulkAll elems + uptoBulkAll spare + 1
  | .agg parts => uptoBulkAll parts + 1
  | .iface _ d => uptoBulk d + 1
  | .map entries => uptoBulkEntries entries + 1
  | .held _ => 1
def uptoBulkAll {H : Type} : List (DataW H) → Nat
  | [] => 0
  | d :: r => uptoBulk d + uptoBulkAll r
def uptoBulkEntries {H : Type} : List (Lit × DataW H) → Nat
  | [] => 0
  | x :: r => uptoBulkEntry x + uptoBulkEntries r
def uptoBulkEntry {H : Type} : Lit × DataW H → Nat
  | (.string bytes, d) => bytes.length + uptoBulk d + 1
  | (_, d) => uptoBulk d + 1
 end
def uptoSmall : (H : Type) → List (DataW H) → Bool := fun _ ds => decide (uptoBulkAll ds ≤ 1048576)
def OpenSpec.upto (s : _root_.Go.ChangeSpec) : _root_.Go.OpenSpec := { _root_.Go.OpenSpec.ofChange s with cond := some uptoSmall }

/-- 'laws.FnExactLabelsValid', WHERE WHAT IT READS IS OF BULK AT MOST 1048576: true; the input reads as it did. -/
def fnExactLabelsValidUptoRow : OpenClaim := { program := "ytnkicididcnkbaa", sum := "fd11530fbe2350626f8abda5e501ef6f5b5e9d6d088708c5b37d80c6ac286f6f", func := "loop.example/ltlcheck/laws.FnExactLabelsValid", spec := "fnExactLabelsValid", unfollowed := true, recurses := true, loops := true, apart := false, narrowed := true }
def FnExactLabelsValidUptoSaid : Prop := fnExactLabelsValidUptoRow.holds Try.pinned (OpenSpec.upto fnExactLabelsValidSpec)

/-- 'laws.FnExactLabelState', WHERE WHAT IT READS IS OF BULK AT MOST 1048576: true; the input reads as it did. -/
def fnExactLabelStateUptoRow : OpenClaim := { program := "ytnkicididcnkbaa", sum := "fd11530fbe2350626f8abda5e501ef6f5b5e9d6d088708c5b37d80c6ac286f6f", func := "loop.example/ltlcheck/laws.FnExactLabelState", spec := "fnExactLabelState", unfollowed := true, recurses := true, loops := true, apart := false, narrowed := true }
def FnExactLabelStateUptoSaid : Prop := fnExactLabelStateUptoRow.holds Try.pinned (OpenSpec.upto fnExactLabelStateSpec)

/-- 'laws.FnExactTraceValid', WHERE WHAT IT READS IS OF BULK AT MOST 1048576: true; the input reads as it did. -/
def fnExactTraceValidUptoRow : OpenClaim := { program := "ytnkicididcnkbaa", sum := "fd11530fbe2350626f8abda5e501ef6f5b5e9d6d088708c5b37d80c6ac286f6f", func := "loop.example/ltlcheck/laws.FnExactTraceValid", spec := "fnExactTraceValid", apart := false, narrowed := true }
def FnExactTraceValidUptoSaid : Prop := fnExactTraceValidUptoRow.holds Try.pinned (OpenSpec.upto fnExactTraceValidSpec)

/-- 'laws.FnExactLabelGraph', WHERE WHAT IT READS IS OF BULK AT MOST 1048576: true; the input reads as it did. -/
def fnExactLabelGraphUptoRow : OpenClaim := { program := "ytnkicididcnkbaa", sum := "fd11530fbe2350626f8abda5e501ef6f5b5e9d6d088708c5b37d80c6ac286f6f", func := "loop.example/ltlcheck/laws.FnExactLabelGraph", spec := "fnExactLabelGraph", unfollowed := true, recurses := true, loops := true, apart := false, narrowed := true }
def FnExactLabelGraphUptoSaid : Prop := fnExactLabelGraphUptoRow.holds Try.pinned (OpenSpec.upto fnExactLabelGraphSpec)

/-- 'laws.FnExactTraceWord', WHERE WHAT IT READS IS OF BULK AT MOST 1048576: true; the input reads as it did. -/
def fnExactTraceWordUptoRow : OpenClaim := { program := "ytnkicididcnkbaa", sum := "fd11530fbe2350626f8abda5e501ef6f5b5e9d6d088708c5b37d80c6ac286f6f", func := "loop.example/ltlcheck/laws.FnExactTraceWord", spec := "fnExactTraceWord", unfollowed := true, recurses := true, loops := true, apart := false, narrowed := true }
def FnExactTraceWordUptoSaid : Prop := fnExactTraceWordUptoRow.holds Try.pinned (OpenSpec.upto fnExactTraceWordSpec)

/-- 'laws.FnExactEvalExpr', WHERE WHAT IT READS IS OF BULK AT MOST 1048576: true; the input reads as it did. -/
def fnExactEvalExprUptoRow : OpenClaim := { program := "ytnkicididcnkbaa", sum := "fd11530fbe2350626f8abda5e501ef6f5b5e9d6d088708c5b37d80c6ac286f6f", func := "loop.example/ltlcheck/laws.FnExactEvalExpr", spec := "fnExactEvalExpr", unfollowed := true, recurses := true, loops := true, apart := false, narrowed := true }
def FnExactEvalExprUptoSaid : Prop := fnExactEvalExprUptoRow.holds Try.pinned (OpenSpec.upto fnExactEvalExprSpec)

end Rows
end Go.Proofs.Ytnkicididcnkbaa
