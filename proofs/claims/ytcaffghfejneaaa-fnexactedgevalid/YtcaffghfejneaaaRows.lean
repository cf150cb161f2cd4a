/-
  NARROWER THAN 'FOR EVERY INPUT', by the rows' own cells (each row's printed sentence says how): FnExactEdgeValid: loops · FnExactSystemValid: loops · FnExactSystemReach: loops.
  DERIVED. THE GIVEN ROWS OF THIS SEAT. 3 by the template 'for every input the law returns true; each argument reads behind the call as it read before'; 0 by the template 'total and deterministic' (their statements: YtcaffghfejneaaaTotals.lean).
  GIVEN WITH THE SEED: the statements are not yours to turn. If you find one false, say at which input.
  Laid BY PROGRAM, IN A SANDBOX (cutbox-rows.mjs): the forced cells as the released guide's own fill.sh prints them over the translation 5e400c052506b924… (all of the seat's roots in one cut). By AI agents, Wed Nov 11 2026. No macro, syntax, notation, axiom, sorry.
-/
import Derived.Test.YtcaffghfejneaaaChecked
import GoSem.Claim
import GoSem.ClaimJoined
import GoSem.ClaimMapViews
import Derived.JoinedTies
import Derived.KernelRfl
namespace Go.Proofs.Ytcaffghfejneaaa
/- THE CELL 'sum', in the pinned program and in every row, IS THE sha256 OF THE DUMP (.gsa) THAT YtcaffghfejneaaaProg.lean LOADS. Nothing in Lean hashes anything: it is a label: what it is worth is what the hold of that sum in a sandbox is worth. -/
noncomputable def Try.pinned : Pinned := { name := "ytcaffghfejneaaa", sum := "5e400c052506b924f05b484aa3d847f9e41ef6d3518b47b64f84a9905f0dee40", checked := Try.checked }
namespace Rows
def none {H : Type} : Left H := { results := [], args := [] }

/-- 'laws.FnExactEdgeValid': WHATEVER THE INPUT: true; the input reads as it did. -/
def fnExactEdgeValidSpec : ChangeSpec := { name := "fnExactEdgeValid", fn := fun _ => fun
  | [d1, d2] => { results := [.lit (.bool true)], args := [d1, d2] }
  | _ => none }
def fnExactEdgeValidRow : OpenClaim := { program := "ytcaffghfejneaaa", sum := "5e400c052506b924f05b484aa3d847f9e41ef6d3518b47b64f84a9905f0dee40", func := "loop.example/ltlcheck/laws.FnExactEdgeValid", spec := "fnExactEdgeValid", unfollowed := true, recurses := true, loops := true, apart := false }
def FnExactEdgeValidSaid : Prop := fnExactEdgeValidRow.holds Try.pinned (OpenSpec.ofChange fnExactEdgeValidSpec)

/-- ITS FALSE NEIGHBOUR: 'it returns false'. Refute it at one input. -/
def fnExactEdgeValidWrong : ChangeSpec := { name := "fnExactEdgeValid", fn := fun _ => fun
  | [d1, d2] => { results := [.lit (.bool false)], args := [d1, d2] }
  | _ => none }
def FnExactEdgeValidWrongFalsely : Prop := fnExactEdgeValidRow.holds Try.pinned (OpenSpec.ofChange fnExactEdgeValidWrong)

/-- 'laws.FnExactSystemValid': WHATEVER THE INPUT: true; the input reads as it did. -/
def fnExactSystemValidSpec : ChangeSpec := { name := "fnExactSystemValid", fn := fun _ => fun
  | [d] => { results := [.lit (.bool true)], args := [d] }
  | _ => none }
def fnExactSystemValidRow : OpenClaim := { program := "ytcaffghfejneaaa", sum := "5e400c052506b924f05b484aa3d847f9e41ef6d3518b47b64f84a9905f0dee40", func := "loop.example/ltlcheck/laws.FnExactSystemValid", spec := "fnExactSystemValid", unfollowed := true, recurses := true, loops := true, apart := false }
def FnExactSystemValidSaid : Prop := fnExactSystemValidRow.holds Try.pinned (OpenSpec.ofChange fnExactSystemValidSpec)

/-- ITS FALSE NEIGHBOUR: 'it returns false'. Refute it at one input. -/
def fnExactSystemValidWrong : ChangeSpec := { name := "fnExactSystemValid", fn := fun _ => fun
  | [d] => { results := [.lit (.bool false)], args := [d] }
  | _ => none }
def FnExactSystemValidWrongFalsely : Prop := fnExactSystemValidRow.holds Try.pinned (OpenSpec.ofChange fnExactSystemValidWrong)

/-- 'laws.FnExactSystemReach': WHATEVER THE INPUT: true; the input reads as it did. -/
def fnExactSystemReachSpec : ChangeSpec := { name := "fnExactSystemReach", fn := fun _ => fun
  | [d1, d2] => { results := [.lit (.bool true)], args := [d1, d2] }
  | _ => none }
def fnExactSystemReachRow : OpenClaim := { program := "ytcaffghfejneaaa", sum := "5e400c052506b924f05b484aa3d847f9e41ef6d3518b47b64f84a9905f0dee40", func := "loop.example/ltlcheck/laws.FnExactSystemReach", spec := "fnExactSystemReach", unfollowed := true, recurses := true, loops := true, apart := false }
def FnExactSystemReachSaid : Prop := fnExactSystemReachRow.holds Try.pinned (OpenSpec.ofChange fnExactSystemReachSpec)

/-- ITS FALSE NEIGHBOUR: 'it returns false'. Refute it at one input. -/
def fnExactSystemReachWrong : ChangeSpec := { name := "fnExactSystemReach", fn := fun _ => fun
  | [d1, d2] => { results := [.lit (.bool false)], args := [d1, d2] }
  | _ => none }
def FnExactSystemReachWrongFalsely : Prop := fnExactSystemReachRow.holds Try.pinned (OpenSpec.ofChange fnExactSystemReachWrong)

/- THE SECOND FORM. 'bulk': how many values and letters a reading holds, each counted each time it is reached (what is shared counts as often as it is met; a slice's spare places count too). A statement '..UptoSaid' is the law's where the arguments, and the package variables that the reading takes, are together of bulk at most 1048576: NARROWER than '..Said'. Prove '..Said' where nothing that the law and all that it calls make is longer than what came in: it says more and counts as full. Else prove '..UptoSaid'. A law counts once. -/
mutual
def uptoBulk {H : Type} : DataW H → Nat
  | .lit (.string bytes) => bytes.length + 1
  | .lit _ => 1
  | .nil => 1
  | .ptr d => uptoBulk d + 1
  | .slice elems spare => uptoBulkAll elems + uptoBulkAll spare + 1
  | .agg parts => uptoBulkAll parts + 1
  | .iface _ d => uptoBulk d + 1
  | .map entries => uptoBulkEntries entries + 1
  | .held _ => 1
def uptoBulkAll {H : Type} : List (DataW H) → Nat
  | [] => 0
  | d :: r => uptoBulk d + uptoBulkAll r
def uptoBulkEntries {H : Type} : List (Lit × DataW H) → Nat
  | [] => 0
  | x :: r => uptoBulkEntry x + uptoBulkEntries r
def uptoBulkEntry {H : Type} : Lit × DataW H → Nat
  | (.string bytes, d) => bytes.length + uptoBulk d + 1
  | (_, d) => uptoBulk d + 1
 end
def uptoSmall : (H : Type) → List (DataW H) → Bool := fun _ ds => decide (uptoBulkAll ds ≤ 1048576)
def OpenSpec.upto (s : _root_.Go.ChangeSpec) : _root_.Go.OpenSpec := { _root_.Go.OpenSpec.ofChange s with cond := some uptoSmall }

/-- 'laws.FnExactEdgeValid', WHERE WHAT IT READS IS OF BULK AT MOST 1048576: true; the input reads as it did. -/
def fnExactEdgeValidUptoRow : OpenClaim := { program := "ytcaffghfejneaaa", sum := "5e400c052506b924f05b484aa3d847f9e41ef6d3518b47b64f84a9905f0dee40", func := "loop.example/ltlcheck/laws.FnExactEdgeValid", spec := "fnExactEdgeValid", unfollowed := true, recurses := true, loops := true, apart := false, narrowed := true }
def FnExactEdgeValidUptoSaid : Prop := fnExactEdgeValidUptoRow.holds Try.pinned (OpenSpec.upto fnExactEdgeValidSpec)

/-- 'laws.FnExactSystemValid', WHERE WHAT IT READS IS OF BULK AT MOST 1048576: true; the input reads as it did. -/
def fnExactSystemValidUptoRow : OpenClaim := { program := "ytcaffghfejneaaa", sum := "5e400c052506b924f05b484aa3d847f9e41ef6d3518b47b64f84a9905f0dee40", func := "loop.example/ltlcheck/laws.FnExactSystemValid", spec := "fnExactSystemValid", unfollowed := true, recurses := true, loops := true, apart := false, narrowed := true }
def FnExactSystemValidUptoSaid : Prop := fnExactSystemValidUptoRow.holds Try.pinned (OpenSpec.upto fnExactSystemValidSpec)

/-- 'laws.FnExactSystemReach', WHERE WHAT IT READS IS OF BULK AT MOST 1048576: true; the input reads as it did. -/
def fnExactSystemReachUptoRow : OpenClaim := { program := "ytcaffghfejneaaa", sum := "5e400c052506b924f05b484aa3d847f9e41ef6d3518b47b64f84a9905f0dee40", func := "loop.example/ltlcheck/laws.FnExactSystemReach", spec := "fnExactSystemReach", unfollowed := true, recurses := true, loops := true, apart := false, narrowed := true }
def FnExactSystemReachUptoSaid : Prop := fnExactSystemReachUptoRow.holds Try.pinned (OpenSpec.upto fnExactSystemReachSpec)

end Rows
end Go.Proofs.Ytcaffghfejneaaa
