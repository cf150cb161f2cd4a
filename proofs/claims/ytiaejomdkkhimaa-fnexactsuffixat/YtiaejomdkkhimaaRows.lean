/-
  No cell of these rows narrows 'for every input' (looked for: loops, veiled, ifaces, maps, wideKeys, modest, calm, conditions, laid).
  DERIVED. THE GIVEN ROWS OF THIS SEAT. 6 by the template 'for every input the law returns true; each argument reads behind the call as it read before'; 0 by the template 'total and deterministic' (their statements: YtiaejomdkkhimaaTotals.lean).
  GIVEN WITH THE SEED: the statements are not yours to turn. If you find one false, say at which input.
  Laid BY PROGRAM, IN A SANDBOX (cutbox-rows.mjs): the forced cells as the released guide's own fill.sh prints them over the translation 834e41b17e1591d0… (all of the seat's roots in one cut). By AI agents, Wed Nov 11 2026. No macro, syntax, notation, axiom, sorry.
-/
import Derived.Test.YtiaejomdkkhimaaChecked
import GoSem.Claim
import GoSem.ClaimJoined
import GoSem.ClaimMapViews
import Derived.JoinedTies
import Derived.KernelRfl
namespace Go.Proofs.Ytiaejomdkkhimaa
/- THE CELL 'sum', in the pinned program and in every row, IS THE sha256 OF THE DUMP (.gsa) THAT YtiaejomdkkhimaaProg.lean LOADS. Nothing in Lean hashes anything: it is a label: what it is worth is what the hold of that sum in a sandbox is worth. -/
noncomputable def Try.pinned : Pinned := { name := "ytiaejomdkkhimaa", sum := "834e41b17e1591d0e8b1c2bb9600e92b8ed836f31b29cde055bc1b069a60531a", checked := Try.checked }
namespace Rows
def none {H : Type} : Left H := { results := [], args := [] }

/-- 'laws.FnExactLassoValid': WHATEVER THE INPUT: true; the input reads as it did. -/
def fnExactLassoValidSpec : ChangeSpec := { name := "fnExactLassoValid", fn := fun _ => fun
  | [d] => { results := [.lit (.bool true)], args := [d] }
  | _ => none }
def fnExactLassoValidRow : OpenClaim := { program := "ytiaejomdkkhimaa", sum := "834e41b17e1591d0e8b1c2bb9600e92b8ed836f31b29cde055bc1b069a60531a", func := "loop.example/ltlcheck/laws.FnExactLassoValid", spec := "fnExactLassoValid", apart := false }
def FnExactLassoValidSaid : Prop := fnExactLassoValidRow.holds Try.pinned (OpenSpec.ofChange fnExactLassoValidSpec)

/-- ITS FALSE NEIGHBOUR: 'it returns false'. Refute it at one input. -/
def fnExactLassoValidWrong : ChangeSpec := { name := "fnExactLassoValid", fn := fun _ => fun
  | [d] => { results := [.lit (.bool false)], args := [d] }
  | _ => none }
def FnExactLassoValidWrongFalsely : Prop := fnExactLassoValidRow.holds Try.pinned (OpenSpec.ofChange fnExactLassoValidWrong)

/-- 'laws.FnExactLassoSame': WHATEVER THE INPUT: true; the input reads as it did. -/
def fnExactLassoSameSpec : ChangeSpec := { name := "fnExactLassoSame", fn := fun _ => fun
  | [d1, d2] => { results := [.lit (.bool true)], args := [d1, d2] }
  | _ => none }
def fnExactLassoSameRow : OpenClaim := { program := "ytiaejomdkkhimaa", sum := "834e41b17e1591d0e8b1c2bb9600e92b8ed836f31b29cde055bc1b069a60531a", func := "loop.example/ltlcheck/laws.FnExactLassoSame", spec := "fnExactLassoSame", apart := false }
def FnExactLassoSameSaid : Prop := fnExactLassoSameRow.holds Try.pinned (OpenSpec.ofChange fnExactLassoSameSpec)

/-- ITS FALSE NEIGHBOUR: 'it returns false'. Refute it at one input. -/
def fnExactLassoSameWrong : ChangeSpec := { name := "fnExactLassoSame", fn := fun _ => fun
  | [d1, d2] => { results := [.lit (.bool false)], args := [d1, d2] }
  | _ => none }
def FnExactLassoSameWrongFalsely : Prop := fnExactLassoSameRow.holds Try.pinned (OpenSpec.ofChange fnExactLassoSameWrong)

/-- 'laws.FnExactLetterAt': WHATEVER THE INPUT: true; the input reads as it did. -/
def fnExactLetterAtSpec : ChangeSpec := { name := "fnExactLetterAt", fn := fun _ => fun
  | [d1, d2] => { results := [.lit (.bool true)], args := [d1, d2] }
  | _ => none }
def fnExactLetterAtRow : OpenClaim := { program := "ytiaejomdkkhimaa", sum := "834e41b17e1591d0e8b1c2bb9600e92b8ed836f31b29cde055bc1b069a60531a", func := "loop.example/ltlcheck/laws.FnExactLetterAt", spec := "fnExactLetterAt", apart := false }
def FnExactLetterAtSaid : Prop := fnExactLetterAtRow.holds Try.pinned (OpenSpec.ofChange fnExactLetterAtSpec)

/-- ITS FALSE NEIGHBOUR: 'it returns false'. Refute it at one input. -/
def fnExactLetterAtWrong : ChangeSpec := { name := "fnExactLetterAt", fn := fun _ => fun
  | [d1, d2] => { results := [.lit (.bool false)], args := [d1, d2] }
  | _ => none }
def FnExactLetterAtWrongFalsely : Prop := fnExactLetterAtRow.holds Try.pinned (OpenSpec.ofChange fnExactLetterAtWrong)

/-- 'laws.FnExactSuffixAt': WHATEVER THE INPUT: true; the input reads as it did. -/
def fnExactSuffixAtSpec : ChangeSpec := { name := "fnExactSuffixAt", fn := fun _ => fun
  | [d1, d2] => { results := [.lit (.bool true)], args := [d1, d2] }
  | _ => none }
def fnExactSuffixAtRow : OpenClaim := { program := "ytiaejomdkkhimaa", sum := "834e41b17e1591d0e8b1c2bb9600e92b8ed836f31b29cde055bc1b069a60531a", func := "loop.example/ltlcheck/laws.FnExactSuffixAt", spec := "fnExactSuffixAt", apart := false }
def FnExactSuffixAtSaid : Prop := fnExactSuffixAtRow.holds Try.pinned (OpenSpec.ofChange fnExactSuffixAtSpec)

/-- ITS FALSE NEIGHBOUR: 'it returns false'. Refute it at one input. -/
def fnExactSuffixAtWrong : ChangeSpec := { name := "fnExactSuffixAt", fn := fun _ => fun
  | [d1, d2] => { results := [.lit (.bool false)], args := [d1, d2] }
  | _ => none }
def FnExactSuffixAtWrongFalsely : Prop := fnExactSuffixAtRow.holds Try.pinned (OpenSpec.ofChange fnExactSuffixAtWrong)

/-- 'laws.FnExactFormatLasso': WHATEVER THE INPUT: true; the input reads as it did. -/
def fnExactFormatLassoSpec : ChangeSpec := { name := "fnExactFormatLasso", fn := fun _ => fun
  | [d] => { results := [.lit (.bool true)], args := [d] }
  | _ => none }
def fnExactFormatLassoRow : OpenClaim := { program := "ytiaejomdkkhimaa", sum := "834e41b17e1591d0e8b1c2bb9600e92b8ed836f31b29cde055bc1b069a60531a", func := "loop.example/ltlcheck/laws.FnExactFormatLasso", spec := "fnExactFormatLasso", recurses := true, apart := false }
def FnExactFormatLassoSaid : Prop := fnExactFormatLassoRow.holds Try.pinned (OpenSpec.ofChange fnExactFormatLassoSpec)

/-- ITS FALSE NEIGHBOUR: 'it returns false'. Refute it at one input. -/
def fnExactFormatLassoWrong : ChangeSpec := { name := "fnExactFormatLasso", fn := fun _ => fun
  | [d] => { results := [.lit (.bool false)], args := [d] }
  | _ => none }
def FnExactFormatLassoWrongFalsely : Prop := fnExactFormatLassoRow.holds Try.pinned (OpenSpec.ofChange fnExactFormatLassoWrong)

/-- 'laws.FnExactParseLasso': WHATEVER THE INPUT: true; the input reads as it did. -/
def fnExactParseLassoSpec : ChangeSpec := { name := "fnExactParseLasso", fn := fun _ => fun
  | [d] => { results := [.lit (.bool true)], args := [d] }
  | _ => none }
def fnExactParseLassoRow : OpenClaim := { program := "ytiaejomdkkhimaa", sum := "834e41b17e1591d0e8b1c2bb9600e92b8ed836f31b29cde055bc1b069a60531a", func := "loop.example/ltlcheck/laws.FnExactParseLasso", spec := "fnExactParseLasso", inPlace := ["internal/bytealg.IndexByteString", "internal/bytealg.IndexString"], named := ["internal/bytealg.MaxLen"], apart := false }
def FnExactParseLassoSaid : Prop := fnExactParseLassoRow.holds Try.pinned (OpenSpec.ofChange fnExactParseLassoSpec)

/-- ITS FALSE NEIGHBOUR: 'it returns false'. Refute it at one input. -/
def fnExactParseLassoWrong : ChangeSpec := { name := "fnExactParseLasso", fn := fun _ => fun
  | [d] => { results := [.lit (.bool false)], args := [d] }
  | _ => none }
def FnExactParseLassoWrongFalsely : Prop := fnExactParseLassoRow.holds Try.pinned (OpenSpec.ofChange fnExactParseLassoWrong)

/- THE SECOND FORM. 'bulk': how many values and letters a reading holds, each counted each time it is reached (what is shared counts as often as it is met; a slice's spare places count too). A statement '..UptoSaid' is the law's where the arguments, and the package variables that the reading takes, are together of bulk at most 1048576: NARROWER than '..Said'. Prove '..Said' where nothing that the law and all that it calls make is longer than what came in: it says more and counts as full. Else prove '..UptoSaid'. A law counts once. -/
mutual
def uptoBulk {H : Type} : DataW H → Nat
  | .lit (.string bytes) => bytes.length + 1
  | .lit _ => 1
  | .nil => 1
  | .ptr d => uptoBulk d + 1
  | .slice elems spare => uptoBulkAll elems + uptoBulkAll spare + 1
  | .agg parts => uptoBulkAll parts + 1
  | .iface _ d => uptoBulk d + 1
  | .map entries => uptoBulkEntries entries + 1
  | .held _ => 1
def uptoBulkAll {H : Type} : List (DataW H) → Nat
  | [] => 0
  | d :: r => uptoBulk d + uptoBulkAll r
def uptoBulkEntries {H : Type} : List (Lit × DataW H) → Nat
  | [] => 0
  | x :: r => uptoBulkEntry x + uptoBulkEntries r
def uptoBulkEntry {H : Type} : Lit × DataW H → Nat
  | (.string bytes, d) => bytes.length + uptoBulk d + 1
  | (_, d) => uptoBulk d + 1
 end
def uptoSmall : (H : Type) → List (DataW H) → Bool := fun _ ds => decide (uptoBulkAll ds ≤ 1048576)
def OpenSpec.upto (s : _root_.Go.ChangeSpec) : _root_.Go.OpenSpec := { _root_.Go.OpenSpec.ofChange s with cond := some uptoSmall }

/-- 'laws.FnExactLassoValid', WHERE WHAT IT READS IS OF BULK AT MOST 1048576: true; the input reads as it did. -/
def fnExactLassoValidUptoRow : OpenClaim := { program := "ytiaejomdkkhimaa", sum := "834e41b17e1591d0e8b1c2bb9600e92b8ed836f31b29cde055bc1b069a60531a", func := "loop.example/ltlcheck/laws.FnExactLassoValid", spec := "fnExactLassoValid", apart := false, narrowed := true }
def FnExactLassoValidUptoSaid : Prop := fnExactLassoValidUptoRow.holds Try.pinned (OpenSpec.upto fnExactLassoValidSpec)

/-- 'laws.FnExactLassoSame', WHERE WHAT IT READS IS OF BULK AT MOST 1048576: true; the input reads as it did. -/
def fnExactLassoSameUptoRow : OpenClaim := { program := "ytiaejomdkkhimaa", sum := "834e41b17e1591d0e8b1c2bb9600e92b8ed836f31b29cde055bc1b069a60531a", func := "loop.example/ltlcheck/laws.FnExactLassoSame", spec := "fnExactLassoSame", apart := false, narrowed := true }
def FnExactLassoSameUptoSaid : Prop := fnExactLassoSameUptoRow.holds Try.pinned (OpenSpec.upto fnExactLassoSameSpec)

/-- 'laws.FnExactLetterAt', WHERE WHAT IT READS IS OF BULK AT MOST 1048576: true; the input reads as it did. -/
def fnExactLetterAtUptoRow : OpenClaim := { program := "ytiaejomdkkhimaa", sum := "834e41b17e1591d0e8b1c2bb9600e92b8ed836f31b29cde055bc1b069a60531a", func := "loop.example/ltlcheck/laws.FnExactLetterAt", spec := "fnExactLetterAt", apart := false, narrowed := true }
def FnExactLetterAtUptoSaid : Prop := fnExactLetterAtUptoRow.holds Try.pinned (OpenSpec.upto fnExactLetterAtSpec)

/-- 'laws.FnExactSuffixAt', WHERE WHAT IT READS IS OF BULK AT MOST 1048576: true; the input reads as it did. -/
def fnExactSuffixAtUptoRow : OpenClaim := { program := "ytiaejomdkkhimaa", sum := "834e41b17e1591d0e8b1c2bb9600e92b8ed836f31b29cde055bc1b069a60531a", func := "loop.example/ltlcheck/laws.FnExactSuffixAt", spec := "fnExactSuffixAt", apart := false, narrowed := true }
def FnExactSuffixAtUptoSaid : Prop := fnExactSuffixAtUptoRow.holds Try.pinned (OpenSpec.upto fnExactSuffixAtSpec)

/-- 'laws.FnExactFormatLasso', WHERE WHAT IT READS IS OF BULK AT MOST 1048576: true; the input reads as it did. -/
def fnExactFormatLassoUptoRow : OpenClaim := { program := "ytiaejomdkkhimaa", sum := "834e41b17e1591d0e8b1c2bb9600e92b8ed836f31b29cde055bc1b069a60531a", func := "loop.example/ltlcheck/laws.FnExactFormatLasso", spec := "fnExactFormatLasso", recurses := true, apart := false, narrowed := true }
def FnExactFormatLassoUptoSaid : Prop := fnExactFormatLassoUptoRow.holds Try.pinned (OpenSpec.upto fnExactFormatLassoSpec)

/-- 'laws.FnExactParseLasso', WHERE WHAT IT READS IS OF BULK AT MOST 1048576: true; the input reads as it did. -/
def fnExactParseLassoUptoRow : OpenClaim := { program := "ytiaejomdkkhimaa", sum := "834e41b17e1591d0e8b1c2bb9600e92b8ed836f31b29cde055bc1b069a60531a", func := "loop.example/ltlcheck/laws.FnExactParseLasso", spec := "fnExactParseLasso", inPlace := ["internal/bytealg.IndexByteString", "internal/bytealg.IndexString"], named := ["internal/bytealg.MaxLen"], apart := false, narrowed := true }
def FnExactParseLassoUptoSaid : Prop := fnExactParseLassoUptoRow.holds Try.pinned (OpenSpec.upto fnExactParseLassoSpec)

end Rows
end Go.Proofs.Ytiaejomdkkhimaa
