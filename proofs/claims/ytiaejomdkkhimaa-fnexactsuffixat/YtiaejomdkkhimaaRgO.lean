/- The range of a number that is handed in. -/
import Derived.Test.YtiaejomdkkhimaaLuW
import Derived.WideShapes
namespace Go.Proofs.Ytiaejomdkkhimaa
namespace La
open Go.ChangeShapes Go.WideShapes

theorem rng_ok {P : Program} {w : World} {base : Nat} {t : TypeId} {n : Int} (ht : P.underlying t = some (.int .i64)) (h : Value.okWide P w .any base t (.int .i64 n)) : Rng n := by
  simp only [Value.okWide, ht, Cell.okWide, Cell.ok] at h
  simp [IntKind.has, IntKind.min, IntKind.max, IntKind.bits, IntKind.signed] at h
  exact h

end La
end Go.Proofs.Ytiaejomdkkhimaa
