/- The walk of the method operands of formulas. -/
import Derived.Test.YtkcgjgdcmdjcfaaBs
namespace Go.Proofs.Ytkcgjgdcmdjcfaa
open Go.RowKit

set_option maxHeartbeats 400000 in
theorem operandsF_any (n0 n1 : Int) (A : Option Addr) (n cap : Nat) (w : World) : Calls Try.prog 72 #[.agg #[.int .i64 n0, .int .i64 n1, .slice A n cap]] w fun e w' => e = .returned (.slice A n cap) ∧ Below w.heap.size w w' := by
  go_enter Try.func72, Try.ntmps72
  go_wp2_with fail
  go_ret
  exact ⟨rfl, (Below.refl _ _).alloc (Nat.le_refl _) _⟩

end Go.Proofs.Ytkcgjgdcmdjcfaa
