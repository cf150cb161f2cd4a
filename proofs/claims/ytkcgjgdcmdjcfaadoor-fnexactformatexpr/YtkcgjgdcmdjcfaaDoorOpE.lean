/- The walk of the method operands of formulas. -/
import Derived.Test.YtkcgjgdcmdjcfaaDoorBs
namespace Go.Proofs.YtkcgjgdcmdjcfaaDoor
open Go.RowKit

set_option maxHeartbeats 400000 in
theorem operandsF_any (n0 n1 : Int) (A : Option Addr) (n cap : Nat) (w : World) : Calls Tryd.prog 55 #[.agg #[.int .i64 n0, .int .i64 n1, .slice A n cap]] w fun e w' => e = .returned (.slice A n cap) ∧ Below w.heap.size w w' := by
  go_enter Tryd.func55, Tryd.ntmps55
  go_wp2_with fail
  go_ret
  exact ⟨rfl, (Below.refl _ _).alloc (Nat.le_refl _) _⟩

end Go.Proofs.YtkcgjgdcmdjcfaaDoor
