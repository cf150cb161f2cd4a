/- The walk of impl.rebuildNode. -/
import Derived.Test.YtkcgjgdcmdjcfaaT1
import Derived.Test.YtkcgjgdcmdjcfaaS1
import Derived.Test.YtkcgjgdcmdjcfaaF4
namespace Go.Proofs.Ytkcgjgdcmdjcfaa
open Go.RowKit

set_option maxHeartbeats 400000 in
set_option maxRecDepth 100000 in
theorem rebuild_any (k v : Int) (K A : Option Addr) (n cp m cap : Nat) (w : World) : Calls Try.prog 47 #[.agg #[.int .i64 k, .int .i64 v, .slice K n cp], .slice A m cap] w fun e' w' => e' = .returned (.agg #[.int .i64 k, .int .i64 v, .slice A m cap]) ∧ Below w.heap.size w w' := by
  go_enter Try.func47, Try.ntmps47
  go_wp2_with fail
  refine bodyPost_ret (v := .agg #[.int .i64 k, .int .i64 v, .slice A m cap]) (by simp [results, Try.results47, go_sem]) rfl ?_
  refine ⟨rfl, ?_⟩
  first
    | exact ((Below.refl _ _).alloc (Nat.le_refl _) _).alloc (by simp) _
    | exact occ_end (((Below.refl _ _).alloc (Nat.le_refl _) _).alloc (by simp) _) (by omega) _ _ _

end Go.Proofs.Ytkcgjgdcmdjcfaa
