/- The contracts of ExprValid and ExprNodes by the layout. -/
import Derived.Test.YtokljpnbhojdeaaXvI
import Derived.Test.YtokljpnbhojdeaaXvS
import Derived.Test.YtokljpnbhojdeaaXnS
import Derived.Test.YtokljpnbhojdeaaLayF
namespace Go.Proofs.Ytokljpnbhojdeaa
open Go.RowKit

theorem specValidC_any (e : Ex) (C : Nat → Value) (w : World) (hL : Lay.fo.lies w w.heap.size e C) (hd : Lay.fo.sz e ≤ 1048576) :
    Calls Try.prog 6 #[.agg #[C 0, C 1, C 2]] w fun e' w' => e' = .returned (.bool (valid e)) ∧ Below w.heap.size w w' := specValid_any e _ _ _ w hL hd
theorem implXvC_any (e : Ex) (C : Nat → Value) (w : World) (hL : Lay.fo.lies w w.heap.size e C) (hd : Lay.fo.sz e ≤ 1048576) :
    Calls Try.prog 8 #[.agg #[C 0, C 1, C 2]] w fun e' w' => e' = .returned (.bool (valid e)) ∧ Below w.heap.size w w' := implXv_any e _ _ _ w hL hd
theorem specXnC_any (e : Ex) (C : Nat → Value) (w : World) (hL : Lay.fo.lies w w.heap.size e C) (hd : Lay.fo.sz e ≤ 1048576) :
    Calls Try.prog 10 #[.agg #[C 0, C 1, C 2]] w fun e' w' => e' = .returned (.int .i64 (xNodes e)) ∧ Below w.heap.size w w' := specXn_any e _ _ _ w hL hd
theorem implXnC_any (e : Ex) (C : Nat → Value) (w : World) (hL : Lay.fo.lies w w.heap.size e C) (hd : Lay.fo.sz e ≤ 1048576) :
    Calls Try.prog 11 #[.agg #[C 0, C 1, C 2]] w fun e' w' => e' = .returned (.int .i64 (xNodes e)) ∧ Below w.heap.size w w' := implXn_any e _ _ _ w hL hd

end Go.Proofs.Ytokljpnbhojdeaa
