/- The contracts of spec.ExprValid and impl.ExprValid. -/
import Derived.Test.YtkcgjgdcmdjcfaaW3
import Derived.Test.YtkcgjgdcmdjcfaaW6
import Derived.Test.YtkcgjgdcmdjcfaaW7
import Derived.Test.YtkcgjgdcmdjcfaaXvS
import Derived.Test.YtkcgjgdcmdjcfaaXvE
import Derived.Deep.RegionHeld3
namespace Go.Proofs.Ytkcgjgdcmdjcfaa
open Go.RowKit

theorem implValid_any (e : Ex) (c0 c1 c2 : Value) (w : World) (hL : Lies w w.heap.size e c0 c1 c2) (hd : desc e ≤ 1048576) :
    Calls Try.prog 28 #[.agg #[c0, c1, c2]] w fun e' w' => e' = .returned (.bool (valid e)) ∧ Below w.heap.size w w' := implXv_any e c0 c1 c2 w hL hd

end Go.Proofs.Ytkcgjgdcmdjcfaa
