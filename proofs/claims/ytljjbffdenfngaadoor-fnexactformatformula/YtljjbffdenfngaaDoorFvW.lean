/- The contracts of FormulaValid and FormulaNodes by the formula's layout; the walk of spec.FormulaNodes. -/
import Derived.Test.YtljjbffdenfngaaDoorFvS
import Derived.Test.YtljjbffdenfngaaDoorFvN
import Derived.Test.YtljjbffdenfngaaDoorLayF
namespace Go.Proofs.YtljjbffdenfngaaDoor
open Go.RowKit

theorem specFvC_any (e : Ex) (C : Nat → Value) (w : World) (hL : Lay.fo.lies w w.heap.size e C) (hd : Lay.fo.sz e ≤ 1048576) :
    Calls Tryd.prog 8 #[.agg #[C 0, C 1, C 2]] w fun e' w' => e' = .returned (.bool (fValid e)) ∧ Below w.heap.size w w' := specFv_any e _ _ _ w hL hd
theorem implFvC_any (e : Ex) (C : Nat → Value) (w : World) (hF : Forms w) (hL : Lay.fo.lies w w.heap.size e C) (hd : Lay.fo.sz e ≤ 1048576) :
    Calls Tryd.prog 10 #[.agg #[C 0, C 1, C 2]] w fun e' w' => e' = .returned (.bool (fValid e)) ∧ Below w.heap.size w w' := implFv_any e _ _ _ w hF hL hd

end Go.Proofs.YtljjbffdenfngaaDoor
