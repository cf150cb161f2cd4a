/- The contracts of FormulaSame by the formula's layout. -/
import Derived.Test.YtalfmkebmejafaaSmS
import Derived.Test.YtalfmkebmejafaaSmF
import Derived.Test.YtalfmkebmejafaaLayF
namespace Go.Proofs.Ytalfmkebmejafaa
open Go.RowKit

theorem specSmC_any (e : Ex) (C : Nat → Value) (f : Ex) (D : Nat → Value) (w : World) (hL : Lay.fo.lies w w.heap.size e C) (hM : Lay.fo.lies w w.heap.size f D) (_hd : Lay.fo.sz e ≤ 1048576) (_hd2 : Lay.fo.sz f ≤ 1048576) :
    Calls Try.prog 5 #[.agg #[C 0, C 1, C 2], .agg #[D 0, D 1, D 2]] w fun e' w' => e' = .returned (.bool (sameE e f)) ∧ Below w.heap.size w w' := smS_any e f _ _ _ _ _ _ w hL hM
theorem implSmC_any (e : Ex) (C : Nat → Value) (f : Ex) (D : Nat → Value) {lo hi : Nat} (w : World) (hL : Lay.fo.sep w lo hi e C) (hlo : lo ≤ w.heap.size) (hhi : hi ≤ w.heap.size) (hM : Lay.fo.lies w w.heap.size f D) (hd : Lay.fo.sz e ≤ 1048576) (_hd2 : Lay.fo.sz f ≤ 1048576) :
    Calls Try.prog 7 #[.agg #[C 0, C 1, C 2], .agg #[D 0, D 1, D 2]] w fun e' w' => e' = .returned (.bool (sameE e f)) ∧ Below w.heap.size w w' := implSm_any e f _ _ _ _ _ _ lo hi w hL hlo hhi hM hd

end Go.Proofs.Ytalfmkebmejafaa
