/- The contracts of NormalForm by the formula's layout. -/
import Derived.Test.YthcohnceehndfaaDoorNfX
import Derived.Test.YthcohnceehndfaaDoorNfI
import Derived.Test.YthcohnceehndfaaDoorLayF
namespace Go.Proofs.YthcohnceehndfaaDoor
open Go.RowKit

theorem specNfC_any (e : Ex) (C : Nat → Value) (w : World) (hL : Lay.fo.lies w w.heap.size e C) (hd : Lay.fo.sz e ≤ 1048576) :
    Calls Tryd.prog 17 #[.agg #[C 0, C 1, C 2]] w (ObPost (nfOut e) (nfOk e) w) := specNf_any e _ _ _ w hL hd
theorem implNfC_any (e : Ex) (C : Nat → Value) (w : World) (hF : Forms w) (hL : Lay.fo.lies w w.heap.size e C) (hd : Lay.fo.sz e ≤ 1048576) :
    Calls Tryd.prog 19 #[.agg #[C 0, C 1, C 2]] w (FbPost w.heap.size (nfOut e) (nfOk e) w) := implNf_any e _ _ _ w hF hL hd

end Go.Proofs.YthcohnceehndfaaDoor
