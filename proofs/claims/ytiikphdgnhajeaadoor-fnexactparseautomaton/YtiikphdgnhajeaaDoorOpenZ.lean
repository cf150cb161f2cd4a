/- Sizes of types in cells. -/
import Derived.Test.YtiikphdgnhajeaaDoorOpenY
import Derived.ProofKit
import Derived.Deep.Slices
import Derived.Lib.SmallJoins
namespace Go.Proofs.YtiikphdgnhajeaaDoor
open Go.ChangeShapes Go.WideShapes Go.ChangeAt Go.RowKit Go.Deep Go.Joins

theorem Tryd.cells22 : Tryd.prog.cellsOf 22 = 1 := by kernel_rfl

end Go.Proofs.YtiikphdgnhajeaaDoor
