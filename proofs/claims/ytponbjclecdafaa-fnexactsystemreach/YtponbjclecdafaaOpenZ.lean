/- Sizes of types in cells. -/
import Derived.Test.YtponbjclecdafaaOpenY
import Derived.ProofKit
import Derived.Deep.Slices
import Derived.Lib.SmallJoins
namespace Go.Proofs.Ytponbjclecdafaa
open Go.ChangeShapes Go.WideShapes Go.ChangeAt Go.RowKit Go.Deep Go.Joins

theorem Try.cells29 : Try.prog.cellsOf 29 = 1 := by kernel_rfl

end Go.Proofs.Ytponbjclecdafaa
