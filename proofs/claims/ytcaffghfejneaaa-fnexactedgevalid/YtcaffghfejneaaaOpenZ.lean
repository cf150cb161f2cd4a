/- Sizes of types in cells. -/
import Derived.Test.YtcaffghfejneaaaOpenY
import Derived.ProofKit
import Derived.Deep.Slices
import Derived.Lib.SmallJoins
namespace Go.Proofs.Ytcaffghfejneaaa
open Go.ChangeShapes Go.WideShapes Go.ChangeAt Go.RowKit Go.Deep Go.Joins

theorem Try.cells37 : Try.prog.cellsOf 37 = 1 := by kernel_rfl

end Go.Proofs.Ytcaffghfejneaaa
