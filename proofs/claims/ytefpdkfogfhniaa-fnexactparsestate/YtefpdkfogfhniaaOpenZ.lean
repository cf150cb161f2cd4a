/- Sizes of types in cells. -/
import Derived.Test.YtefpdkfogfhniaaOpenY
import Derived.ProofKit
import Derived.Deep.Slices
import Derived.Lib.SmallJoins
namespace Go.Proofs.Ytefpdkfogfhniaa
open Go.ChangeShapes Go.WideShapes Go.ChangeAt Go.RowKit Go.Deep Go.Joins

theorem Try.cells22 : Try.prog.cellsOf 22 = 1 := by kernel_rfl

end Go.Proofs.Ytefpdkfogfhniaa
