/- The size of a number in cells. -/
import Derived.Test.YtcipnecdeipeaaaDoorProg
import Derived.ProofKit
import Derived.Deep.Slices
import Derived.Lib.SmallJoins
namespace Go.Proofs.YtcipnecdeipeaaaDoor
open Go.ChangeShapes Go.WideShapes Go.ChangeAt Go.RowKit Go.Deep Go.Joins

theorem Tryd.cells3 : Tryd.prog.cellsOf 3 = 1 := by kernel_rfl

end Go.Proofs.YtcipnecdeipeaaaDoor
