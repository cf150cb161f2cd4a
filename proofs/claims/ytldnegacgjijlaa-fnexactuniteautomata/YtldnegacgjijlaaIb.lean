/- What the program says of the type bool. -/
import Derived.Test.YtldnegacgjijlaaBs
namespace Go.Proofs.Ytldnegacgjijlaa
open Go.RowKit

theorem Try.info4 : (Try.prog.info? 4).map (fun i => (i.zero, i.size, i.bytes)) = some (some (.bool false), 1, 1) := by kernel_rfl

end Go.Proofs.Ytldnegacgjijlaa
