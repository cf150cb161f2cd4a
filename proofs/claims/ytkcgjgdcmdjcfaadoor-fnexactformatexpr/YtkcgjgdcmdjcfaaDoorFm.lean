/- What a function leaves that answers a text. Nothing is assumed. -/
import Derived.Test.YtkcgjgdcmdjcfaaDoorBs
namespace Go.Proofs.YtkcgjgdcmdjcfaaDoor
open Go.RowKit

/-- A text is returned. -/
def FmPost (b : ByteArray) (w : World) (e' : Ending) (w' : World) : Prop := e' = .returned (.string b) ∧ Below w.heap.size w w'
theorem ret_str {a b : ByteArray} (h : a = b) : Ending.returned (.string a) = Ending.returned (.string b) := by rw [h]

end Go.Proofs.YtkcgjgdcmdjcfaaDoor
