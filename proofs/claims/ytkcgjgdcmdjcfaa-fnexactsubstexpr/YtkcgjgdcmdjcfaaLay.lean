/- The layout of expressions. Nothing is assumed. -/
import Derived.Test.YtkcgjgdcmdjcfaaLayB
import Derived.Test.YtkcgjgdcmdjcfaaT1
import Derived.Test.YtkcgjgdcmdjcfaaW3
namespace Go.Proofs.Ytkcgjgdcmdjcfaa
open Go.RowKit

namespace Lay
def ex : Lay Ex where
  st := 3
  sz := desc
  lies w B e C := Lies w B e (C 0) (C 1) (C 2)
  sep w lo hi e C := Sep w lo hi e (C 0) (C 1) (C 2)
  lies_keep hB hk h := h.keep hB hk
  lies_ext h k := by rw [h 0 (by omega), h 1 (by omega), h 2 (by omega)]; exact k
  sep_keep hk h := h.keep hk
  sep_more a b h := h.more a b
  sep_ext h k := by rw [h 0 (by omega), h 1 (by omega), h 2 (by omega)]; exact k
  sep_lies h := h.own.lies
end Lay

end Go.Proofs.Ytkcgjgdcmdjcfaa
