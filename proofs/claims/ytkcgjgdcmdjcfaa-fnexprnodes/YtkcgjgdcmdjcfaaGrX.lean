/- What grows at one block above a base lies below nothing of the base. -/
import Derived.Test.YtkcgjgdcmdjcfaaGr
namespace Go.Proofs.Ytkcgjgdcmdjcfaa
open Go.RowKit

theorem below_of_grown {w w1 w2 : World} {g : Nat} (hb : Below w.heap.size w w1) (hg : w1.grownBy w2 (some g)) (hw : w.heap.size ≤ g) : Below w.heap.size w w2 :=
  hb.grown hg hb.size fun k hk => by injection hk with hk; omega

end Go.Proofs.Ytkcgjgdcmdjcfaa
