/- The slice of bytes that a draw takes. -/
import Derived.Test.YtkcgjgdcmdjcfaaGrX
import Derived.Test.YtkcgjgdcmdjcfaaD1
import Derived.Test.YtkcgjgdcmdjcfaaGr
namespace Go.Proofs.Ytkcgjgdcmdjcfaa
open Go.RowKit

/-- The slice of bytes that a draw takes. -/
structure Seed (w : World) (A : Option Addr) (b off n cap : Nat) : Prop where
  bytes : Bytes w w.heap.size A b off n
  lenle : n ≤ maxLen
  caple : n ≤ cap
  addr : 0 < cap → ∃ ad, A = some ad

theorem Seed.under {w w' : World} {A : Option Addr} {b off n cap : Nat} (h : Seed w A b off n cap) (hb : Below w.heap.size w w') : Seed w' A b off n cap := ⟨h.bytes.under hb hb.size, h.lenle, h.caple, h.addr⟩

end Go.Proofs.Ytkcgjgdcmdjcfaa
