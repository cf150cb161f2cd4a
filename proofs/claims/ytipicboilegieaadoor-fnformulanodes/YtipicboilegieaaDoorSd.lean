/- The slice of bytes that a draw takes. -/
import Derived.Test.YtipicboilegieaaDoorD1
import Derived.Test.YtipicboilegieaaDoorGr
namespace Go.Proofs.YtipicboilegieaaDoor
open Go.RowKit

/-- The slice of bytes that a draw takes. -/
structure Seed (w : World) (A : Option Addr) (b off n cap : Nat) : Prop where
  bytes : Bytes w w.heap.size A b off n
  lenle : n ≤ maxLen
  caple : n ≤ cap
  addr : 0 < cap → ∃ ad, A = some ad

theorem Seed.under {w w' : World} {A : Option Addr} {b off n cap : Nat} (h : Seed w A b off n cap) (hb : Below w.heap.size w w') : Seed w' A b off n cap := ⟨h.bytes.under hb hb.size, h.lenle, h.caple, h.addr⟩

theorem below_of_grown {w w1 w2 : World} {g : Nat} (hb : Below w.heap.size w w1) (hg : w1.grownBy w2 (some g)) (hw : w.heap.size ≤ g) : Below w.heap.size w w2 :=
  hb.grown hg hb.size fun k hk => by injection hk with hk; omega

end Go.Proofs.YtipicboilegieaaDoor
