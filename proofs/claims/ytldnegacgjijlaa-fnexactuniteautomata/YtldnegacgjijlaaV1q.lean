/- Values in their range. -/
import Derived.Test.YtldnegacgjijlaaBs
import Derived.Test.YtldnegacgjijlaaIv
namespace Go.Proofs.Ytldnegacgjijlaa
open Go.RowKit

def valOk (z : Int) : Bool := decide (0 ≤ z) && decide (z ≤ 3)
def valsOk (zs : List Int) : Bool := zs.all valOk && decide (zs.length = 3)

theorem allv_take_succ {l : List Int} {i : Nat} {x : Int} (h : l[i]? = some x) : (l.take (i + 1)).all valOk = ((l.take i).all valOk && valOk x) := by
  have hi := (List.getElem?_eq_some_iff.1 h).1
  rw [List.take_succ_eq_append_getElem hi, (List.getElem?_eq_some_iff.1 h).2]
  simp

theorem allv_false {l : List Int} {i : Nat} {x : Int} (h : l[i]? = some x) (hf : valOk x = false) : valsOk l = false := by
  unfold valsOk
  rw [show l.all valOk = false from List.all_eq_false.2 ⟨x, List.mem_of_getElem? h, by simp [hf]⟩]
  rfl

end Go.Proofs.Ytldnegacgjijlaa
