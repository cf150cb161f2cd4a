/- Which variables occur: plain facts. -/
import Derived.Test.YtkcgjgdcmdjcfaaPlain
import Derived.Test.YtkcgjgdcmdjcfaaMem
namespace Go.Proofs.Ytkcgjgdcmdjcfaa
open Go.RowKit

/-- Whether variable i occurs. -/
def occ : Nat → Ex → Nat → Bool
  | 0, _, _ => false
  | d + 1, .node k v kids, i => (decide (k = 2) && decide (v = (i : Int))) || kids.any (fun x => occ d x i)

/-- Three truth values as cells. -/
def tri (m : Nat → Bool) : Array Value := #[.bool (m 0), .bool (m 1), .bool (m 2)]

theorem any_take_succ {f : Ex → Bool} {l : List Ex} {i : Nat} {x : Ex} (h : l[i]? = some x) : (l.take (i + 1)).any f = ((l.take i).any f || f x) := by
  have hi := (List.getElem?_eq_some_iff.1 h).1
  rw [List.take_succ_eq_append_getElem hi, (List.getElem?_eq_some_iff.1 h).2]
  simp

theorem tri_congr {m m' : Nat → Bool} (h : ∀ i, m i = m' i) : tri m = tri m' := by unfold tri; rw [h 0, h 1, h 2]

theorem tri_get (m : Nat → Bool) {i : Nat} (hi : i < 3) : (tri m)[i]? = some (.bool (m i)) := by
  match i, hi with
  | 0, _ => rfl
  | 1, _ => rfl
  | 2, _ => rfl

theorem tri_set (m : Nat → Bool) (b : Bool) {i : Nat} (hi : i < 3) : (tri m).setIfInBounds i (.bool b) = tri (fun j => if j = i then b else m j) := by
  match i, hi with
  | 0, _ => rfl
  | 1, _ => rfl
  | 2, _ => rfl

end Go.Proofs.Ytkcgjgdcmdjcfaa
