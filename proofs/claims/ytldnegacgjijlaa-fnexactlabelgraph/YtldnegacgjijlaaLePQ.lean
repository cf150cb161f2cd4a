/- Letters of states as plain data; an or of bits. -/
import Derived.Test.YtldnegacgjijlaaLbVQ
import Derived.Test.YtldnegacgjijlaaE1Q
import Derived.Laws.BitsAllLaws
namespace Go.Proofs.Ytldnegacgjijlaa
open Go.RowKit

/-- The first j bits. -/
def bitsN (f : Nat → Bool) : Nat → Nat
  | 0 => 0
  | j + 1 => bitsN f j ||| (if f j then 2 ^ j else 0)
theorem bitsN_lt (f : Nat → Bool) (j : Nat) : bitsN f j < 2 ^ j := by
  induction j with
  | zero => exact Nat.one_pos
  | succ j ih =>
    have h1 : 2 ^ j < 2 ^ (j + 1) := Nat.pow_lt_pow_right (by decide) (Nat.lt_succ_self _)
    refine Nat.or_lt_two_pow (Nat.lt_trans ih h1) ?_
    split
    · exact h1
    · exact Nat.pow_pos (by decide)
def atB (es : List Ex) (zs : List Int) (i : Nat) : Bool := decide (ev zs 6 (es.getD i default) ≠ 0)
theorem atB_get {es : List Ex} {zs : List Int} {i : Nat} {x : Ex} (h : es[i]? = some x) : atB es zs i = decide (ev zs 6 x ≠ 0) := by
  unfold atB
  rw [List.getD_eq_getElem?_getD, h]
  rfl
/-- The letter of a state with these values. -/
def letterN (es : List Ex) (zs : List Int) : Nat := bitsN (atB es zs) 3
theorem letterN_lt (es : List Ex) (zs : List Int) : letterN es zs < 8 := bitsN_lt _ 3
theorem labs_len {es : List Ex} (h : labsOk es = true) : es.length = 3 := by
  unfold labsOk at h
  simp only [Bool.and_eq_true, decide_eq_true_eq] at h
  exact h.2
theorem labs_get {es : List Ex} (h : labsOk es = true) {i : Nat} {x : Ex} (hx : es[i]? = some x) : valid x = true := by
  unfold labsOk at h
  simp only [Bool.and_eq_true, List.all_eq_true] at h
  exact h.1 x (List.mem_of_getElem? hx)
theorem or_small : ∀ L, L < 8 → ∀ j, j < 3 → bits .or .i64 ((L : Nat) : Int) (wrap64 (2 ^ j)) = ((L ||| 2 ^ j : Nat) : Int) := by decide +kernel
theorem bits_yes {f : Nat → Bool} {j : Nat} (h : f j = true) : bitsN f (j + 1) = bitsN f j ||| 2 ^ j := by show _ ||| _ = _; rw [h]; rfl
theorem bits_no {f : Nat → Bool} {j : Nat} (h : f j = false) : bitsN f (j + 1) = bitsN f j := by show _ ||| _ = _; rw [h]; simp
theorem bits_lt8 {f : Nat → Bool} {j : Nat} (h : j ≤ 3) : bitsN f j < 8 := Nat.lt_of_lt_of_le (bitsN_lt f j) (Nat.pow_le_pow_right (by decide) h)

end Go.Proofs.Ytldnegacgjijlaa
