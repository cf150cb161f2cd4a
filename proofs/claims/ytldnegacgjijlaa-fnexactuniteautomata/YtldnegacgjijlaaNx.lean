/- Room for one argument more. Nothing is assumed. -/
import Derived.Test.YtldnegacgjijlaaBs
namespace Go.Proofs.Ytldnegacgjijlaa
open Go.RowKit

theorem room_next {left : Int} {n : Nat} (h0 : 0 ≤ left) (h1 : left ≤ 1048576) : ∃ r, r = room left n ∧ (r < 0 ∨ 0 ≤ r ∧ r ≤ 1048576 ∧ n ≤ 1048576) := by
  refine ⟨_, rfl, ?_⟩
  unfold room
  by_cases h : left < (n : Int)
  · rw [if_pos h]; left; omega
  · rw [if_neg h]; right; omega

end Go.Proofs.Ytldnegacgjijlaa
