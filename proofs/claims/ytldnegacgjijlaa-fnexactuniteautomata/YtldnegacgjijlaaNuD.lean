/- The walk of slices.Clone of a row of truth values. -/
import Derived.Test.YtldnegacgjijlaaNuB
namespace Go.Proofs.Ytldnegacgjijlaa
namespace Lb
open Go.RowKit

/-- What a function leaves that gives a row of numbers of its own. -/
def RowPost (zs : List Bool) (w : World) (e' : Ending) (w' : World) : Prop :=
  ∃ (A : Option Addr) (k : Nat), e' = .returned (.slice A zs.length k) ∧ (Lay.bo.slice 4).sep w' w.heap.size w'.heap.size zs (fun _ => .slice A zs.length k) ∧ Below w.heap.size w w'
theorem sep_nil (w : World) (lo hi : Nat) (h : lo ≤ hi) (A : Option Addr) (k : Nat) : (Lay.bo.slice 4).sep w lo hi [] (fun _ => .slice A 0 k) :=
  ⟨A, k, 0, #[], fun _ _ => undef, fun _ => lo, rfl, Nat.zero_le _, fun _ _ => Nat.le_refl _, Nat.le_refl _, h, fun i x hx => by simp at hx⟩

end Lb
end Go.Proofs.Ytldnegacgjijlaa
