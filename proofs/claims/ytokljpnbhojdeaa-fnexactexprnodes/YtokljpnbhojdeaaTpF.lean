/- What a copy of a formula leaves. -/
import Derived.Test.YtokljpnbhojdeaaBs
import Derived.Test.YtokljpnbhojdeaaOwn
namespace Go.Proofs.Ytokljpnbhojdeaa
open Go.RowKit

theorem Try.info29 : (Try.prog.info? 29).map (fun i => (i.zero, i.size, i.bytes)) = some (some (.agg #[.int .i64 0, .int .i64 0, .slice none 0 0]), 3, 40) := by kernel_rfl

/-- What a copy leaves. -/
def ToPostF (e : Ex) (w : World) (e' : Ending) (w' : World) : Prop :=
  ∃ d0 d1 d2 : Value, e' = .returned (.agg #[d0, d1, d2]) ∧ Own w' 29 w.heap.size w'.heap.size e d0 d1 d2 ∧ Below w.heap.size w w'
def ToSPostF (kids : List Ex) (w : World) (e' : Ending) (w' : World) : Prop :=
  ∃ g : Nat, e' = .returned (.slice (some ⟨g, 0, none⟩) kids.length kids.length) ∧ w.heap.size ≤ g ∧ Laid w' 29 g kids kids.length ∧ Below w.heap.size w w'

end Go.Proofs.Ytokljpnbhojdeaa
