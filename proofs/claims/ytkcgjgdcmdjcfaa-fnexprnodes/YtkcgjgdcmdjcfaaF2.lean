/- The walk of spec.ExprVars. -/
import Derived.Test.YtkcgjgdcmdjcfaaIb
import Derived.Test.YtkcgjgdcmdjcfaaF1
namespace Go.Proofs.Ytkcgjgdcmdjcfaa
open Go.RowKit

/-- The variables of a valid tree as three truth values in a row of the call's own, or an empty slice. -/
def VarsPost (e : Ex) (w : World) (e' : Ending) (w' : World) : Prop :=
  ((valid e = false ∧ ∃ A cap, e' = .returned (.slice A 0 cap)) ∨ (valid e = true ∧ ∃ g t, e' = .returned (.slice (some ⟨g, 0, none⟩) 3 3) ∧ w.heap.size ≤ g ∧ Row w' g t (tri (occ 6 e)))) ∧ Below w.heap.size w w'


theorem make_three (w : World) : (Instr.makeSlice 31 (.int .i64 3) (.int .i64 3)).run Try.prog w = .ok (.slice (some ⟨w.heap.size, 0, none⟩) 3 3) (w.alloc (.cells (tri fun _ => false) 4)) := by
  obtain ⟨i0, hi0, hz0, hz1, hz2⟩ := info_parts Try.info4
  have hmk := run_make_of (P := Try.prog) 31 4 i0 _ Try.underlying31 hi0 hz0 3 (by rw [hz2]; omega) (by omega) w
  rw [hz1, show madeCells (Value.cells (.bool false)) (3 * 1) = tri (fun _ => false) by kernel_rfl] at hmk
  exact hmk


end Go.Proofs.Ytkcgjgdcmdjcfaa
