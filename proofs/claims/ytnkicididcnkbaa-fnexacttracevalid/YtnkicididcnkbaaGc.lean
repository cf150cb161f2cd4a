/- The walk of slices.Contains of numbers. -/
import Derived.Test.YtnkicididcnkbaaGv0
namespace Go.Proofs.Ytnkicididcnkbaa
open Go.RowKit

set_option maxHeartbeats 400000 in
theorem contains_any (zs : List Int) (n : Int) (A : Option Addr) (cap b off : Nat) (w : World) (hl : zs.length ≤ maxLen) (hI : Ints w w.heap.size A b off zs) :
    Calls Try.prog 85 #[.slice A zs.length cap, .int .i64 n] w fun e' w' => e' = .returned (.bool (inB zs n)) ∧ w = w' := by
  have HI := Lib.hid hI
  have HL := Lib.hid hl
  clear hI hl
  go_enter Try.func85, Try.ntmps85
  go_wp2_with fail
  refine (index_any zs n A cap b off w HL.out HI.out).mono ?_
  rintro e' w1 ⟨⟨r, rfl, hr⟩, rfl⟩
  obtain ⟨hr, _⟩ := hr
  have HR := Lib.hid hr
  clear hr
  go_wp2_with fail
  go_ret
  exact ⟨ret_bool HR.out, rfl⟩

end Go.Proofs.Ytnkicididcnkbaa
