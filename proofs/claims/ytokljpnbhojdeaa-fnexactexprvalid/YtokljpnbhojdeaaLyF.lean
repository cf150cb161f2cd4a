/- Copies and sizes of formulas by their layout. -/
import Derived.Test.YtokljpnbhojdeaaTSF
import Derived.Test.YtokljpnbhojdeaaLayF
import Derived.Test.YtokljpnbhojdeaaW6F
namespace Go.Proofs.Ytokljpnbhojdeaa
open Go.RowKit

theorem Row.threeF {w : World} {g : Nat} {t : TypeId} {a0 a1 a2 : Value} (h : Row w g t #[a0, a1, a2]) : w.cell? ⟨g, 0, none⟩ = some a0 ∧ w.cell? ⟨g, 1, none⟩ = some a1 ∧ w.cell? ⟨g, 2, none⟩ = some a2 := ⟨h.cell 0, h.cell 1, h.cell 2⟩

theorem szFo_any (e : Ex) (C : Nat → Value) (left : Int) (w : World) (hL : Lay.fo.lies w w.heap.size e C) (h0 : 0 ≤ left) (h1 : left ≤ 1048576) :
    Calls Try.prog 5 #[.agg #[C 0, C 1, C 2], .int .i64 left] w fun e' w' => e' = .returned (.int .i64 (room left (Lay.fo.sz e))) ∧ Below w.heap.size w w' := sz_anyF e left _ _ _ w hL h0 h1
theorem eqFo_any (e : Ex) (C D : Nat → Value) (w : World) (hL : Lay.fo.lies w w.heap.size e C) (hL' : Lay.fo.lies w w.heap.size e D) :
    Calls Try.prog 9 #[.agg #[C 0, C 1, C 2], .agg #[D 0, D 1, D 2]] w fun e' w' => e' = .returned (.bool true) ∧ Below w.heap.size w w' := eq_anyF e _ _ _ _ _ _ w hL hL'
def ToFoPost (e : Ex) (w : World) (e' : Ending) (w' : World) : Prop :=
  ∃ (x0 x1 : Int) (xa : Option Addr) (xl xc : Nat), e' = .returned (.agg #[.int .i64 x0, .int .i64 x1, .slice xa xl xc]) ∧ Lay.fo.sep w' w.heap.size w'.heap.size e (fun j => (#[.int .i64 x0, .int .i64 x1, .slice xa xl xc] : Array Value).getD j undef) ∧ Below w.heap.size w w'
theorem toFo_any (e : Ex) (C : Nat → Value) (w : World) (hL : Lay.fo.lies w w.heap.size e C) (hd : Lay.fo.sz e ≤ 1048576) :
    Calls Try.prog 7 #[.agg #[C 0, C 1, C 2]] w (ToFoPost e w) := by
  refine (ts_anyF e _ _ _ w hL hd).mono ?_
  rintro e' w' ⟨d0, d1, d2, rfl, hs, hb⟩
  obtain ⟨n0, n1, a, l, c, rfl, rfl, rfl⟩ := hs.form
  exact ⟨n0, n1, a, l, c, rfl, hs, hb⟩

end Go.Proofs.Ytokljpnbhojdeaa
