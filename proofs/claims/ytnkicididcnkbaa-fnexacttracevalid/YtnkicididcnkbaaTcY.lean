/- Traces in memory, with the word that no slice is longer than its room. -/
import Derived.Test.YtnkicididcnkbaaTcX
import Derived.Test.YtnkicididcnkbaaGra
namespace Go.Proofs.Ytnkicididcnkbaa
namespace Tc
open Go.RowKit

def trc : Lay St := (Lay.ints.prod Lay.ints).map fun s => (s.locs, s.vals)
theorem trc_sta {w : World} {B : Nat} {s : St} {C : Nat → Value} (h : trc.lies w B s C) : Lay.sta.lies w B s C := ⟨h.1.1, h.2.1⟩
theorem trc_fit {w : World} {B : Nat} {s : St} {C : Nat → Value} (h : trc.lies w B s C) : Fits (C 0) ∧ Fits (C 1) := ⟨h.1.2, h.2.2⟩
theorem trc_sz (s : St) : trc.sz s = Lay.sta.sz s := rfl
theorem fits_self (A : Option Addr) (n : Nat) : Fits (.slice A n n) := fun A' l c e => by injection e with _ h1 h2; omega
theorem trc_sep {w : World} {lo hi g h : Nat} {s : St} (hs : Lay.sta.sep w lo hi s (fun j => (arr s g h).getD j undef)) : trc.sep w lo hi s (fun j => (arr s g h).getD j undef) := by
  obtain ⟨m, h1, h2, h3, h4⟩ := hs
  exact ⟨m, h1, h2, ⟨h3, fits_self _ _⟩, ⟨h4, fits_self _ _⟩⟩
theorem szTr_any (s : St) (C : Nat → Value) (left : Int) (w : World) (hL : trc.lies w w.heap.size s C) (h0 : 0 ≤ left) (h1 : left ≤ 1048576) :
    Calls Try.prog 20 #[.agg #[C 0, C 1], .int .i64 left] w fun e' w' => e' = .returned (.int .i64 (room left (trc.sz s))) ∧ Below w.heap.size w w' := szSt_any s C left w (trc_sta hL) h0 h1
theorem eqTr_any (s : St) (C D : Nat → Value) (w : World) (hL : trc.lies w w.heap.size s C) (hL' : trc.lies w w.heap.size s D) :
    Calls Try.prog 26 #[.agg #[C 0, C 1], .agg #[D 0, D 1]] w fun e' w' => e' = .returned (.bool true) ∧ Below w.heap.size w w' := eqSt_any s C D w (trc_sta hL) (trc_sta hL')
def ToTrPost (s : St) (w : World) (e' : Ending) (w' : World) : Prop :=
  ∃ (xa : Option Addr) (xl xc : Nat) (ya : Option Addr) (yl yc : Nat), e' = .returned (.agg #[.slice xa xl xc, .slice ya yl yc]) ∧ trc.sep w' w.heap.size w'.heap.size s (fun j => (#[.slice xa xl xc, .slice ya yl yc] : Array Value).getD j undef) ∧ Below w.heap.size w w'
theorem toTr_any (s : St) (C : Nat → Value) (w : World) (hL : trc.lies w w.heap.size s C) (hd : trc.sz s ≤ 1048576) :
    Calls Try.prog 23 #[.agg #[C 0, C 1]] w (ToTrPost s w) := by
  refine (toLx_any s C w (trc_sta hL) hd).mono ?_
  rintro e' w1 ⟨g, h, rfl, hs, hb⟩
  exact ⟨_, _, _, _, _, _, rfl, trc_sep hs, hb⟩

end Tc
end Go.Proofs.Ytnkicididcnkbaa
