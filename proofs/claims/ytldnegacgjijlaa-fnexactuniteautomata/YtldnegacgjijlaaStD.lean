/- Two rows of numbers (states, lassos) as plain data and in memory. -/
import Derived.Test.YtldnegacgjijlaaSi
namespace Go.Proofs.Ytldnegacgjijlaa
open Go.RowKit

/-- A state as plain data. -/
structure St where
  locs : List Int
  vals : List Int
instance : Inhabited St := ⟨⟨[], []⟩⟩
def Lay.sta : Lay St := ((Lay.int.slice 3).prod (Lay.int.slice 3)).map fun s => (s.locs, s.vals)
theorem sta_lies {w : World} {B : Nat} {locs vals : List Int} {C : Nat → Value} (h : Lay.sta.lies w B ⟨locs, vals⟩ C) :
    (∃ (A : Option Addr) (cap b off : Nat) (D : Nat → Nat → Value), C 0 = .slice A locs.length cap ∧ locs.length ≤ maxLen ∧ Lay.int.Opn w B locs A b off D) ∧
    ∃ (A : Option Addr) (cap b off : Nat) (D : Nat → Nat → Value), C 1 = .slice A vals.length cap ∧ vals.length ≤ maxLen ∧ Lay.int.Opn w B vals A b off D := h
theorem sta_sz (s : St) : Lay.sta.sz s = s.locs.length + s.vals.length := by
  show Lay.int.szL s.locs + Lay.int.szL s.vals = _
  rw [int_szL, int_szL]

end Go.Proofs.Ytldnegacgjijlaa
