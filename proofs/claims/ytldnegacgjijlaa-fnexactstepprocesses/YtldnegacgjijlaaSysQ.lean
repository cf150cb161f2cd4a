/- Processes and systems: as plain data and in memory; slices of numbers by their layout. -/
import Derived.Test.YtldnegacgjijlaaEd2Q
import Derived.Test.YtldnegacgjijlaaSi
namespace Go.Proofs.Ytldnegacgjijlaa
open Go.RowKit

/-- A process as plain data. -/
structure Pr where
  loc : Int
  es : List Ed
/-- A system as plain data. -/
structure Sy where
  ini : List Int
  ps : List Pr
instance : Inhabited Pr := ⟨⟨0, []⟩⟩
instance : Inhabited Sy := ⟨⟨[], []⟩⟩

def Lay.pr : Lay Pr := (Lay.int.prod (Lay.ed.slice 101)).map fun p => (p.loc, p.es)
def Lay.sy : Lay Sy := ((Lay.int.slice 3).prod (Lay.pr.slice 97)).map fun s => (s.ini, s.ps)

theorem pr_lies {w : World} {B : Nat} {loc : Int} {es : List Ed} {C : Nat → Value} (h : Lay.pr.lies w B ⟨loc, es⟩ C) :
    C 0 = .int .i64 loc ∧ ∃ (A : Option Addr) (cap b off : Nat) (D : Nat → Nat → Value), C 1 = .slice A es.length cap ∧ es.length ≤ maxLen ∧ Lay.ed.Opn w B es A b off D := h
theorem sy_lies {w : World} {B : Nat} {ini : List Int} {ps : List Pr} {C : Nat → Value} (h : Lay.sy.lies w B ⟨ini, ps⟩ C) :
    (∃ (A : Option Addr) (cap b off : Nat) (D : Nat → Nat → Value), C 0 = .slice A ini.length cap ∧ ini.length ≤ maxLen ∧ Lay.int.Opn w B ini A b off D) ∧
    ∃ (A : Option Addr) (cap b off : Nat) (D : Nat → Nat → Value), C 1 = .slice A ps.length cap ∧ ps.length ≤ maxLen ∧ Lay.pr.Opn w B ps A b off D := h
theorem pr_sz (p : Pr) : Lay.pr.sz p = Lay.ed.szL p.es := Nat.zero_add _
theorem sy_sz (s : Sy) : Lay.sy.sz s = Lay.int.szL s.ini + Lay.pr.szL s.ps := rfl
end Go.Proofs.Ytldnegacgjijlaa
