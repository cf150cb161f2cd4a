/- What SuffixAt answers, as plain data. -/
import Derived.Test.YtiaejomdkkhimaaLuW
import Derived.Test.YtiaejomdkkhimaaNuR
import Derived.Test.YtiaejomdkkhimaaLaX
namespace Go.Proofs.Ytiaejomdkkhimaa
namespace La
open Go.RowKit

/-- The suffix from a position on. -/
def sufSt (s : St) (i : Int) : St :=
  if laHas s i then
    if i.toNat < s.locs.length then ⟨s.locs.drop i.toNat, s.vals⟩
    else ⟨[], s.vals.drop ((i.toNat - s.locs.length) % s.vals.length) ++ s.vals.take ((i.toNat - s.locs.length) % s.vals.length)⟩
  else ⟨[], []⟩
theorem sufSt_no {s : St} {i : Int} (h : laHas s i = false) : sufSt s i = ⟨[], []⟩ := by unfold sufSt; rw [h]; rfl
theorem sufSt_in {s : St} {k : Nat} (h : laHas s k = true) (hk : k < s.locs.length) : sufSt s k = ⟨s.locs.drop k, s.vals⟩ := by
  unfold sufSt
  rw [h, if_pos rfl, if_pos (by simpa using hk)]
  rfl
theorem sufSt_out {s : St} {k : Nat} (h : laHas s k = true) (hk : ¬ k < s.locs.length) : sufSt s k = ⟨[], s.vals.drop ((k - s.locs.length) % s.vals.length) ++ s.vals.take ((k - s.locs.length) % s.vals.length)⟩ := by
  unfold sufSt
  rw [h, if_pos rfl, if_neg (by simpa using hk)]
  rfl
theorem sufSt_le {s : St} {i : Int} (h : Lay.sta.sz s ≤ 1048576) : (sufSt s i).locs.length ≤ 1048576 ∧ (sufSt s i).vals.length ≤ 1048576 := by
  rw [sta_sz] at h
  unfold sufSt
  split
  · split
    · refine ⟨?_, ?_⟩
      · show (s.locs.drop _).length ≤ _; rw [List.length_drop]; omega
      · show s.vals.length ≤ _; omega
    · refine ⟨Nat.zero_le _, ?_⟩
      show (s.vals.drop _ ++ s.vals.take _).length ≤ _
      rw [List.length_append, List.length_drop, List.length_take]
      omega
  · exact ⟨Nat.zero_le _, Nat.zero_le _⟩
def LxPost (s : St) (i : Int) (w : World) (e' : Ending) (w' : World) : Prop :=
  ∃ X Y : Value, e' = .returned (.tuple #[.agg #[X, Y], .bool (laHas s i)]) ∧ StR w' w.heap.size w'.heap.size (sufSt s i) X Y ∧ Below w.heap.size w w'
theorem StR.of {w : World} {lo hi m0 m1 n0 n1 : Nat} {s : St} {X Y : Value} (h1 : (Lay.int.slice 3).sep w m0 m1 s.locs (fun _ => X)) (h2 : (Lay.int.slice 3).sep w n0 n1 s.vals (fun _ => Y)) (ho : lo ≤ m0 ∧ m0 ≤ m1 ∧ m1 ≤ hi ∧ lo ≤ n0 ∧ n0 ≤ n1 ∧ n1 ≤ hi ∧ (m1 ≤ n0 ∨ n1 ≤ m0)) : StR w lo hi s X Y := ⟨m0, m1, n0, n1, ho, h1, h2⟩

end La
end Go.Proofs.Ytiaejomdkkhimaa
