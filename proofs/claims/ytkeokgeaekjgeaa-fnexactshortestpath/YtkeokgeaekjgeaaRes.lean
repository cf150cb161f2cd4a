/- Lists of numbers that a call gives back, in rows of their own. Nothing is assumed. -/
import Derived.Test.YtkeokgeaekjgeaaBg
import Derived.Test.YtkeokgeaekjgeaaMkI
import Derived.Test.YtkeokgeaekjgeaaGrEq
namespace Go.Proofs.Ytkeokgeaekjgeaa
open Go.RowKit

/-- The slice has these numbers, in a row of one's own if there are any. -/
def SliceI (w : World) (lo : Nat) (l : List Int) (v : Value) : Prop := ∃ (A : Option Addr) (cap : Nat), v = .slice A l.length cap ∧ (l = [] ∨ ∃ g, A = some ⟨g, 0, none⟩ ∧ lo ≤ g ∧ IRow w g l)
def SpPost (l : List Int) (w : World) (e' : Ending) (w' : World) : Prop := ∃ v, e' = .returned v ∧ SliceI w' w.heap.size l v ∧ Below w.heap.size w w'
theorem SliceI.none (w : World) (lo : Nat) (A : Option Addr) (cap : Nat) : SliceI w lo [] (.slice A 0 cap) := ⟨A, cap, rfl, .inl rfl⟩
theorem SliceI.ints {w : World} {lo : Nat} {l : List Int} {v : Value} (h : SliceI w lo l v) : ∃ (A : Option Addr) (cap b off : Nat), v = .slice A l.length cap ∧ Ints w w.heap.size A b off l := by
  obtain ⟨A, cap, rfl, h1⟩ := h
  rcases h1 with rfl | ⟨g, rfl, _, h2⟩
  · exact ⟨A, cap, 0, 0, rfl, fun i z hz => by cases hz⟩
  · exact ⟨_, cap, g, 0, rfl, h2.ints⟩
theorem SliceI.sep {w : World} {lo : Nat} {l : List Int} {v : Value} (h : SliceI w lo l v) (hl : l.length ≤ maxLen) (hlo : lo ≤ w.heap.size) : (Lay.int.slice 3).sep w lo w.heap.size l (fun _ => v) := by
  obtain ⟨A, cap, rfl, h1⟩ := h
  rcases h1 with rfl | ⟨g, rfl, hg, cs, hr, hk⟩
  · exact ⟨A, cap, 0, #[], fun _ _ => undef, fun _ => lo, rfl, hl, fun _ _ => Nat.le_refl _, Nat.le_refl _, hlo, fun i x hx => by cases hx⟩
  · refine ⟨_, cap, g, cs, fun i _ => .int .i64 (l.getD i 0), fun _ => w.heap.size, rfl, hl, fun _ _ => Nat.le_refl _, hlo, Nat.le_refl _, fun i x hx => ⟨rfl, hg, hr.lt, .inl hr.lt, hr, fun j hj => ?_, ?_⟩⟩
    · have h1 : j < 1 := hj
      obtain rfl : j = 0 := by omega
      show cs[i * 1 + 0]? = some (.int .i64 (l.getD i 0))
      rw [Nat.mul_one, Nat.add_zero, hk i x hx, List.getD_eq_getElem?_getD, hx]
      rfl
    · show Value.int .i64 (l.getD i 0) = .int .i64 x
      rw [List.getD_eq_getElem?_getD, hx]
      rfl
theorem eqRes_any (l : List Int) (v v' : Value) (w : World) (hL : (Lay.int.slice 3).lies w w.heap.size l (fun _ => v)) (hL' : (Lay.int.slice 3).lies w w.heap.size l (fun _ => v')) :
    Calls Try.prog 9 #[v, v'] w fun e' w' => e' = .returned (.bool true) ∧ Below w.heap.size w w' := by
  obtain ⟨A, cap, b, off, D, e0, hl, hO⟩ := hL
  obtain ⟨A', cap', b', off', D', d0, _, hO'⟩ := hL'
  have e1 : v = .slice A l.length cap := e0
  have d1 : v' = .slice A' l.length cap' := d0
  rw [e1, d1]
  exact eqInts_any l A A' cap b off cap' b' off' w hl (ints_of hO) (ints_of hO')

end Go.Proofs.Ytkeokgeaekjgeaa
