/- The walk of the law laws.FnExactExprVars. -/
import Derived.Test.YtponbjclecdafaaF2
import Derived.Test.YtponbjclecdafaaM1
import Derived.Test.YtponbjclecdafaaM2
import Derived.Test.YtponbjclecdafaaW8
namespace Go.Proofs.Ytponbjclecdafaa
open Go.RowKit

/-- An empty slice, or one of three truth values in a row from lo on and below hi. -/
def BV (v : Bool) (w : World) (lo hi : Nat) (S : Value) (m : Nat → Bool) : Prop :=
  (v = false ∧ ∃ A cap, S = .slice A 0 cap) ∨ (v = true ∧ ∃ g t, S = .slice (some ⟨g, 0, none⟩) 3 3 ∧ lo ≤ g ∧ g < hi ∧ Row w g t (tri m))

theorem BV.kept {v : Bool} {w w' : World} {lo hi lo' hi' : Nat} {S : Value} {m : Nat → Bool} (h : BV v w lo hi S m) (hk : Kept lo' hi' w w') (hn : hi ≤ lo' ∨ hi' ≤ lo) : BV v w' lo hi S m := by
  rcases h with h | ⟨hv, g, t, hS, h1, h2, hr⟩
  · exact .inl h
  · exact .inr ⟨hv, g, t, hS, h1, h2, hr.kept hk (by omega)⟩
theorem BV.under {v : Bool} {w w' : World} {lo hi : Nat} {S : Value} {m : Nat → Bool} (h : BV v w lo hi S m) (hb : Below w.heap.size w w') : BV v w' lo hi S m := by
  rcases h with h | ⟨hv, g, t, hS, h1, h2, hr⟩
  · exact .inl h
  · exact .inr ⟨hv, g, t, hS, h1, h2, hr.under hb hr.lt⟩

theorem VarsPost.bv {e : Ex} {w w' : World} {e' : Ending} (h : VarsPost e w e' w') : ∃ S, e' = .returned S ∧ BV (valid e) w' w.heap.size w'.heap.size S (occ 6 e) ∧ Below w.heap.size w w' := by
  obtain ⟨h | ⟨hv, g, t, rfl, hg, hr⟩, hb⟩ := h
  · obtain ⟨hv, A, cap, rfl⟩ := h
    exact ⟨_, rfl, .inl ⟨hv, A, cap, rfl⟩, hb⟩
  · exact ⟨_, rfl, .inr ⟨hv, g, t, rfl, hg, hr.lt, hr⟩, hb⟩

theorem eqB_any {v : Bool} {w : World} {lo hi lo' hi' : Nat} {S S' : Value} {m : Nat → Bool} (h : BV v w lo hi S m) (h' : BV v w lo' hi' S' m) : Calls Try.prog 40 #[S, S'] w fun e' w' => e' = .returned (.bool true) ∧ Below w.heap.size w w' := by
  rcases h with ⟨hv, A, cap, rfl⟩ | ⟨hv, g, t, rfl, _, _, hr⟩
  · rcases h' with ⟨_, A', cap', rfl⟩ | ⟨hv', _⟩
    · exact (eqB_none A A' cap cap' w).mono fun e' w' ⟨h1, h2⟩ => ⟨h1, h2 ▸ Below.refl _ _⟩
    · rw [hv] at hv'; cases hv'
  · rcases h' with ⟨hv', _⟩ | ⟨_, g', t', rfl, _, _, hr'⟩
    · rw [hv] at hv'; cases hv'
    · exact eqB_three g g' t t' m w hr hr'

def count (v : Bool) : Int := if v then 4 else 1

theorem markB_any {v : Bool} {w : World} {lo hi : Nat} {S : Value} {m : Nat → Bool} (h : BV v w lo hi S m) : Calls Try.prog 42 #[S, .int .i64 1] w fun e' w' => e' = .returned (.int .i64 (count v)) ∧ BV v w' lo hi S marked ∧ Kept lo hi w w' := by
  rcases h with ⟨rfl, A, cap, rfl⟩ | ⟨rfl, g, t, rfl, h1, h2, hr⟩
  · exact (markB_none A cap 1 w).mono fun e' w' ⟨h1, h2⟩ => ⟨h1, .inl ⟨rfl, A, cap, rfl⟩, h2 ▸ Kept.of_below (Below.refl _ _) _ _⟩
  · exact (markB_three g t m w hr).mono fun e' w' ⟨h3, h4, h5⟩ => ⟨h3, .inr ⟨rfl, g, t, rfl, h1, h2, h4⟩, Kept.of_grown h5 h1 h2⟩

theorem heldB_any {v : Bool} {w : World} {lo hi : Nat} {S : Value} (h : BV v w lo hi S marked) : Calls Try.prog 43 #[S, .int .i64 1] w fun e' w' => e' = .returned (.int .i64 (count v)) ∧ Below w.heap.size w w' := by
  rcases h with ⟨rfl, A, cap, rfl⟩ | ⟨rfl, g, t, rfl, h1, h2, hr⟩
  · exact (heldB_none A cap 1 w).mono fun e' w' ⟨h1, h2⟩ => ⟨h1, h2 ▸ Below.refl _ _⟩
  · exact heldB_three g t w hr

theorem count_pos (v : Bool) : 0 ≤ count v := by cases v <;> decide


end Go.Proofs.Ytponbjclecdafaa
