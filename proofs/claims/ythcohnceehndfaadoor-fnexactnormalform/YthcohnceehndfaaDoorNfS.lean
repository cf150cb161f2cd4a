/- The walks of spec.l5True, spec.l5Dual and spec.l5Push. -/
import Derived.Test.YthcohnceehndfaaDoorNfP
import Derived.Test.YthcohnceehndfaaDoorNoS
import Derived.Test.YthcohnceehndfaaDoorFmF
import Derived.Deep.RegionHeld3
import Derived.Deep.RegionWith
import Derived.Deep.Cut
import Derived.Deep.CutRange
namespace Go.Proofs.YthcohnceehndfaaDoor
open Go.RowKit

set_option maxHeartbeats 400000 in
set_option maxRecDepth 100000 in
theorem true_spec (w : World) : Calls Tryd.prog 55 #[] w fun e' w' => e' = .returned (.agg #[.int .i64 1, .int .i64 0, .slice none 0 0]) ∧ Below w.heap.size w w' := by
  go_enter Tryd.func55, Tryd.ntmps55
  go_wp2_with fail
  refine bodyPost_ret (v := .agg #[.int .i64 1, .int .i64 0, .slice none 0 0]) (by simp [results, Tryd.results55, go_sem]) rfl ?_
  exact ⟨rfl, (Below.refl _ _).alloc (Nat.le_refl _) _⟩

set_option maxHeartbeats 400000 in
set_option maxRecDepth 100000 in
theorem dual_spec (k : Int) (w : World) (hk : k = 4 ∨ k = 5 ∨ k = 7 ∨ k = 8) : Calls Tryd.prog 56 #[.int .i64 k] w fun e' w' => e' = .returned (.int .i64 (fDual k)) ∧ w = w' := by
  rcases hk with rfl | rfl | rfl | rfl
  all_goals
    (go_enter Tryd.func56, Tryd.ntmps56
     go_wp2_with fail
     go_ret
     exact ⟨rfl, rfl⟩)

/-- One node above two trees of a row of the call's own. -/
theorem Own.pairF {w : World} {lo g : Nat} {a b : Ex} {a0 a1 a2 b0 b1 b2 : Value} (ha : Own w 25 lo w.heap.size a a0 a1 a2) (hb : Own w 25 lo w.heap.size b b0 b1 b2) (hlo : lo ≤ g) (hr : Row w g 25 #[a0, a1, a2, b0, b1, b2]) (k v : Int) (cap : Nat) :
    Own w 25 lo w.heap.size (.node k v [a, b]) (.int .i64 k) (.int .i64 v) (.slice (some ⟨g, 0, none⟩) 2 cap) := by
  have two : ∀ (i : Nat) (x : Ex), ([a, b] : List Ex)[i]? = some x → (i = 0 ∧ x = a) ∨ (i = 1 ∧ x = b) := by
    intro i x hx
    match i, hx with
    | 0, hx => exact .inl ⟨rfl, by simpa using hx.symm⟩
    | 1, hx => exact .inr ⟨rfl, by simpa using hx.symm⟩
    | i + 2, hx => simp at hx
  refine .mk k v [a, b] _ cap g #[a0, a1, a2, b0, b1, b2] (fun i => if i = 0 then a0 else b0) (fun i => if i = 0 then a1 else b1) (fun i => if i = 0 then a2 else b2) (by unfold maxLen; simp) (fun i x hx => ⟨rfl, hlo, hr.lt, hr⟩) (fun i x hx => ?_) (fun i x hx => ?_) (fun i x hx => ?_) (fun i x hx => ?_)
  · rcases two i x hx with ⟨rfl, rfl⟩ | ⟨rfl, rfl⟩ <;> rfl
  · rcases two i x hx with ⟨rfl, rfl⟩ | ⟨rfl, rfl⟩ <;> rfl
  · rcases two i x hx with ⟨rfl, rfl⟩ | ⟨rfl, rfl⟩ <;> rfl
  · rcases two i x hx with ⟨rfl, rfl⟩ | ⟨rfl, rfl⟩
    · simpa using ha
    · simpa using hb

end Go.Proofs.YthcohnceehndfaaDoor
