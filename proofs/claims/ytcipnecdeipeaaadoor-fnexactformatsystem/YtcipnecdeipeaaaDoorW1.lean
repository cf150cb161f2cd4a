/- The walks of the leaf functions. -/
import Derived.Test.YtcipnecdeipeaaaDoorBs
import Derived.WalkKit
import Derived.WalkSpells
import Derived.Deep.QuietTactic
import Derived.BigQuiet
namespace Go.Proofs.YtcipnecdeipeaaaDoor
open Go.RowKit

set_option maxHeartbeats 400000 in
theorem arity_any (k : Int) (w : World) : Calls Tryd.prog 65 #[.int .i64 k] w fun e w' => e = .returned (.int .i64 (arity k)) ∧ w = w' := by
  by_cases h1 : k = 1
  · subst h1; go_enter Tryd.func65, Tryd.ntmps65; go_wp2; go_ret; exact ⟨rfl, rfl⟩
  by_cases h2 : k = 2
  · subst h2; go_enter Tryd.func65, Tryd.ntmps65; go_wp2; go_ret; exact ⟨rfl, rfl⟩
  by_cases h3 : k = 3
  · subst h3; go_enter Tryd.func65, Tryd.ntmps65; go_wp2; go_ret; exact ⟨rfl, rfl⟩
  by_cases h4 : 4 ≤ k
  · by_cases h5 : k ≤ 9
    · have HA : Hid (arity k = 2) := by show _ = _; unfold arity; rw [if_neg (by omega), if_neg h3, if_pos ⟨h4, h5⟩]
      go_enter Tryd.func65, Tryd.ntmps65; go_wp2; go_ret; exact ⟨by rw [HA.out]; rfl, rfl⟩
    · have HA : Hid (arity k = -1) := by show _ = _; unfold arity; rw [if_neg (by omega), if_neg h3, if_neg (by omega)]
      go_enter Tryd.func65, Tryd.ntmps65; go_wp2; go_ret; exact ⟨by rw [HA.out]; rfl, rfl⟩
  · have HA : Hid (arity k = -1) := by show _ = _; unfold arity; rw [if_neg (by omega), if_neg h3, if_neg (by omega)]
    go_enter Tryd.func65, Tryd.ntmps65; go_wp2; go_ret; exact ⟨by rw [HA.out]; rfl, rfl⟩


set_option maxHeartbeats 1000000 in
theorem root_any (k v : Int) (A : Option Addr) (n cap : Nat) (w : World) : Calls Tryd.prog 73 #[.agg #[.int .i64 k, .int .i64 v, .slice A n cap]] w fun e w' => e = .returned (.bool (rootOk k v n)) ∧ Below w.heap.size w w' := by
  by_cases h1 : k = 1
  · subst h1
    go_enter Tryd.func73, Tryd.ntmps73
    go_wp2
    all_goals go_ret
    all_goals (refine ⟨ret_bool ?_, (Below.refl _ _).alloc (Nat.le_refl _) _⟩)
    all_goals (rw [Bool.eq_iff_iff]; simp [rootOk, arity, limit]; try omega)
  by_cases h2 : k = 2
  · subst h2
    go_enter Tryd.func73, Tryd.ntmps73
    go_wp2
    all_goals go_ret
    all_goals (refine ⟨ret_bool ?_, (Below.refl _ _).alloc (Nat.le_refl _) _⟩)
    all_goals (rw [Bool.eq_iff_iff]; simp [rootOk, arity, limit]; try omega)
  by_cases h3 : k = 3
  · subst h3
    go_enter Tryd.func73, Tryd.ntmps73
    go_wp2
    all_goals go_ret
    all_goals (refine ⟨ret_bool ?_, (Below.refl _ _).alloc (Nat.le_refl _) _⟩)
    all_goals (rw [Bool.eq_iff_iff]; simp [rootOk, arity, limit]; try omega)
  by_cases h4 : k = 4
  · subst h4
    go_enter Tryd.func73, Tryd.ntmps73
    go_wp2
    all_goals go_ret
    all_goals (refine ⟨ret_bool ?_, (Below.refl _ _).alloc (Nat.le_refl _) _⟩)
    all_goals (rw [Bool.eq_iff_iff]; simp [rootOk, arity, limit]; try omega)
  by_cases h5 : k = 5
  · subst h5
    go_enter Tryd.func73, Tryd.ntmps73
    go_wp2
    all_goals go_ret
    all_goals (refine ⟨ret_bool ?_, (Below.refl _ _).alloc (Nat.le_refl _) _⟩)
    all_goals (rw [Bool.eq_iff_iff]; simp [rootOk, arity, limit]; try omega)
  by_cases h6 : k = 6
  · subst h6
    go_enter Tryd.func73, Tryd.ntmps73
    go_wp2
    all_goals go_ret
    all_goals (refine ⟨ret_bool ?_, (Below.refl _ _).alloc (Nat.le_refl _) _⟩)
    all_goals (rw [Bool.eq_iff_iff]; simp [rootOk, arity, limit]; try omega)
  by_cases h7 : k = 7
  · subst h7
    go_enter Tryd.func73, Tryd.ntmps73
    go_wp2
    all_goals go_ret
    all_goals (refine ⟨ret_bool ?_, (Below.refl _ _).alloc (Nat.le_refl _) _⟩)
    all_goals (rw [Bool.eq_iff_iff]; simp [rootOk, arity, limit]; try omega)
  by_cases h8 : k = 8
  · subst h8
    go_enter Tryd.func73, Tryd.ntmps73
    go_wp2
    all_goals go_ret
    all_goals (refine ⟨ret_bool ?_, (Below.refl _ _).alloc (Nat.le_refl _) _⟩)
    all_goals (rw [Bool.eq_iff_iff]; simp [rootOk, arity, limit]; try omega)
  by_cases h9 : k = 9
  · subst h9
    go_enter Tryd.func73, Tryd.ntmps73
    go_wp2
    all_goals go_ret
    all_goals (refine ⟨ret_bool ?_, (Below.refl _ _).alloc (Nat.le_refl _) _⟩)
    all_goals (rw [Bool.eq_iff_iff]; simp [rootOk, arity, limit]; try omega)
  have HR : Hid (rootOk k v n = false) := by
    show _ = _
    unfold rootOk arity
    rw [if_neg (by omega), if_neg (by omega), if_neg (by omega)]
    simp
  go_enter Tryd.func73, Tryd.ntmps73
  go_wp2
  go_ret
  exact ⟨ret_bool HR.out.symm, (Below.refl _ _).alloc (Nat.le_refl _) _⟩

end Go.Proofs.YtcipnecdeipeaaaDoor
