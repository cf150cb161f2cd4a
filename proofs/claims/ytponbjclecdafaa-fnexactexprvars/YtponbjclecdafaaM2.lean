/- The walks of laws.eqBoolS, laws.markBoolS and laws.heldBoolS. -/
import Derived.Test.YtponbjclecdafaaF0
import Derived.Test.YtponbjclecdafaaGr
import Derived.Test.YtponbjclecdafaaBs
import Derived.BigQuiet
namespace Go.Proofs.Ytponbjclecdafaa
open Go.RowKit

theorem eqB_none (A A' : Option Addr) (cap cap' : Nat) (w : World) : Calls Try.prog 40 #[.slice A 0 cap, .slice A' 0 cap'] w fun e' w' => e' = .returned (.bool true) ∧ w = w' := by
  go_enter Try.func40, Try.ntmps40
  go_wp2_with fail
  go_loop [5] (fun i => i = .int .i64 0) (fun _ => 0)
  case atStart => rfl
  case round =>
    subst hrel
    go_wp2_with fail
    go_ret
    exact ⟨rfl, rfl⟩

set_option maxHeartbeats 400000 in
theorem eqB_three (g g' : Nat) (t t' : TypeId) (m : Nat → Bool) (w : World) (h : Row w g t (tri m)) (h' : Row w g' t' (tri m)) : Calls Try.prog 40 #[.slice (some ⟨g, 0, none⟩) 3 3, .slice (some ⟨g', 0, none⟩) 3 3] w fun e' w' => e' = .returned (.bool true) ∧ Below w.heap.size w w' := by
  have H := Lib.hid h
  have H' := Lib.hid h'
  clear h h'
  go_enter Try.func40, Try.ntmps40
  go_wp2_with fail
  go_loopw [5] (fun i wl => ∃ q : Nat, q ≤ 3 ∧ i = .int .i64 q ∧ Hid (Below w.heap.size w wl)) (fun i _ => 3 - (intOf i).toNat)
  case atStart => exact ⟨0, by omega, rfl, Below.refl _ _⟩
  case round =>
    obtain ⟨q, hq, rfl, HB⟩ := hrel
    by_cases hq3 : q < 3
    · obtain ⟨a, ha⟩ : ∃ a, a = m q := ⟨_, rfl⟩
      have r1 := H.out.under HB.out H.out.lt
      have r2 := H'.out.under HB.out H'.out.lt
      have c1 : wr.cell? ⟨g, q, none⟩ = some (.bool a) := by rw [r1.cell, tri_get _ hq3, ha]
      have c2 : wr.cell? ⟨g', q, none⟩ = some (.bool a) := by rw [r2.cell, tri_get _ hq3, ha]
      have l1 := r1.lt
      have l2 := r2.lt
      clear ha r1 r2
      cases a
      all_goals
        (go_wp2_with fail
         go_quiet (fail)
         go_wp2_with fail
         go_roundw
         case rel => exact ⟨q + 1, by omega, by go_num, below_drewN HB.out _⟩
         case measure => simp [intOf]; omega)
    · have hqq : q = 3 := by omega
      subst hqq
      go_wp2_with fail
      go_ret
      exact ⟨rfl, HB.out⟩

theorem markB_none (A : Option Addr) (cap : Nat) (m : Int) (w : World) : Calls Try.prog 42 #[.slice A 0 cap, .int .i64 m] w fun e' w' => e' = .returned (.int .i64 m) ∧ w = w' := by
  go_enter Try.func42, Try.ntmps42
  go_wp2_with fail
  go_loop [1, 5] (fun mm i => mm = .int .i64 m ∧ i = .int .i64 0) (fun _ _ => 0)
  case atStart => exact ⟨rfl, rfl⟩
  case round =>
    obtain ⟨rfl, rfl⟩ := hrel
    go_wp2_with fail
    go_ret
    exact ⟨rfl, rfl⟩

/-- What markBoolS writes. -/
def marked (i : Nat) : Bool := decide (((i : Int) + 1) % 3 = 0)

set_option maxHeartbeats 400000 in
theorem markB_three (g : Nat) (t : TypeId) (m : Nat → Bool) (w : World) (h : Row w g t (tri m)) : Calls Try.prog 42 #[.slice (some ⟨g, 0, none⟩) 3 3, .int .i64 1] w fun e' w' => e' = .returned (.int .i64 4) ∧ Row w' g t (tri marked) ∧ w.grownBy w' (some g) := by
  have H := Lib.hid h
  clear h
  go_enter Try.func42, Try.ntmps42
  go_wp2_with fail
  go_loopw [1, 5] (fun mm i wl => ∃ q : Nat, q ≤ 3 ∧ i = .int .i64 q ∧ mm = .int .i64 ((q : Int) + 1) ∧ Hid (Row wl g t (tri (fun r => if r < q then marked r else m r))) ∧ Hid (w.grownBy wl (some g))) (fun _ i _ => 3 - (intOf i).toNat)
  case atStart => exact ⟨0, by omega, rfl, rfl, H, (⟨rfl, rfl, rfl, Nat.le_refl _, fun _ _ _ => rfl⟩ : World.grownBy _ _ _)⟩
  case round =>
    obtain ⟨q, hq, rfl, rfl, HR, HG⟩ := hrel
    by_cases hq3 : q < 3
    · have c1 : wr.cell? ⟨g, q, none⟩ = some (.bool (m q)) := by
        rw [HR.out.cell, tri_get _ hq3]
        simp
      have c2 := HR.out.frozen q
      have l1 := HR.out.lt
      have e2 : ((q : Int) + 1).tmod 3 = ((q : Int) + 1) % 3 := Int.tmod_eq_emod_of_nonneg (by omega)
      have e3 : IntKind.i64.wrap (((q : Int) + 1) % 3) = ((q : Int) + 1) % 3 := IntWalk.i64_in _ (by omega)
      have HST : Hid (Row (wr.setCell ⟨g, q, none⟩ (.bool (decide (((q : Int) + 1) % 3 = 0)))) g t (tri (fun r => if r < q + 1 then marked r else m r))) := by
        have h := HR.out.set_ q (.bool (decide (((q : Int) + 1) % 3 = 0)))
        rw [tri_set _ _ hq3] at h
        refine (congrArg (Row _ g t) (tri_congr fun r => ?_)).mp h
        by_cases e1 : r = q
        · subst e1
          rw [if_pos rfl, if_pos (by omega)]
          rfl
        · rw [if_neg e1]
          by_cases e4 : r < q
          · rw [if_pos e4, if_pos (by omega)]
          · rw [if_neg e4, if_neg (by omega)]
      have HG' : Hid (w.grownBy (wr.setCell ⟨g, q, none⟩ (.bool (decide (((q : Int) + 1) % 3 = 0)))) (some g)) := HG.out.trans (grown_set _ _ _ _)
      go_wp2_with fail
      go_roundw
      case rel => exact ⟨q + 1, by omega, by go_num, by go_num, HST, HG'⟩
      case measure => simp [intOf]; omega
    · have hqq : q = 3 := by omega
      subst hqq
      have HR' : Hid (Row wr g t (tri marked)) := (congrArg (Row _ g t) rfl).mp HR.out
      go_wp2_with fail
      go_ret
      exact ⟨rfl, HR'.out, HG.out⟩

theorem heldB_none (A : Option Addr) (cap : Nat) (m : Int) (w : World) : Calls Try.prog 43 #[.slice A 0 cap, .int .i64 m] w fun e' w' => e' = .returned (.int .i64 m) ∧ w = w' := by
  go_enter Try.func43, Try.ntmps43
  go_wp2_with fail
  go_loop [1, 5] (fun mm i => mm = .int .i64 m ∧ i = .int .i64 0) (fun _ _ => 0)
  case atStart => exact ⟨rfl, rfl⟩
  case round =>
    obtain ⟨rfl, rfl⟩ := hrel
    go_wp2_with fail
    go_ret
    exact ⟨rfl, rfl⟩

set_option maxHeartbeats 400000 in
theorem heldB_three (g : Nat) (t : TypeId) (w : World) (h : Row w g t (tri marked)) : Calls Try.prog 43 #[.slice (some ⟨g, 0, none⟩) 3 3, .int .i64 1] w fun e' w' => e' = .returned (.int .i64 4) ∧ Below w.heap.size w w' := by
  have H := Lib.hid h
  clear h
  go_enter Try.func43, Try.ntmps43
  go_wp2_with fail
  go_loopw [1, 5] (fun mm i wl => ∃ q : Nat, q ≤ 3 ∧ i = .int .i64 q ∧ mm = .int .i64 ((q : Int) + 1) ∧ Hid (Below w.heap.size w wl)) (fun _ i _ => 3 - (intOf i).toNat)
  case atStart => exact ⟨0, by omega, rfl, rfl, Below.refl _ _⟩
  case round =>
    obtain ⟨q, hq, rfl, rfl, HB⟩ := hrel
    by_cases hq3 : q < 3
    · have r1 := H.out.under HB.out H.out.lt
      obtain ⟨a, ha⟩ : ∃ a, a = decide (((q : Int) + 1) % 3 = 0) := ⟨_, rfl⟩
      have c1 : wr.cell? ⟨g, q, none⟩ = some (.bool a) := by rw [r1.cell, tri_get _ hq3, ha]; rfl
      have l1 := r1.lt
      have e2 : ((q : Int) + 1).tmod 3 = ((q : Int) + 1) % 3 := Int.tmod_eq_emod_of_nonneg (by omega)
      have e3 : IntKind.i64.wrap (((q : Int) + 1) % 3) = ((q : Int) + 1) % 3 := IntWalk.i64_in _ (by omega)
      have ha' : (((q : Int) + 1) % 3 == 0) = a := by rw [ha]; rfl
      clear r1
      go_wp2_with fail
      go_roundw
      case rel => exact ⟨q + 1, by omega, by go_num, by go_num, HB⟩
      case measure => simp [intOf]; omega
    · have hqq : q = 3 := by omega
      subst hqq
      go_wp2_with fail
      go_ret
      exact ⟨rfl, HB.out⟩

end Go.Proofs.Ytponbjclecdafaa
