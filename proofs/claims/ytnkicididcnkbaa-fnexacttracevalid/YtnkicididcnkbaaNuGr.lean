/- The walk of slices.Grow from nil. -/
import Derived.Test.YtnkicididcnkbaaNuP
import Derived.Lib.AppendZeros
import Derived.IntWalk
namespace Go.Proofs.Ytnkicididcnkbaa
namespace La
open Go.RowKit

theorem run_grow (X : World) (ty : TypeId) (n : Nat) (h0 : 0 < n) (hn : n ≤ 1048576) : ∃ (k : Nat) (cs : Array Value), (Builtin.append_ #[29, 3] ty #[.slice none 0 0, .int .i64 (n : Int)]).run Try.prog X = .ok (.slice (some ⟨X.heap.size, 0, none⟩) n k) (X.drew.alloc (.cells cs 3)) ∧ OwnI (X.drew.alloc (.cells cs 3)) X.heap.size X.heap.size [] k := by
  obtain ⟨i0, hi0, hz0, hz1, hz2⟩ := info_parts Try.info3
  have hr := Lib.run_append_nil_zeros (P := Try.prog) X 29 3 ty 3 i0 (.int .i64 0) .i64 .i64 Try.underlying29 Try.underlying3 hi0 hz0 n h0 (by rw [hz1]; decide) (by omega) (by rw [hz2]; omega)
  have hge := grownCap_ge X n 0 3
  have hle := grownCap_le_maxLen X n 0 3 (by unfold maxLen; omega)
  refine ⟨_, _, hr, rfl, .inr ⟨X.heap.size, _, _, rfl, Nat.le_refl _, heap_alloc_new X.drew _, Nat.zero_le _, hle, ?_, rfl⟩⟩
  rw [Array.size_append, size_zeroCells, size_zeroCells]
  show n * 1 + (_ - n) * 1 = _
  omega

def GrowPost (w : World) (e' : Ending) (w' : World) : Prop :=
  ∃ g k : Nat, e' = .returned (.slice (some ⟨g, 0, none⟩) 0 k) ∧ OwnI w' w.heap.size g [] k ∧ Below w.heap.size w w'

set_option maxHeartbeats 400000 in
set_option maxRecDepth 100000 in
theorem grow_any (n : Nat) (w : World) (h0 : 0 < n) (hn : n ≤ 1048576) : Calls Try.prog 83 #[.slice none 0 0, .int .i64 (n : Int)] w (GrowPost w) := by
  obtain ⟨k, cs, hr, ho⟩ := run_grow w 29 n h0 hn
  have HO := Lib.hid ho
  have HR := Lib.hid hr
  clear ho hr
  go_enter Try.func83, Try.ntmps83
  go_wp2_with (at_builtin; refine Lib.wpList_append_run _ rfl (.tmp 20) (.tmp 21) 29 3 rfl _ _ rfl rfl _ _ HR.out ?_)
  go_wp2_with fail
  go_ret
  exact ⟨w.heap.size, k, rfl, HO.out, ((Below.refl _ _).drew.alloc (Nat.le_refl _) _)⟩

end La
end Go.Proofs.Ytnkicididcnkbaa
