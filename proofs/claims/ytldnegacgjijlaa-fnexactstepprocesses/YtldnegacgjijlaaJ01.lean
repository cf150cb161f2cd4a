/- Joined texts: Ib, MkBs. Nothing is assumed. -/
import Derived.Test.YtldnegacgjijlaaBs
import Derived.Test.YtldnegacgjijlaaBn
namespace Go.Proofs.Ytldnegacgjijlaa
open Go.RowKit

theorem Try.info4 : (Try.prog.info? 4).map (fun i => (i.zero, i.size, i.bytes)) = some (some (.bool false), 1, 1) := by kernel_rfl

end Go.Proofs.Ytldnegacgjijlaa
namespace Go.Proofs.Ytldnegacgjijlaa
open Go.RowKit

theorem make_bools (n : Nat) (hn : n ≤ 1048576) (w : World) : ∃ cs : Array Value, cs.size = n ∧ (∀ i, i < n → cs[i]? = some (.bool false)) ∧ (Instr.makeSlice 27 (.int .i64 (n : Int)) (.int .i64 (n : Int))).run Try.prog w = .ok (.slice (some ⟨w.heap.size, 0, none⟩) n n) (w.alloc (.cells cs 4)) := by
  obtain ⟨i0, hi0, hz0, hz1, hz2⟩ := info_parts Try.info4
  have hmk := run_make_of (P := Try.prog) 27 4 i0 _ Try.underlying27 hi0 hz0 n (by rw [hz2]; omega) (by omega) w
  rw [hz1] at hmk
  refine ⟨_, ?_, fun i hi => ?_, hmk⟩
  · rw [size_madeCells]; omega
  · rw [← Array.getElem?_toList, show Value.cells (.bool false) = #[.bool false] from rfl, toList_madeCells_one, List.getElem?_replicate, if_pos (by omega)]

end Go.Proofs.Ytldnegacgjijlaa
