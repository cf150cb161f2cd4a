/- Marks of states, exactly: the walks of laws.markState and laws.heldState. -/
import Derived.Test.YtefpdkfogfhniaaMkI
import Derived.Test.YtefpdkfogfhniaaJ03
import Derived.Test.YtefpdkfogfhniaaStaQ
namespace Go.Proofs.Ytefpdkfogfhniaa
open Go.RowKit

set_option maxHeartbeats 400000 in
theorem mkSt_any (s : St) (xa : Option Addr) (xl xc : Nat) (ya : Option Addr) (yl yc lo hi : Nat) (w : World) (h : StR w lo hi s (.slice xa xl xc) (.slice ya yl yc)) (hhi : hi ≤ w.heap.size) (h1 : s.locs.length ≤ 1048576) (h2 : s.vals.length ≤ 1048576) :
    Calls Try.prog 14 #[.agg #[.slice xa xl xc, .slice ya yl yc], .int .i64 1] w fun e' w' => e' = .returned (.int .i64 (1 + s.locs.length + s.vals.length)) ∧ StR w' lo hi (markedSt s) (.slice xa xl xc) (.slice ya yl yc) ∧ Kept lo hi w w' := by
  obtain ⟨locs, vals⟩ := s
  obtain ⟨m0, m1, n0, n1, ho, hi1, hp1⟩ := h
  dsimp only at hi1 hp1 h1 h2
  obtain ⟨W1, hW1⟩ : ∃ W1, W1 = w.alloc (.cells #[.slice xa xl xc, .slice ya yl yc] 28) := ⟨_, rfl⟩
  have hb0 : Below w.heap.size w W1 := by rw [hW1]; exact (Below.refl _ _).alloc (Nat.le_refl _) _
  have HR : Hid (Row W1 w.heap.size 28 #[.slice xa xl xc, .slice ya yl yc]) := by rw [hW1]; exact Row.new _ _ _
  have HI := Lib.hid ((Lay.int.slice _).sunder hi1 hb0 (by omega))
  have HP := Lib.hid ((Lay.int.slice _).sunder hp1 hb0 (by omega))
  have HK0 : Hid (Kept lo hi w W1) := Kept.of_below hb0 lo hi
  have hs1 := hb0.size
  have HW1 := Lib.hid hW1
  have HO := Lib.hid ho
  clear hW1 hb0 hi1 hp1 ho
  go_enter Try.func14, Try.ntmps14
  go_wp2_with fail
  rw [← HW1.out]
  refine (mkInX_any locs (fun _ => .slice xa xl xc) 1 m0 m1 _ HI.out h1 (by omega) (by omega)).mono ?_
  rintro e' w2 ⟨rfl, hx2, hk2⟩
  obtain ⟨g0, g1⟩ := (HR.out.kept hk2 (by have := HO.out; omega)).two
  have hz2 := hk2.size
  have HP2 := Lib.hid ((Lay.int.slice 3).sep_keep (fun q b1 b2 => hk2.other q (by have := HO.out; omega) (by have := HO.out; omega)) HP.out)
  have HX2 := Lib.hid hx2
  have HK2 := Lib.hid (HK0.out.trans (hk2.more HO.out.1 HO.out.2.2.1))
  clear hk2 g0 hx2
  go_wp2_with fail
  refine (mkInX_any vals (fun _ => .slice ya yl yc) (1 + locs.length) n0 n1 _ HP2.out h2 (by omega) (by omega)).mono ?_
  rintro e' w3 ⟨rfl, hx3, hk3⟩
  have HK3 := Lib.hid (HK2.out.trans (hk3.more HO.out.2.2.2.1 HO.out.2.2.2.2.2.1))
  have HX3 : Hid (StR w3 lo hi (markedSt ⟨locs, vals⟩) (.slice xa xl xc) (.slice ya yl yc)) := ⟨m0, m1, n0, n1, HO.out, (Lay.int.slice _).sep_keep (fun q b1 b2 => hk3.other q (by have := HO.out; omega) (by have := HO.out; omega)) HX2.out, hx3⟩
  clear hk3 g1 hx3
  go_wp2_with fail
  go_ret
  exact ⟨rfl, HX3.out, HK3.out⟩

set_option maxHeartbeats 400000 in
theorem heldSt_any (s : St) (C : Nat → Value) (w : World) (h : Lay.sta.lies w w.heap.size (markedSt s) C) (h1 : s.locs.length ≤ 1048576) (h2 : s.vals.length ≤ 1048576) :
    Calls Try.prog 15 #[.agg #[C 0, C 1], .int .i64 1] w fun e' w' => e' = .returned (.int .i64 (1 + s.locs.length + s.vals.length)) ∧ Below w.heap.size w w' := by
  obtain ⟨locs, vals⟩ := s
  obtain ⟨h3, h4⟩ := h
  dsimp only [markedSt] at h1 h2 h3 h4
  obtain ⟨W1, hW1⟩ : ∃ W1, W1 = w.alloc (.cells #[C 0, C 1] 28) := ⟨_, rfl⟩
  have hb0 : Below w.heap.size w W1 := by rw [hW1]; exact (Below.refl _ _).alloc (Nat.le_refl _) _
  have HR : Hid (Row W1 w.heap.size 28 #[C 0, C 1]) := by rw [hW1]; exact Row.new _ _ _
  have HI := Lib.hid ((Lay.int.slice _).later h3 hb0 hb0.size)
  have HP := Lib.hid ((Lay.int.slice _).later h4 hb0 hb0.size)
  have HB0 := Lib.hid hb0
  have HW1 := Lib.hid hW1
  clear hW1 hb0 h3 h4
  go_enter Try.func15, Try.ntmps15
  go_wp2_with fail
  rw [← HW1.out]
  refine (heldIn_any locs.length C 1 _ HI.out h1 (by omega) (by omega)).mono ?_
  rintro e' w2 ⟨rfl, rfl⟩
  obtain ⟨g0, g1⟩ := HR.out.two
  go_wp2_with fail
  refine (heldIn_any vals.length (fun j => C ((Lay.int.slice 3).st + j)) (1 + locs.length) _ HP.out h2 (by omega) (by omega)).mono ?_
  rintro e' w3 ⟨rfl, rfl⟩
  go_wp2_with fail
  go_ret
  exact ⟨rfl, HB0.out⟩

end Go.Proofs.Ytefpdkfogfhniaa
