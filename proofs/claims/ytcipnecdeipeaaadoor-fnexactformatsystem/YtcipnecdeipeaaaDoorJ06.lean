/- Joined texts: XnE, XvE, W8. Nothing is assumed. -/
import Derived.Test.YtcipnecdeipeaaaDoorXcEQ
import Derived.Test.YtcipnecdeipeaaaDoorW3
import Derived.Test.YtcipnecdeipeaaaDoorW6
import Derived.Test.YtcipnecdeipeaaaDoorW7
import Derived.Test.YtcipnecdeipeaaaDoorJ05
import Derived.Deep.RegionHeld3
namespace Go.Proofs.YtcipnecdeipeaaaDoor
open Go.RowKit

set_option maxHeartbeats 400000 in
set_option maxRecDepth 100000 in
theorem implXn_any (e : Ex) (c0 c1 c2 : Value) (w : World) (hL : Lies w w.heap.size e c0 c1 c2) (hd : desc e ≤ 1048576) :
    Calls Tryd.prog 62 #[.agg #[c0, c1, c2]] w fun e' w' => e' = .returned (.int .i64 (xNodes e)) ∧ Below w.heap.size w w' := by
  obtain ⟨n0, n1, a2, l2, cp2, rfl, rfl, rfl⟩ := hL.form
  obtain ⟨W1, hW1⟩ : ∃ W1, W1 = w.alloc (.cells #[.int .i64 n0, .int .i64 n1, .slice a2 l2 cp2] 44) := ⟨_, rfl⟩
  have hb0 : Below w.heap.size w W1 := by rw [hW1]; exact (Below.refl _ _).alloc (Nat.le_refl _) _
  have HW1 := Lib.hid hW1
  have HL := Lib.hid (below_more hL hb0 hb0.size)
  have HB0 := Lib.hid hb0
  clear hL hW1 hb0
  obtain ⟨sb, hsb⟩ : ∃ sb, sb = shape 6 e := ⟨_, rfl⟩
  obtain ⟨c, hc⟩ : ∃ c, c = cnt 6 e := ⟨_, rfl⟩
  have HSB := Lib.hid hsb
  have HC := Lib.hid hc
  clear hsb hc
  cases sb
  all_goals
    (go_enter Tryd.func62, Tryd.ntmps62
     go_wp2_with fail
     rw [← HW1.out]
     refine (xc_any e 6 _ _ _ _ HL.out hd (by omega) (by omega)).mono ?_
     rintro e' w1 ⟨rfl, hb1⟩
     have HB1 : Hid (Below w.heap.size w w1) := HB0.out.trans (hb1.mono HB0.out.size)
     clear hb1)
  · rw [show (6 : Int).toNat = 6 from rfl, ← HSB.out]
    go_wp2_with fail
    go_ret
    exact ⟨ret_int (by unfold xNodes valid; rw [← HSB.out]; rfl), HB1.out⟩
  · rw [show (6 : Int).toNat = 6 from rfl, ← HSB.out, xcOut_true HSB.out.symm, ← HC.out]
    by_cases h15 : c ≤ 15
    · go_wp2_with fail
      go_ret
      exact ⟨ret_int (by unfold xNodes valid; rw [← HSB.out, ← HC.out, decide_eq_true h15]; rfl), HB1.out⟩
    · go_wp2_with fail
      go_ret
      exact ⟨ret_int (by unfold xNodes valid; rw [← HSB.out, ← HC.out, decide_eq_false h15]; rfl), HB1.out⟩

end Go.Proofs.YtcipnecdeipeaaaDoor
namespace Go.Proofs.YtcipnecdeipeaaaDoor
open Go.RowKit

set_option maxHeartbeats 400000 in
set_option maxRecDepth 100000 in
theorem implXv_any (e : Ex) (c0 c1 c2 : Value) (w : World) (hL : Lies w w.heap.size e c0 c1 c2) (hd : desc e ≤ 1048576) :
    Calls Tryd.prog 49 #[.agg #[c0, c1, c2]] w fun e' w' => e' = .returned (.bool (valid e)) ∧ Below w.heap.size w w' := by
  obtain ⟨n0, n1, a2, l2, cp2, rfl, rfl, rfl⟩ := hL.form
  obtain ⟨W1, hW1⟩ : ∃ W1, W1 = w.alloc (.cells #[.int .i64 n0, .int .i64 n1, .slice a2 l2 cp2] 44) := ⟨_, rfl⟩
  have hb0 : Below w.heap.size w W1 := by rw [hW1]; exact (Below.refl _ _).alloc (Nat.le_refl _) _
  have HW1 := Lib.hid hW1
  have HL := Lib.hid (below_more hL hb0 hb0.size)
  have HB0 := Lib.hid hb0
  clear hL hW1 hb0
  obtain ⟨z, hz⟩ : ∃ z, z = xNodes e := ⟨_, rfl⟩
  have HZ := Lib.hid hz
  clear hz
  go_enter Tryd.func49, Tryd.ntmps49
  go_wp2_with fail
  rw [← HW1.out]
  refine (implXn_any e _ _ _ _ HL.out hd).mono ?_
  rintro e' w1 ⟨rfl, hb1⟩
  rw [← HZ.out]
  have HB1 : Hid (Below w.heap.size w w1) := HB0.out.trans (hb1.mono HB0.out.size)
  clear hb1
  have HV : Hid (decide (0 < z) = valid e) := by show _ = _; rw [HZ.out]; exact xNodes_pos
  by_cases hp : 0 < z
  · have HT : Hid (valid e = true) := by show _ = _; rw [← HV.out, decide_eq_true hp]
    go_wp2_with fail
    go_ret
    exact ⟨ret_bool HT.out.symm, HB1.out⟩
  · have HT : Hid (valid e = false) := by show _ = _; rw [← HV.out, decide_eq_false hp]
    go_wp2_with fail
    go_ret
    exact ⟨ret_bool (by rw [HT.out]; simp; omega), HB1.out⟩

end Go.Proofs.YtcipnecdeipeaaaDoor
namespace Go.Proofs.YtcipnecdeipeaaaDoor
open Go.RowKit

theorem implValid_any (e : Ex) (c0 c1 c2 : Value) (w : World) (hL : Lies w w.heap.size e c0 c1 c2) (hd : desc e ≤ 1048576) :
    Calls Tryd.prog 49 #[.agg #[c0, c1, c2]] w fun e' w' => e' = .returned (.bool (valid e)) ∧ Below w.heap.size w w' := implXv_any e c0 c1 c2 w hL hd

end Go.Proofs.YtcipnecdeipeaaaDoor
