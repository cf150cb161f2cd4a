/- Joined texts: XvS, OpE. Nothing is assumed. -/
import Derived.Test.YtcipnecdeipeaaaDoorW2
import Derived.Test.YtcipnecdeipeaaaDoorW4
import Derived.Test.YtcipnecdeipeaaaDoorBs
namespace Go.Proofs.YtcipnecdeipeaaaDoor
open Go.RowKit

set_option maxHeartbeats 400000 in
theorem specValid_any (e : Ex) (c0 c1 c2 : Value) (w : World) (hL : Lies w w.heap.size e c0 c1 c2) (hd : desc e ≤ 1048576) :
    Calls Tryd.prog 43 #[.agg #[c0, c1, c2]] w fun e' w' => e' = .returned (.bool (valid e)) ∧ Below w.heap.size w w' := by
  obtain ⟨n0, n1, a2, l2, cp2, rfl, rfl, rfl⟩ := hL.form
  have HL : Hid (Lies (w.alloc (.cells #[.int .i64 n0, .int .i64 n1, .slice a2 l2 cp2] 44)) (w.alloc (.cells #[.int .i64 n0, .int .i64 n1, .slice a2 l2 cp2] 44)).heap.size e (.int .i64 n0) (.int .i64 n1) (.slice a2 l2 cp2)) := (hL.alloc (Nat.le_refl _) _).more (by simp)
  clear hL
  obtain ⟨sb, hsb⟩ : ∃ sb, sb = shape 6 e := ⟨_, rfl⟩
  obtain ⟨c, hc⟩ : ∃ c, c = cnt 6 e := ⟨_, rfl⟩
  have HSB := Lib.hid hsb
  have HC := Lib.hid hc
  clear hsb hc
  cases sb
  · go_enter Tryd.func43, Tryd.ntmps43
    go_wp2_with fail
    refine (shape_any e 6 _ _ _ _ HL.out (by omega) (by omega)).mono ?_
    rintro e' w1 ⟨rfl, hb1⟩
    rw [show (6 : Int).toNat = 6 from rfl, ← HSB.out]
    have HB1 : Hid (Below w.heap.size w w1) := boxed (hb1.mono (by simp))
    clear hb1
    go_wp2_with fail
    go_ret
    exact ⟨ret_bool (by unfold valid; rw [← HSB.out]; rfl), HB1.out⟩
  · go_enter Tryd.func43, Tryd.ntmps43
    go_wp2_with fail
    refine (shape_any e 6 _ _ _ _ HL.out (by omega) (by omega)).mono ?_
    rintro e' w1 ⟨rfl, hb1⟩
    rw [show (6 : Int).toNat = 6 from rfl, ← HSB.out]
    have HB1 : Hid (Below (w.heap.size + 1) (w.alloc (.cells #[.int .i64 n0, .int .i64 n1, .slice a2 l2 cp2] 44)) w1) := hb1.mono (by simp)
    have HL1 := Lib.hid (below_more HL.out hb1 hb1.size)
    clear hb1
    have g0 : w1.cell? ⟨w.heap.size, 0, none⟩ = some (.int .i64 n0) := by simpa using boxed_cell HB1.out 0
    have g1 : w1.cell? ⟨w.heap.size, 1, none⟩ = some (.int .i64 n1) := by simpa using boxed_cell HB1.out 1
    have g2 : w1.cell? ⟨w.heap.size, 2, none⟩ = some (.slice a2 l2 cp2) := by simpa using boxed_cell HB1.out 2
    go_wp2_with fail
    refine (count_any e 6 _ _ _ _ HL1.out hd (by omega) (by omega)).mono ?_
    rintro e' w2 ⟨rfl, hb2⟩
    rw [show (6 : Int).toNat = 6 from rfl, ← HC.out]
    have HB2 : Hid (Below w.heap.size w w2) := (boxed HB1.out).trans (hb2.mono (boxed HB1.out).size)
    clear hb2
    go_wp2_with fail
    all_goals go_ret
    all_goals exact ⟨ret_bool (by unfold valid; rw [← HSB.out, ← HC.out]; simp; omega), HB2.out⟩

end Go.Proofs.YtcipnecdeipeaaaDoor
namespace Go.Proofs.YtcipnecdeipeaaaDoor
open Go.RowKit

set_option maxHeartbeats 400000 in
theorem operandsF_any (n0 n1 : Int) (A : Option Addr) (n cap : Nat) (w : World) : Calls Tryd.prog 93 #[.agg #[.int .i64 n0, .int .i64 n1, .slice A n cap]] w fun e w' => e = .returned (.slice A n cap) ∧ Below w.heap.size w w' := by
  go_enter Tryd.func93, Tryd.ntmps93
  go_wp2_with fail
  go_ret
  exact ⟨rfl, (Below.refl _ _).alloc (Nat.le_refl _) _⟩

end Go.Proofs.YtcipnecdeipeaaaDoor
