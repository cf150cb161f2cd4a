/- The numbers of nodes: the walk of spec.ExprNodes; the program's answer. -/
import Derived.Test.YtkcgjgdcmdjcfaaXvS
import Derived.Test.YtkcgjgdcmdjcfaaXnE
import Derived.Test.YtkcgjgdcmdjcfaaW3
namespace Go.Proofs.Ytkcgjgdcmdjcfaa
open Go.RowKit

/-- The number of nodes, or 0. -/
def nodesOf (e : Ex) : Int := if valid e then (cnt 6 e : Int) else 0

theorem valid_shape {e : Ex} (h : true = valid e) : true = shape 6 e := by
  unfold valid at h
  cases hs : shape 6 e
  · rw [hs] at h; exact h
  · rfl

set_option maxHeartbeats 400000 in
theorem specNodes_any (e : Ex) (c0 c1 c2 : Value) (w : World) (hL : Lies w w.heap.size e c0 c1 c2) (hd : desc e ≤ 1048576) :
    Calls Try.prog 14 #[.agg #[c0, c1, c2]] w fun e' w' => e' = .returned (.int .i64 (nodesOf e)) ∧ Below w.heap.size w w' := by
  obtain ⟨n0, n1, a2, l2, cp2, rfl, rfl, rfl⟩ := hL.form
  have HL : Hid (Lies (w.alloc (.cells #[.int .i64 n0, .int .i64 n1, .slice a2 l2 cp2] 25)) (w.alloc (.cells #[.int .i64 n0, .int .i64 n1, .slice a2 l2 cp2] 25)).heap.size e (.int .i64 n0) (.int .i64 n1) (.slice a2 l2 cp2)) := (hL.alloc (Nat.le_refl _) _).more (by simp)
  clear hL
  obtain ⟨vb, hvb⟩ : ∃ vb, vb = valid e := ⟨_, rfl⟩
  have HV := Lib.hid hvb
  clear hvb
  cases vb
  · go_enter Try.func14, Try.ntmps14
    go_wp2_with fail
    refine (specValid_any e _ _ _ _ HL.out hd).mono ?_
    rintro e' w1 ⟨rfl, hb1⟩
    rw [← HV.out]
    have HB1 : Hid (Below w.heap.size w w1) := boxed (hb1.mono (by simp))
    clear hb1
    go_wp2_with fail
    go_ret
    exact ⟨ret_int (by unfold nodesOf; rw [← HV.out]; rfl), HB1.out⟩
  · go_enter Try.func14, Try.ntmps14
    go_wp2_with fail
    refine (specValid_any e _ _ _ _ HL.out hd).mono ?_
    rintro e' w1 ⟨rfl, hb1⟩
    rw [← HV.out]
    have HB1 : Hid (Below (w.heap.size + 1) (w.alloc (.cells #[.int .i64 n0, .int .i64 n1, .slice a2 l2 cp2] 25)) w1) := hb1.mono (by simp)
    have HL1 := Lib.hid (below_more HL.out hb1 hb1.size)
    clear hb1
    have g0 : w1.cell? ⟨w.heap.size, 0, none⟩ = some (.int .i64 n0) := by simpa using boxed_cell HB1.out 0
    have g1 : w1.cell? ⟨w.heap.size, 1, none⟩ = some (.int .i64 n1) := by simpa using boxed_cell HB1.out 1
    have g2 : w1.cell? ⟨w.heap.size, 2, none⟩ = some (.slice a2 l2 cp2) := by simpa using boxed_cell HB1.out 2
    go_wp2_with fail
    refine (count_any e 6 _ _ _ _ HL1.out hd (by omega) (by omega)).mono ?_
    rintro e' w2 ⟨rfl, hb2⟩
    rw [show (6 : Int).toNat = 6 from rfl]
    have HB2 : Hid (Below w.heap.size w w2) := (boxed HB1.out).trans (hb2.mono (boxed HB1.out).size)
    clear hb2
    go_wp2_with fail
    go_ret
    exact ⟨ret_int (by unfold nodesOf; rw [← HV.out]; rfl), HB2.out⟩

theorem implNodes_any (e : Ex) (c0 c1 c2 : Value) (w : World) (hL : Lies w w.heap.size e c0 c1 c2) (hd : desc e ≤ 1048576) :
    Calls Try.prog 13 #[.agg #[c0, c1, c2]] w fun e' w' => e' = .returned (.int .i64 (nodesOf e)) ∧ Below w.heap.size w w' := by
  have h := implXn_any e c0 c1 c2 w hL hd
  exact h

end Go.Proofs.Ytkcgjgdcmdjcfaa
