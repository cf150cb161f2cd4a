/- The walk of impl.EvalExpr. -/
import Derived.Test.YtkcgjgdcmdjcfaaE6
namespace Go.Proofs.Ytkcgjgdcmdjcfaa
open Go.RowKit

set_option maxHeartbeats 400000 in
set_option maxRecDepth 100000 in
theorem ret_two {k : IntKind} {a b : Int} {c d : Bool} (h : a = b) (h2 : c = d) : Ending.returned (.tuple #[.int k a, .bool c]) = .returned (.tuple #[.int k b, .bool d]) := by rw [h, h2]
set_option maxHeartbeats 400000 in
set_option maxRecDepth 100000 in
theorem implEval_any (e : Ex) (zs : List Int) (c0 c1 c2 : Value) (A : Option Addr) (b off cap : Nat) (w : World) (hL : Lies w w.heap.size e c0 c1 c2) (hd : desc e ≤ 1048576) (hl : zs.length ≤ maxLen) (hI : Ints w w.heap.size A b off zs) :
    Calls Try.prog 9 #[.agg #[c0, c1, c2], .slice A zs.length cap] w fun e' w' => e' = .returned (.tuple #[.int .i64 (evalOut e zs), .bool (evalOk e zs)]) ∧ Below w.heap.size w w' := by
  obtain ⟨n0, n1, a2, l2, cp2, rfl, rfl, rfl⟩ := hL.form
  obtain ⟨W1, hW1⟩ : ∃ W1, W1 = w.alloc (.cells #[.int .i64 n0, .int .i64 n1, .slice a2 l2 cp2] 25) := ⟨_, rfl⟩
  have hb0 : Below w.heap.size w W1 := by rw [hW1]; exact (Below.refl _ _).alloc (Nat.le_refl _) _
  have HR : Hid (Row W1 w.heap.size 25 #[.int .i64 n0, .int .i64 n1, .slice a2 l2 cp2]) := by rw [hW1]; exact Row.new _ _ _
  have HW1 := Lib.hid hW1
  have HL := Lib.hid (below_more hL hb0 hb0.size)
  have HI := Lib.hid (hI.under hb0 hb0.size)
  have HB0 := Lib.hid hb0
  have HLn := Lib.hid hl
  clear hL hW1 hb0 hI hl
  obtain ⟨vb, hvb⟩ : ∃ vb, vb = valid e := ⟨_, rfl⟩
  have HV := Lib.hid hvb
  obtain ⟨zb, hzb⟩ : ∃ zb, zb = valsOk zs := ⟨_, rfl⟩
  have HZ := Lib.hid hzb
  clear hvb hzb
  cases vb
  · have HN : Hid (evalOk e zs = false) := by show _ = _; unfold evalOk; rw [← HV.out]; rfl
    go_enter Try.func9, Try.ntmps9
    go_wp2_with fail
    rw [← HW1.out]
    refine (implValid_any e _ _ _ _ HL.out hd).mono ?_
    rintro e' w1 ⟨rfl, hb1⟩
    rw [← HV.out]
    have HB1 := Lib.hid (HB0.out.trans (hb1.mono HB0.out.size))
    clear hb1
    go_wp2_with fail
    go_ret2
    exact ⟨ret_two (by unfold evalOut; rw [HN.out]; rfl) HN.out.symm, HB1.out⟩
  · go_enter Try.func9, Try.ntmps9
    go_wp2_with fail
    rw [← HW1.out]
    refine (implValid_any e _ _ _ _ HL.out hd).mono ?_
    rintro e' w1 ⟨rfl, hb1⟩
    rw [← HV.out]
    have hr1 := HR.out.under hb1 HR.out.lt
    have q0 : w1.cell? ⟨w.heap.size, 0, none⟩ = some _ := hr1.cell 0
    have q1 : w1.cell? ⟨w.heap.size, 1, none⟩ = some _ := hr1.cell 1
    have q2 : w1.cell? ⟨w.heap.size, 2, none⟩ = some _ := hr1.cell 2
    have HL1 := Lib.hid (below_more HL.out hb1 hb1.size)
    have HI1 := Lib.hid (HI.out.under hb1 hb1.size)
    have HB1 := Lib.hid (HB0.out.trans (hb1.mono HB0.out.size))
    clear hb1 hr1
    go_wp2_with fail
    refine (implVals_any zs A cap b off _ HLn.out HI1.out).mono ?_
    rintro e' w2 ⟨rfl, rfl⟩
    rw [← HZ.out]
    cases zb
    · have HN : Hid (evalOk e zs = false) := by show _ = _; unfold evalOk; rw [← HZ.out]; simp
      go_wp2_with fail
      go_ret2
      exact ⟨ret_two (by unfold evalOut; rw [HN.out]; rfl) HN.out.symm, HB1.out⟩
    · have HN : Hid (evalOk e zs = true) := by show _ = _; unfold evalOk; rw [← HZ.out, ← HV.out]; rfl
      have HVs := Lib.hid (vals_of HZ.out HI1.out)
      go_wp2_with fail
      refine (fold_any zs HVs.out.range 6 e _ _ _ _ (shape_of_valid HV.out) HL1.out).mono ?_
      rintro e' w3 ⟨nv, rfl, hn, hb3⟩
      obtain ⟨T, x, f, rfl, hm, hc, he⟩ := hn
      have HM := Lib.hid hm
      have HC := Lib.hid hc
      have HE := Lib.hid he
      have HB3 := Lib.hid (HB1.out.trans (hb3.mono HB1.out.size))
      have HV3 := Lib.hid (HVs.out.under hb3)
      clear hb3 hm hc he
      go_wp2_with fail
      rw [upon_method _ HM.out]
      rotate_left
      · kernel_rfl
      go_wp2_with fail
      rw [HC.out]
      go_wp2_with fail
      rw [HVs.out.len]
      refine (Ev.call HE.out A b off cap _ HV3.out).mono ?_
      rintro e' w4 ⟨rfl, hb4⟩
      have HB4 := Lib.hid (HB3.out.trans (hb4.mono HB3.out.size))
      clear hb4
      go_wp2_with fail
      go_ret2
      exact ⟨ret_two (by unfold evalOut; rw [HN.out]; rfl) HN.out.symm, HB4.out⟩

end Go.Proofs.Ytkcgjgdcmdjcfaa
