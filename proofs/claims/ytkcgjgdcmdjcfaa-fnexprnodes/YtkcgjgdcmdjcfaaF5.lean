/- The walk of impl.ExprVars. -/
import Derived.Test.YtkcgjgdcmdjcfaaSv
import Derived.Test.YtkcgjgdcmdjcfaaF4
namespace Go.Proofs.Ytkcgjgdcmdjcfaa
open Go.RowKit

set_option maxHeartbeats 400000 in
set_option maxRecDepth 100000 in
theorem implVars_any (e : Ex) (c0 c1 c2 : Value) (w : World) (hL : Lies w w.heap.size e c0 c1 c2) (hd : desc e ≤ 1048576) :
    Calls Try.prog 11 #[.agg #[c0, c1, c2]] w (VarsPost e w) := by
  obtain ⟨n0, n1, a2, l2, cp2, rfl, rfl, rfl⟩ := hL.form
  obtain ⟨W1, hW1⟩ : ∃ W1, W1 = w.alloc (.cells #[.int .i64 n0, .int .i64 n1, .slice a2 l2 cp2] 25) := ⟨_, rfl⟩
  have hb0 : Below w.heap.size w W1 := by rw [hW1]; exact (Below.refl _ _).alloc (Nat.le_refl _) _
  have HR : Hid (Row W1 w.heap.size 25 #[.int .i64 n0, .int .i64 n1, .slice a2 l2 cp2]) := by rw [hW1]; exact Row.new _ _ _
  have HW1 := Lib.hid hW1
  have HL := Lib.hid (below_more hL hb0 hb0.size)
  have HB0 := Lib.hid hb0
  clear hL hW1 hb0
  obtain ⟨vb, hvb⟩ : ∃ vb, vb = valid e := ⟨_, rfl⟩
  have HV := Lib.hid hvb
  clear hvb
  cases vb
  · go_enter Try.func11, Try.ntmps11
    go_wp2_with fail
    rw [← HW1.out]
    refine (implValid_any e _ _ _ _ HL.out hd).mono ?_
    rintro e' w1 ⟨rfl, hb1⟩
    rw [← HV.out]
    have HB1 := Lib.hid (HB0.out.trans (hb1.mono HB0.out.size))
    clear hb1
    go_wp2_with fail
    go_ret
    exact ⟨.inl ⟨HV.out.symm, _, _, rfl⟩, HB1.out⟩
  · have HM : Hid (∃ b0 b1 b2, tri (occ 6 e) = #[.bool b0, .bool b1, .bool b2]) := ⟨_, _, _, rfl⟩
    go_enter Try.func11, Try.ntmps11
    go_wp2_with fail
    rw [← HW1.out]
    refine (implValid_any e _ _ _ _ HL.out hd).mono ?_
    rintro e' w1 ⟨rfl, hb1⟩
    rw [← HV.out]
    have hr1 := HR.out.under hb1 HR.out.lt
    have q0 : w1.cell? ⟨w.heap.size, 0, none⟩ = some (.int .i64 n0) := hr1.cell 0
    have q1 : w1.cell? ⟨w.heap.size, 1, none⟩ = some (.int .i64 n1) := hr1.cell 1
    have q2 : w1.cell? ⟨w.heap.size, 2, none⟩ = some (.slice a2 l2 cp2) := hr1.cell 2
    have HB1 := Lib.hid (HB0.out.trans (hb1.mono HB0.out.size))
    have HL1 := Lib.hid (below_more HL.out hb1 hb1.size)
    clear hb1 hr1
    go_wp2_with fail
    refine (foldB_any 6 e _ _ _ _ (shape_of_valid HV.out) HL1.out).mono ?_
    rintro e' w2 ⟨rfl, hb2⟩
    obtain ⟨b0, b1, b2, hM⟩ := HM.out
    rw [hM]
    have HM' := Lib.hid hM
    have HB2 := Lib.hid (HB1.out.trans (hb2.mono HB1.out.size))
    clear hb2 hM
    go_wp2_with fail
    go_ret
    exact ⟨.inr ⟨HV.out.symm, _, 60, rfl, HB2.out.size, by rw [HM'.out]; exact Row.new _ _ _⟩, HB2.out.alloc HB2.out.size _⟩

end Go.Proofs.Ytkcgjgdcmdjcfaa
