/- The walk of spec.ExprVars. -/
import Derived.Test.YtkcgjgdcmdjcfaaF2
import Derived.Test.YtkcgjgdcmdjcfaaGrX
import Derived.Test.YtkcgjgdcmdjcfaaSv
import Derived.Test.YtkcgjgdcmdjcfaaW8
namespace Go.Proofs.Ytkcgjgdcmdjcfaa
open Go.RowKit

set_option maxHeartbeats 400000 in
set_option maxRecDepth 100000 in
theorem specVars_any (e : Ex) (c0 c1 c2 : Value) (w : World) (hL : Lies w w.heap.size e c0 c1 c2) (hd : desc e ≤ 1048576) :
    Calls Try.prog 16 #[.agg #[c0, c1, c2]] w (VarsPost e w) := by
  obtain ⟨n0, n1, a2, l2, cp2, rfl, rfl, rfl⟩ := hL.form
  obtain ⟨W1, hW1⟩ : ∃ W1, W1 = w.alloc (.cells #[.int .i64 n0, .int .i64 n1, .slice a2 l2 cp2] 25) := ⟨_, rfl⟩
  have hb0 : Below w.heap.size w W1 := by rw [hW1]; exact (Below.refl _ _).alloc (Nat.le_refl _) _
  have HR : Hid (Row W1 w.heap.size 25 #[.int .i64 n0, .int .i64 n1, .slice a2 l2 cp2]) := by rw [hW1]; exact Row.new _ _ _
  have HW1 := Lib.hid hW1
  have HL := Lib.hid (below_more hL hb0 hb0.size)
  have HB0 := Lib.hid hb0
  clear hL hW1 hb0
  obtain ⟨vb, hvb⟩ : ∃ vb, vb = valid e := ⟨_, rfl⟩
  have HV := Lib.hid hvb
  clear hvb
  cases vb
  · go_enter Try.func16, Try.ntmps16
    go_wp2_with fail
    rw [← HW1.out]
    refine (specValid_any e _ _ _ _ HL.out hd).mono ?_
    rintro e' w1 ⟨rfl, hb1⟩
    rw [← HV.out]
    have HB1 := Lib.hid (HB0.out.trans (hb1.mono HB0.out.size))
    clear hb1
    go_wp2_with fail
    go_ret
    exact ⟨.inl ⟨HV.out.symm, _, _, rfl⟩, HB1.out.alloc HB1.out.size _⟩
  · go_enter Try.func16, Try.ntmps16
    go_wp2_with fail
    rw [← HW1.out]
    refine (specValid_any e _ _ _ _ HL.out hd).mono ?_
    rintro e' w1 ⟨rfl, hb1⟩
    rw [← HV.out]
    have hr1 := HR.out.under hb1 HR.out.lt
    have q0 : w1.cell? ⟨w.heap.size, 0, none⟩ = some (.int .i64 n0) := hr1.cell 0
    have q1 : w1.cell? ⟨w.heap.size, 1, none⟩ = some (.int .i64 n1) := hr1.cell 1
    have q2 : w1.cell? ⟨w.heap.size, 2, none⟩ = some (.slice a2 l2 cp2) := hr1.cell 2
    have HB1 := Lib.hid (HB0.out.trans (hb1.mono HB0.out.size))
    have HL1 := Lib.hid (below_more HL.out hb1 hb1.size)
    have hmk := make_three
    have h1 : w.heap.size < w1.heap.size := hr1.lt
    have hbm : Below w1.heap.size w1 (w1.alloc (.cells (tri fun _ => false) 4)).drew := ((Below.refl _ _).alloc (Nat.le_refl _) _).drew
    have HLm : Hid (Lies (w1.alloc (.cells (tri fun _ => false) 4)).drew w1.heap.size e (.int .i64 n0) (.int .i64 n1) (.slice a2 l2 cp2)) := HL1.out.under hbm
    have HRm : Hid (Row (w1.alloc (.cells (tri fun _ => false) 4)).drew w1.heap.size 4 (tri fun _ => false)) := Row.new w1 4 _
    have HBm : Hid (Below w.heap.size w (w1.alloc (.cells (tri fun _ => false) 4)).drew) := HB1.out.trans (hbm.mono HB1.out.size)
    clear hb1 hr1 hbm
    go_wp2_with fail
    go_region_with (first
      | (go_at_call 41
         refine (mark_any 6 e _ _ _ w1.heap.size 4 (fun _ => false) _ (shape_of_valid HV.out) HLm.out HRm.out).mono ?_
         rintro e' w2 ⟨rfl, hr2, hg2⟩
         have HR2 := Lib.hid hr2
         have HB2 : Hid (Below w.heap.size w w2) := below_of_grown HBm.out hg2 HB1.out.size
         clear hr2 hg2))
    all_goals
      (go_wp2_with fail
       go_ret
       exact ⟨.inr ⟨HV.out.symm, _, _, rfl, HB1.out.size, by have h := HR2.out; rw [tri_congr (m' := occ 6 e) (fun i => Bool.false_or _)] at h; exact h⟩, HB2.out⟩)

end Go.Proofs.Ytkcgjgdcmdjcfaa
