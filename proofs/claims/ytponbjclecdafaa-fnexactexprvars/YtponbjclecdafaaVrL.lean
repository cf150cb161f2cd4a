/- The walk of the law laws.FnExactExprVars. -/
import Derived.Test.YtponbjclecdafaaF2s
import Derived.Test.YtponbjclecdafaaF5
import Derived.Test.YtponbjclecdafaaL10
import Derived.Test.YtponbjclecdafaaM1b
import Derived.Test.YtponbjclecdafaaW3
import Derived.Test.YtponbjclecdafaaW6
import Derived.Test.YtponbjclecdafaaW7
namespace Go.Proofs.Ytponbjclecdafaa
open Go.RowKit

set_option maxHeartbeats 1000000 in
set_option maxRecDepth 100000 in
theorem lawVars_any (e : Ex) (c0 c1 c2 : Value) (w : World) (hL : Lies w w.heap.size e c0 c1 c2) :
    Calls Try.prog 6 #[.agg #[c0, c1, c2]] w fun e' w' => e' = .returned (.bool true) ∧ Below w.heap.size w w' := by
  obtain ⟨n0, n1, a2, l2, cp2, rfl, rfl, rfl⟩ := hL.form
  obtain ⟨W1, hW1⟩ : ∃ W1, W1 = w.alloc (.cells #[.int .i64 n0, .int .i64 n1, .slice a2 l2 cp2] 59) := ⟨_, rfl⟩
  have HL : Hid (Lies W1 W1.heap.size e (.int .i64 n0) (.int .i64 n1) (.slice a2 l2 cp2)) := by rw [hW1]; exact (hL.alloc (Nat.le_refl _) _).more (by simp)
  have HS1 : Hid (W1.heap.size = w.heap.size + 1) := by rw [hW1]; show _ = _; simp
  have HW1 := Lib.hid hW1
  have HB0 : Hid (Below w.heap.size w W1) := by rw [hW1]; exact (Below.refl _ _).alloc (Nat.le_refl _) _
  have HR0 : Hid (Row W1 w.heap.size 59 #[.int .i64 n0, .int .i64 n1, .slice a2 l2 cp2]) := by rw [hW1]; exact Row.new _ _ _
  clear hL hW1
  obtain ⟨r, hr⟩ : ∃ r, r = room 1048576 (desc e) := ⟨_, rfl⟩
  have HR := Lib.hid hr
  by_cases hbig : 1048576 < desc e
  · have hneg : r < 0 := by rw [hr]; unfold room; rw [if_pos (by omega)]; omega
    clear hr
    go_enter Try.func6, Try.ntmps6
    go_wp2_with fail
    rw [← HW1.out]
    refine (sz_any e 1048576 _ _ _ _ HL.out (by omega) (by omega)).mono ?_
    rintro e' w1 ⟨rfl, hb1⟩
    rw [← HR.out]
    have HB1 := Lib.hid (HB0.out.trans (hb1.mono HB0.out.size))
    clear hb1
    go_wp2_with fail
    go_ret
    exact ⟨rfl, HB1.out⟩
  · have hpos : 0 ≤ r := by rw [hr]; unfold room; rw [if_neg (by omega)]; omega
    clear hr
    have hd : desc e ≤ 1048576 := by omega
    have h01 : w.heap.size < W1.heap.size := by rw [HS1.out]; omega
    clear hbig
    obtain ⟨v, hv⟩ : ∃ v, v = valid e := ⟨_, rfl⟩
    have HV := Lib.hid hv
    clear hv
    obtain ⟨K, hK⟩ : ∃ K, K = count v := ⟨_, rfl⟩
    have hK0 : 0 ≤ K := by rw [hK]; exact count_pos v
    have HKc := Lib.hid hK
    clear hK
    obtain ⟨D, hD⟩ : ∃ D : Nat, D = desc e := ⟨_, rfl⟩
    have HD := Lib.hid hD
    have hD2 : D ≤ 1048576 := by omega
    clear hD
    go_enter Try.func6, Try.ntmps6
    go_wp2_with fail
    rw [← HW1.out]
    refine (sz_any e 1048576 _ _ _ _ HL.out (by omega) (by omega)).mono ?_
    rintro e' w1 ⟨rfl, hb1⟩
    rw [← HR.out]
    have HB1 : Hid (Below W1.heap.size W1 w1) := hb1
    clear hb1
    have hr1 := HR0.out.under HB1.out h01
    have g0 : w1.cell? ⟨w.heap.size, 0, none⟩ = some (.int .i64 n0) := by rw [hr1.cell]; rfl
    have g1 : w1.cell? ⟨w.heap.size, 1, none⟩ = some (.int .i64 n1) := by rw [hr1.cell]; rfl
    have g2 : w1.cell? ⟨w.heap.size, 2, none⟩ = some (.slice a2 l2 cp2) := by rw [hr1.cell]; rfl
    clear hr1
    go_wp2_with fail
    -- the first copy, and the model's answer
    refine (to_any e _ _ _ _ (below_more HL.out HB1.out HB1.out.size) hd).mono ?_
    rintro e' w2 ⟨d0, d1, d2, rfl, ho2, hb2⟩
    have HB2 : Hid (Below W1.heap.size W1 w2) := HB1.out.trans (hb2.mono HB1.out.size)
    have HO2 := Lib.hid ho2
    clear hb2 ho2 g0 g1 g2 HB1
    go_wp2_with fail
    refine (specVars_any e _ _ _ _ HO2.out.lies hd).mono ?_
    rintro e' w3 hv3
    obtain ⟨S4, rfl, hS4, hb3⟩ := hv3.bv
    rw [← HV.out] at hS4
    have HB3 : Hid (Below W1.heap.size W1 w3) := HB2.out.trans (hb3.mono HB2.out.size)
    have HS4 := Lib.hid hS4
    clear hb3 HB2 HO2 hS4 hv3
    have hr1 := HR0.out.under HB3.out h01
    have g0 : w3.cell? ⟨w.heap.size, 0, none⟩ = some (.int .i64 n0) := by rw [hr1.cell]; rfl
    have g1 : w3.cell? ⟨w.heap.size, 1, none⟩ = some (.int .i64 n1) := by rw [hr1.cell]; rfl
    have g2 : w3.cell? ⟨w.heap.size, 2, none⟩ = some (.slice a2 l2 cp2) := by rw [hr1.cell]; rfl
    have h13 : W1.heap.size ≤ w3.heap.size := HB3.out.size
    clear hr1
    go_wp2_with fail
    -- the second copy, and the program's answer
    refine (to_any e _ _ _ _ (below_more HL.out HB3.out HB3.out.size) hd).mono ?_
    rintro e' w4 ⟨m0, m1, m2, rfl, ho4, hb4⟩
    obtain ⟨k0, k1, a4, l4, cp4, rfl, rfl, rfl⟩ := ho4.form
    have HB4 : Hid (Below W1.heap.size W1 w4) := HB3.out.trans (hb4.mono HB3.out.size)
    have hS4 := HS4.out.under hb4
    have HO4 := Lib.hid ho4
    have h34 : w3.heap.size ≤ w4.heap.size := hb4.size
    clear hb4 ho4 g0 g1 g2 HB3 HS4
    obtain ⟨W5, hW5⟩ : ∃ W5, W5 = w4.alloc (.cells #[.int .i64 k0, .int .i64 k1, .slice a4 l4 cp4] 64) := ⟨_, rfl⟩
    have HW5 := Lib.hid hW5
    have hz5 : W5.heap.size = w4.heap.size + 1 := by rw [hW5]; simp
    have HR5 : Hid (Row W5 w4.heap.size 64 #[.int .i64 k0, .int .i64 k1, .slice a4 l4 cp4]) := by rw [hW5]; exact Row.new _ _ _
    have hb5 : Below w4.heap.size w4 W5 := by rw [hW5]; exact (Below.refl _ _).alloc (Nat.le_refl _) _
    have HB5 : Hid (Below W1.heap.size W1 W5) := HB4.out.trans (hb5.mono HB4.out.size)
    have HL5 : Hid (Lies W5 W5.heap.size e (.int .i64 k0) (.int .i64 k1) (.slice a4 l4 cp4)) := below_more HO4.out.lies hb5 hb5.size
    have HO5 := Lib.hid (HO4.out.under hb5 (Nat.le_refl _))
    have HS45 := Lib.hid (hS4.under hb5)
    clear hW5 hb5 hS4 HO4 HB4
    go_wp2_with fail
    rw [← HW5.out]
    refine (implVars_any e _ _ _ _ HL5.out hd).mono ?_
    rintro e' w6 hv6
    obtain ⟨S6, rfl, hS6, hb6⟩ := hv6.bv
    rw [← HV.out] at hS6
    have HS6 := Lib.hid hS6
    have HS46 := Lib.hid (HS45.out.under hb6)
    have HR6 := Lib.hid (HR5.out.under hb6 HR5.out.lt)
    have HO6 := Lib.hid (HO5.out.under hb6 (by omega))
    have HX6 := Lib.hid (below_more HL5.out hb6 hb6.size)
    have HB6 := Lib.hid (HB5.out.trans (hb6.mono HB5.out.size))
    clear hb6 hS6 hv6 HS45 HR5 HO5 HL5 HB5 HW5
    go_wp2_with fail
    refine (eqB_any HS6.out HS46.out).mono ?_
    rintro e' w7 ⟨rfl, hb7'⟩
    have hb7 := hb7'.drew
    clear hb7'
    have HS67 : Hid (BV v w7.drew W5.heap.size w6.heap.size S6 (occ 6 e)) := HS6.out.under hb7
    have HS47 : Hid (BV v w7.drew w2.heap.size w3.heap.size S4 (occ 6 e)) := HS46.out.under hb7
    have HR7 : Hid (Row w7.drew w4.heap.size 64 #[.int .i64 k0, .int .i64 k1, .slice a4 l4 cp4]) := HR6.out.under hb7 HR6.out.lt
    have HO7 : Hid (Own w7.drew 64 w3.heap.size w4.heap.size e (.int .i64 k0) (.int .i64 k1) (.slice a4 l4 cp4)) := HO6.out.under hb7 (by have := HR6.out.lt; omega)
    have HX7 : Hid (Lies w7.drew w7.drew.heap.size e (.int .i64 k0) (.int .i64 k1) (.slice a4 l4 cp4)) := below_more HX6.out hb7 hb7.size
    have HB7 : Hid (Below W1.heap.size W1 w7.drew) := HB6.out.trans (hb7.mono HB6.out.size)
    have hr1 := HR0.out.under HB7.out h01
    have g0 : w7.cell? ⟨w.heap.size, 0, none⟩ = some (.int .i64 n0) := hr1.cell 0
    have g1 : w7.cell? ⟨w.heap.size, 1, none⟩ = some (.int .i64 n1) := hr1.cell 1
    have g2 : w7.cell? ⟨w.heap.size, 2, none⟩ = some (.slice a2 l2 cp2) := hr1.cell 2
    have f0 : w7.cell? ⟨w4.heap.size, 0, none⟩ = some (.int .i64 k0) := HR7.out.cell 0
    have f1 : w7.cell? ⟨w4.heap.size, 1, none⟩ = some (.int .i64 k1) := HR7.out.cell 1
    have f2 : w7.cell? ⟨w4.heap.size, 2, none⟩ = some (.slice a4 l4 cp4) := HR7.out.cell 2
    have HL7 : Hid (Lies w7.drew w7.drew.heap.size e (.int .i64 n0) (.int .i64 n1) (.slice a2 l2 cp2)) := below_more HL.out HB7.out HB7.out.size
    have h56 : w6.heap.size ≤ w7.heap.size := hb7.size
    clear hb7 hr1 HS6 HS46 HR6 HO6 HX6 HB6
    go_wp2_with fail
    go_region_with (first
      | (go_at_call 34
         refine (to_any e _ _ _ _ HL7.out hd).mono ?_
         rintro e' w8 ⟨p0, p1, p2, rfl, ho8, hb8⟩
         have hr8 := HR7.out.under hb8 HR7.out.lt
         have f0' : w8.cell? ⟨w4.heap.size, 0, none⟩ = some (.int .i64 k0) := hr8.cell 0
         have f1' : w8.cell? ⟨w4.heap.size, 1, none⟩ = some (.int .i64 k1) := hr8.cell 1
         have f2' : w8.cell? ⟨w4.heap.size, 2, none⟩ = some (.slice a4 l4 cp4) := hr8.cell 2
         have HX8 := Lib.hid (below_more HX7.out hb8 hb8.size)
         have HY8 := Lib.hid ho8.lies
         have HB8 := Lib.hid hb8
         clear hb8 ho8 hr8)
      | (go_at_call 37
         refine (eq_any e _ _ _ _ _ _ _ HX8.out HY8.out).mono ?_
         rintro e' w9 ⟨rfl, hb9⟩
         have HB9 : Hid (Below w7.drew.heap.size w7.drew w9) := HB8.out.trans (hb9.mono HB8.out.size)
         clear hb9 HX8 HY8 HB8))
    all_goals
      (have hr9 := HR7.out.under HB9.out HR7.out.lt
       have f0' : w9.cell? ⟨w4.heap.size, 0, none⟩ = some (.int .i64 k0) := hr9.cell 0
       have f1' : w9.cell? ⟨w4.heap.size, 1, none⟩ = some (.int .i64 k1) := hr9.cell 1
       have f2' : w9.cell? ⟨w4.heap.size, 2, none⟩ = some (.slice a4 l4 cp4) := hr9.cell 2
       have h9 : w7.heap.size ≤ w9.heap.size := HB9.out.size
       have h47 : w4.heap.size < w7.heap.size := HR7.out.lt
       have HO9 := Lib.hid (HO7.out.under HB9.out (by show _ ≤ w7.heap.size; omega))
       have HS69 := Lib.hid (HS67.out.under HB9.out)
       have HS49 := Lib.hid (HS47.out.under HB9.out)
       have HBB9 := Lib.hid (HB7.out.trans (HB9.out.mono HB7.out.size))
       clear hr9
       go_wp2_with fail
       -- the copy is written over
       refine (markExpr_any e _ _ _ 1 w3.heap.size w4.heap.size _ HO9.out (by omega) hd (by omega) (by omega)).mono ?_
       rintro e' w10 ⟨rfl, hs10⟩
       rw [← HD.out]
       have hk10 := hs10.kept
       have HS610 := Lib.hid (HS69.out.kept hk10 (by omega))
       have HS410 := Lib.hid (HS49.out.kept hk10 (by omega))
       have HB10 := Lib.hid (HBB9.out.trans (hk10.below h13 HBB9.out.size))
       have h910 : w9.heap.size ≤ w10.heap.size := hk10.size
       clear hs10 hk10 HS69 HS49 HBB9 HO9 f0' f1' f2'
       go_wp2_with fail
       refine (eqB_any HS610.out HS410.out).mono ?_
       rintro e' w11 ⟨rfl, hb11⟩
       have HS611 := Lib.hid (HS610.out.under hb11)
       have HS411 := Lib.hid (HS410.out.under hb11)
       have HB11 := Lib.hid (HB10.out.trans (hb11.mono HB10.out.size))
       have h1011 : w10.heap.size ≤ w11.heap.size := hb11.size
       clear hb11 HS610 HS410 HB10
       go_wp2_with fail
       -- the answer is written over
       refine (markB_any HS611.out).mono ?_
       rintro e' w12 ⟨rfl, hS612, hk12⟩
       rw [← HKc.out]
       have HS612 := Lib.hid hS612
       have HS412 := Lib.hid (HS411.out.kept hk12 (by omega))
       have HB12 := Lib.hid (HB11.out.trans (hk12.below (by omega) HB11.out.size))
       clear hk12 hS612 HS611 HS411 HB11
       go_wp2_with fail
       refine (heldB_any HS612.out).mono ?_
       rintro e' w13 ⟨rfl, hb13⟩
       rw [← HKc.out]
       have HS613 := Lib.hid (HS612.out.under hb13)
       have HS413 := Lib.hid (HS412.out.under hb13)
       have HB13 := Lib.hid (HB12.out.trans (hb13.mono HB12.out.size))
       have hr13 := HR0.out.under HB13.out h01
       have g0' : w13.cell? ⟨w.heap.size, 0, none⟩ = some (.int .i64 n0) := hr13.cell 0
       have g1' : w13.cell? ⟨w.heap.size, 1, none⟩ = some (.int .i64 n1) := hr13.cell 1
       have g2' : w13.cell? ⟨w.heap.size, 2, none⟩ = some (.slice a2 l2 cp2) := hr13.cell 2
       have HL13 := Lib.hid (below_more HL.out HB13.out HB13.out.size)
       clear hb13 hr13 HS612 HS412 HB12
       go_wp2_with fail
       -- a third copy, and the program's answer again
       refine (to_any e _ _ _ _ HL13.out hd).mono ?_
       rintro e' w14 ⟨p0, p1, p2, rfl, ho14, hb14⟩
       have HY14 := Lib.hid ho14.lies
       have HS614 := Lib.hid (HS613.out.under hb14)
       have HS414 := Lib.hid (HS413.out.under hb14)
       have HB14 := Lib.hid (HB13.out.trans (hb14.mono HB13.out.size))
       clear hb14 ho14 HS613 HS413 HB13 HL13 g0' g1' g2'
       go_wp2_with fail
       refine (implVars_any e _ _ _ _ HY14.out hd).mono ?_
       rintro e' w15 hv15
       obtain ⟨S15, rfl, hS15, hb15⟩ := hv15.bv
       rw [← HV.out] at hS15
       have HS15 := Lib.hid hS15
       have HS615 := Lib.hid (HS614.out.under hb15)
       have HS415 := Lib.hid (HS414.out.under hb15)
       have HB15 := Lib.hid (HB14.out.trans (hb15.mono HB14.out.size))
       clear hb15 hS15 hv15 HS614 HS414 HB14 HY14
       go_wp2_with fail
       refine (eqB_any HS15.out HS415.out).mono ?_
       rintro e' w16 ⟨rfl, hb16⟩
       have HS616 := Lib.hid (HS615.out.under hb16)
       have HB16 := Lib.hid (HB15.out.trans (hb16.mono HB15.out.size))
       clear hb16 HS15 HS615 HS415 HB15
       go_wp2_with fail
       refine (heldB_any HS616.out).mono ?_
       rintro e' w17 ⟨rfl, hb17⟩
       rw [← HKc.out]
       have HB17 := Lib.hid (HB0.out.trans ((HB16.out.trans (hb17.mono HB16.out.size)).mono HB0.out.size))
       clear hb17 HS616 HB16
       go_wp2_with fail
       go_ret
       exact ⟨rfl, HB17.out⟩)

end Go.Proofs.Ytponbjclecdafaa
