/- The walk of the law laws.FnExactEvalExpr. -/
import Derived.Test.YtponbjclecdafaaE7
import Derived.Test.YtponbjclecdafaaE1s
import Derived.Test.YtponbjclecdafaaW3
import Derived.Test.YtponbjclecdafaaW6
import Derived.Test.YtponbjclecdafaaW7
import Derived.Test.YtponbjclecdafaaV1i
namespace Go.Proofs.Ytponbjclecdafaa
open Go.RowKit

set_option maxHeartbeats 1000000 in
set_option maxRecDepth 100000 in
theorem lawEval_any (e : Ex) (zs : List Int) (c0 c1 c2 : Value) (A : Option Addr) (b off cap : Nat) (w : World) (hL : Lies w w.heap.size e c0 c1 c2) (hl : zs.length ≤ maxLen) (hI : Ints w w.heap.size A b off zs) :
    Calls Try.prog 5 #[.agg #[c0, c1, c2], .slice A zs.length cap] w fun e' w' => e' = .returned (.bool true) ∧ Below w.heap.size w w' := by
  obtain ⟨n0, n1, a2, l2, cp2, rfl, rfl, rfl⟩ := hL.form
  obtain ⟨W1, hW1⟩ : ∃ W1, W1 = w.alloc (.cells #[.int .i64 n0, .int .i64 n1, .slice a2 l2 cp2] 59) := ⟨_, rfl⟩
  have HB0 : Hid (Below w.heap.size w W1) := by rw [hW1]; exact (Below.refl _ _).alloc (Nat.le_refl _) _
  have HL := Lib.hid (below_more hL HB0.out HB0.out.size)
  have HI := Lib.hid (hI.under HB0.out HB0.out.size)
  have HR0 : Hid (Row W1 w.heap.size 59 #[.int .i64 n0, .int .i64 n1, .slice a2 l2 cp2]) := by rw [hW1]; exact Row.new _ _ _
  have HLn := Lib.hid hl
  have HW1 := Lib.hid hW1
  unfold maxLen at hl
  clear hL hW1 hI
  by_cases hbl : 1048576 < zs.length
  · go_enter Try.func5, Try.ntmps5
    go_wp2_with fail
    go_ret
    exact ⟨rfl, (Below.refl _ _).alloc (Nat.le_refl _) _⟩
  obtain ⟨r, hr⟩ : ∃ r, r = room 1048576 (desc e) := ⟨_, rfl⟩
  have HR := Lib.hid hr
  by_cases hbig : 1048576 < desc e
  · have hneg : r < 0 := by rw [hr]; unfold room; rw [if_pos (by omega)]; omega
    clear hr
    go_enter Try.func5, Try.ntmps5
    go_wp2_with fail
    rw [← HW1.out]
    refine (sz_any e 1048576 _ _ _ _ HL.out (by omega) (by omega)).mono ?_
    rintro e' w1 ⟨rfl, hb1⟩
    rw [← HR.out]
    have HB1 := Lib.hid (HB0.out.trans (hb1.mono HB0.out.size))
    clear hb1
    go_wp2_with fail
    go_ret
    exact ⟨rfl, HB1.out⟩
  have hpos : 0 ≤ r := by rw [hr]; unfold room; rw [if_neg (by omega)]; omega
  clear hr
  have hd : desc e ≤ 1048576 := by omega
  obtain ⟨vo, hvo⟩ : ∃ vo, vo = evalOut e zs := ⟨_, rfl⟩
  obtain ⟨vk, hvk⟩ : ∃ vk, vk = evalOk e zs := ⟨_, rfl⟩
  have HVO := Lib.hid hvo
  have HVK := Lib.hid hvk
  clear hvo hvk hbig
  go_enter Try.func5, Try.ntmps5
  go_wp2_with fail
  rw [← HW1.out]
  refine (sz_any e 1048576 _ _ _ _ HL.out (by omega) (by omega)).mono ?_
  rintro e' w1 ⟨rfl, hb1⟩
  rw [← HR.out]
  have HB1 : Hid (Below W1.heap.size W1 w1) := hb1
  clear hb1
  have hr1 := HR0.out.under HB1.out HR0.out.lt
  have g0 : w1.cell? ⟨w.heap.size, 0, none⟩ = some (.int .i64 n0) := hr1.cell 0
  have g1 : w1.cell? ⟨w.heap.size, 1, none⟩ = some (.int .i64 n1) := hr1.cell 1
  have g2 : w1.cell? ⟨w.heap.size, 2, none⟩ = some (.slice a2 l2 cp2) := hr1.cell 2
  clear hr1
  go_wp2_with fail
  -- copies for the model, and its answer
  refine (to_any e _ _ _ _ (below_more HL.out HB1.out HB1.out.size) hd).mono ?_
  rintro e' w2 ⟨d0, d1, d2, rfl, ho2, hb2⟩
  have HB2 : Hid (Below W1.heap.size W1 w2) := HB1.out.trans (hb2.mono HB1.out.size)
  have HO2 := Lib.hid ho2.lies
  clear hb2 ho2 g0 g1 g2 HB1
  go_wp2_with fail
  refine (toInts_any zs A cap b off _ (by omega) (HI.out.under HB2.out HB2.out.size)).mono ?_
  rintro e' w3 ⟨gi, rfl, hgi, hli, hb3⟩
  have HO3 := Lib.hid (below_more HO2.out hb3 hb3.size)
  have HI3 := Lib.hid hli.ints
  have HB3 : Hid (Below W1.heap.size W1 w3) := HB2.out.trans (hb3.mono HB2.out.size)
  clear hb3 hli hgi HB2 HO2
  go_wp2_with fail
  refine (specEval_any e zs _ _ _ _ gi 0 zs.length _ HO3.out hd HLn.out HI3.out).mono ?_
  rintro e' w4 ⟨rfl, hb4⟩
  rw [← HVO.out, ← HVK.out]
  have HB4 : Hid (Below W1.heap.size W1 w4) := HB3.out.trans (hb4.mono HB3.out.size)
  clear hb4 HB3 HO3 HI3
  have hr1 := HR0.out.under HB4.out HR0.out.lt
  have g0 : w4.cell? ⟨w.heap.size, 0, none⟩ = some (.int .i64 n0) := hr1.cell 0
  have g1 : w4.cell? ⟨w.heap.size, 1, none⟩ = some (.int .i64 n1) := hr1.cell 1
  have g2 : w4.cell? ⟨w.heap.size, 2, none⟩ = some (.slice a2 l2 cp2) := hr1.cell 2
  clear hr1
  go_wp2_with fail
  -- copies for the program
  refine (to_any e _ _ _ _ (below_more HL.out HB4.out HB4.out.size) hd).mono ?_
  rintro e' w5 ⟨m0, m1, m2, rfl, ho5, hb5⟩
  obtain ⟨k0, k1, a4, l4, cp4, rfl, rfl, rfl⟩ := ho5.form
  have HB5 : Hid (Below W1.heap.size W1 w5) := HB4.out.trans (hb5.mono HB4.out.size)
  have HO5 := Lib.hid ho5.lies
  clear hb5 ho5 g0 g1 g2 HB4
  obtain ⟨W6, hW6⟩ : ∃ W6, W6 = w5.alloc (.cells #[.int .i64 k0, .int .i64 k1, .slice a4 l4 cp4] 64) := ⟨_, rfl⟩
  have HW6 := Lib.hid hW6
  have HR6 : Hid (Row W6 w5.heap.size 64 #[.int .i64 k0, .int .i64 k1, .slice a4 l4 cp4]) := by rw [hW6]; exact Row.new _ _ _
  have hb6 : Below w5.heap.size w5 W6 := by rw [hW6]; exact (Below.refl _ _).alloc (Nat.le_refl _) _
  have HB6 : Hid (Below W1.heap.size W1 W6) := HB5.out.trans (hb6.mono HB5.out.size)
  have HO6 := Lib.hid (below_more HO5.out hb6 hb6.size)
  clear hW6 hb6 HO5 HB5
  go_wp2_with fail
  rw [← HW6.out]
  refine (toInts_any zs A cap b off _ (by omega) (HI.out.under HB6.out HB6.out.size)).mono ?_
  rintro e' w7 ⟨gj, rfl, hgj, hlj, hb7⟩
  have HO7 := Lib.hid (below_more HO6.out hb7 hb7.size)
  have HI7 := Lib.hid hlj.ints
  have hr6 := HR6.out.under hb7 HR6.out.lt
  have HB7 : Hid (Below W1.heap.size W1 w7) := HB6.out.trans (hb7.mono HB6.out.size)
  have f0 : w7.cell? ⟨w5.heap.size, 0, none⟩ = some (.int .i64 k0) := hr6.cell 0
  have f1 : w7.cell? ⟨w5.heap.size, 1, none⟩ = some (.int .i64 k1) := hr6.cell 1
  have f2 : w7.cell? ⟨w5.heap.size, 2, none⟩ = some (.slice a4 l4 cp4) := hr6.cell 2
  have HR7 := Lib.hid hr6
  clear hb7 hlj hgj HO6 hr6 HB6 HR6 HW6
  go_wp2_with fail
  refine (implEval_any e zs _ _ _ _ gj 0 zs.length _ HO7.out hd HLn.out HI7.out).mono ?_
  rintro e' w8 ⟨rfl, hb8⟩
  rw [← HVO.out, ← HVK.out]
  have hb8' : Below w7.heap.size w7 w8.drew := hb8.drew
  have HX8 : Hid (Lies w8.drew w8.drew.heap.size e (.int .i64 k0) (.int .i64 k1) (.slice a4 l4 cp4)) := below_more HO7.out hb8' hb8'.size
  have HI8 : Hid (Ints w8.drew w8.drew.heap.size (some ⟨gj, 0, none⟩) gj 0 zs) := HI7.out.under hb8' hb8'.size
  have HR8 : Hid (Row w8.drew w5.heap.size 64 #[.int .i64 k0, .int .i64 k1, .slice a4 l4 cp4]) := HR7.out.under hb8' HR7.out.lt
  have HB8 : Hid (Below W1.heap.size W1 w8.drew) := HB7.out.trans (hb8'.mono HB7.out.size)
  have HL8 : Hid (Lies w8.drew w8.drew.heap.size e (.int .i64 n0) (.int .i64 n1) (.slice a2 l2 cp2)) := below_more HL.out HB8.out HB8.out.size
  have HA8 : Hid (Ints w8.drew w8.drew.heap.size A b off zs) := HI.out.under HB8.out HB8.out.size
  have hr1 := HR0.out.under HB8.out HR0.out.lt
  have g0 : w8.cell? ⟨w.heap.size, 0, none⟩ = some (.int .i64 n0) := hr1.cell 0
  have g1 : w8.cell? ⟨w.heap.size, 1, none⟩ = some (.int .i64 n1) := hr1.cell 1
  have g2 : w8.cell? ⟨w.heap.size, 2, none⟩ = some (.slice a2 l2 cp2) := hr1.cell 2
  have f0' : w8.cell? ⟨w5.heap.size, 0, none⟩ = some (.int .i64 k0) := HR8.out.cell 0
  have f1' : w8.cell? ⟨w5.heap.size, 1, none⟩ = some (.int .i64 k1) := HR8.out.cell 1
  have f2' : w8.cell? ⟨w5.heap.size, 2, none⟩ = some (.slice a4 l4 cp4) := HR8.out.cell 2
  have HW8 : Hid (Below w.heap.size w w8.drew) := HB0.out.trans (HB8.out.mono HB0.out.size)
  clear hb8 hb8' hr1 f0 f1 f2 HO7 HI7 HB7 HR7 HB8
  go_wp2_with fail
  go_region_with (first
    | (go_at_call 34
       refine (to_any e _ _ _ _ HL8.out hd).mono ?_
       rintro e' w9 ⟨p0, p1, p2, rfl, ho9, hb9⟩
       have hr9 := HR8.out.under hb9 HR8.out.lt
       have f0' : w9.cell? ⟨w5.heap.size, 0, none⟩ = some (.int .i64 k0) := hr9.cell 0
       have f1' : w9.cell? ⟨w5.heap.size, 1, none⟩ = some (.int .i64 k1) := hr9.cell 1
       have f2' : w9.cell? ⟨w5.heap.size, 2, none⟩ = some (.slice a4 l4 cp4) := hr9.cell 2
       have HX9 := Lib.hid (below_more HX8.out hb9 hb9.size)
       have HY9 := Lib.hid ho9.lies
       have HI9 := Lib.hid (HI8.out.under hb9 hb9.size)
       have HA9 := Lib.hid (HA8.out.under hb9 hb9.size)
       have HW9 : Hid (Below w.heap.size w w9) := HW8.out.trans (hb9.mono HW8.out.size)
       clear hb9 ho9 hr9)
    | (go_at_call 37
       refine (eq_any e _ _ _ _ _ _ _ HX9.out HY9.out).mono ?_
       rintro e' w10 ⟨rfl, hb10⟩
       have HI10 := Lib.hid (HI9.out.under hb10 hb10.size)
       have HA10 := Lib.hid (HA9.out.under hb10 hb10.size)
       have HW10 : Hid (Below w.heap.size w w10) := HW9.out.trans (hb10.mono HW9.out.size)
       clear hb10))
  all_goals
    (go_wp2_with fail
     refine (toInts_any zs A cap b off _ (by omega) HA10.out).mono ?_
     rintro e' w11 ⟨gk, rfl, hgk, hlk, hb11⟩
     have HI11 := Lib.hid (HI10.out.under hb11 hb11.size)
     have HJ11 := Lib.hid hlk.ints
     have HW11 : Hid (Below w.heap.size w w11) := HW10.out.trans (hb11.mono HW10.out.size)
     clear hgk hlk hb11
     go_wp2_with fail
     refine (eqInts_any zs _ _ zs.length gj 0 zs.length gk 0 _ HLn.out HI11.out HJ11.out).mono ?_
     rintro e' w12 ⟨rfl, hb12⟩
     have HW12 : Hid (Below w.heap.size w w12) := HW11.out.trans (hb12.mono HW11.out.size)
     clear hb12
     go_wp2_with fail
     go_ret
     exact ⟨rfl, HW12.out⟩)

end Go.Proofs.Ytponbjclecdafaa
