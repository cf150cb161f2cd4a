/- The walk of the law laws.FnExactFormatSystem. -/
import Derived.Test.YtcipnecdeipeaaaDoorFy3Q
import Derived.Test.YtcipnecdeipeaaaDoorFy4Q
import Derived.Test.YtcipnecdeipeaaaDoorSzAQ
import Derived.Test.YtcipnecdeipeaaaDoorEqAQ
import Derived.Test.YtcipnecdeipeaaaDoorToAQ
import Derived.Deep.RegionHeld3
import Derived.Deep.RegionWith
namespace Go.Proofs.YtcipnecdeipeaaaDoor
open Go.RowKit

set_option maxHeartbeats 1000000 in
set_option maxRecDepth 100000 in
theorem lawFy_any (e : Sy) (C : Nat → Value) (w : World) (hL : Lay.sy.lies w w.heap.size e C) :
    Calls Tryd.prog 3 #[.agg #[C 0, C 1]] w fun e' w' => e' = .returned (.bool true) ∧ Below w.heap.size w w' := by
  obtain ⟨W1, hW1⟩ : ∃ W1, W1 = w.alloc (.cells #[C 0, C 1] 25) := ⟨_, rfl⟩
  have hb0 : Below w.heap.size w W1 := by rw [hW1]; exact (Below.refl _ _).alloc (Nat.le_refl _) _
  have HL : Hid (Lay.sy.lies W1 W1.heap.size e C) := Lay.sy.later hL hb0 hb0.size
  have HW1 := Lib.hid hW1
  have HB0 := Lib.hid hb0
  have HR0 : Hid (Row W1 w.heap.size 25 #[C 0, C 1]) := by rw [hW1]; exact Row.new _ _ _
  clear hL hW1 hb0
  obtain ⟨r, hr⟩ : ∃ r, r = room 1048576 (Lay.sy.sz e) := ⟨_, rfl⟩
  have HR := Lib.hid hr
  by_cases hbig : 1048576 < Lay.sy.sz e
  · have hneg : r < 0 := by rw [hr]; unfold room; rw [if_pos (by omega)]; omega
    clear hr hbig
    go_enter Tryd.func3, Tryd.ntmps3
    go_wp2_with fail
    rw [← HW1.out]
    refine (szSy_any e C 1048576 _ HL.out (by omega) (by omega)).mono ?_
    rintro e' w1 ⟨rfl, hb1⟩
    rw [← HR.out]
    have HB1 := Lib.hid (HB0.out.trans (hb1.mono HB0.out.size))
    clear hb1
    go_wp2_with fail
    go_ret
    exact ⟨rfl, HB1.out⟩
  · have hpos : 0 ≤ r := by rw [hr]; unfold room; rw [if_neg (by omega)]; omega
    clear hr
    have hd : Lay.sy.sz e ≤ 1048576 := by omega
    have HD := Lib.hid hd
    obtain ⟨vb, hvb⟩ : ∃ vb, vb = fmtSy e := ⟨_, rfl⟩
    have HV := Lib.hid hvb
    clear hvb hbig hd
    go_enter Tryd.func3, Tryd.ntmps3
    go_wp2_with fail
    rw [← HW1.out]
    refine (szSy_any e C 1048576 _ HL.out (by omega) (by omega)).mono ?_
    rintro e' w1 ⟨rfl, hb1⟩
    rw [← HR.out]
    have HB1 : Hid (Below W1.heap.size W1 w1) := hb1
    obtain ⟨g0, g1⟩ := (HR0.out.under hb1 HR0.out.lt).two
    clear hb1
    go_wp2_with fail
    -- the first copy, and the model's answer
    refine (toSy_any e C _ (Lay.sy.later HL.out HB1.out HB1.out.size) HD.out).mono ?_
    rintro e' w2 ⟨xa, xl, xc, ya, yl, yc, rfl, hs2, hb2⟩
    have HB2 : Hid (Below W1.heap.size W1 w2) := HB1.out.trans (hb2.mono HB1.out.size)
    have HO2 := Lib.hid (Lay.sy.sep_lies hs2)
    clear hb2 hs2 g0 g1 HB1
    go_wp2_with fail
    refine (specFy_any e (fun j => (#[.slice xa xl xc, .slice ya yl yc] : Array Value).getD j undef) _ HO2.out HD.out).mono ?_
    rintro e' w3 ⟨rfl, hb3⟩
    rw [← HV.out]
    have HB3 : Hid (Below W1.heap.size W1 w3) := HB2.out.trans (hb3.mono HB2.out.size)
    clear hb3 HB2 HO2
    obtain ⟨g0, g1⟩ := (HR0.out.under HB3.out HR0.out.lt).two
    go_wp2_with fail
    -- the second copy, and the program's answer
    refine (toSy_any e C _ (Lay.sy.later HL.out HB3.out HB3.out.size) HD.out).mono ?_
    rintro e' w4 ⟨xa, xl, xc, ya, yl, yc, rfl, hs4, hb4⟩
    have HB4 : Hid (Below W1.heap.size W1 w4) := HB3.out.trans (hb4.mono HB3.out.size)
    obtain ⟨W5, hW5⟩ : ∃ W5, W5 = w4.alloc (.cells #[.slice xa xl xc, .slice ya yl yc] 30) := ⟨_, rfl⟩
    have HW5 := Lib.hid hW5
    have HR5 : Hid (Row W5 w4.heap.size 30 #[.slice xa xl xc, .slice ya yl yc]) := by rw [hW5]; exact Row.new _ _ _
    have hb5 : Below w4.heap.size w4 W5 := by rw [hW5]; exact (Below.refl _ _).alloc (Nat.le_refl _) _
    have HB5 : Hid (Below W1.heap.size W1 W5) := HB4.out.trans (hb5.mono HB4.out.size)
    have HL5 : Hid (Lay.sy.lies W5 W5.heap.size e (fun j => (#[.slice xa xl xc, .slice ya yl yc] : Array Value).getD j undef)) := Lay.sy.later (Lay.sy.sep_lies hs4) hb5 hb5.size
    clear hb4 hs4 g0 g1 HB3 hW5 hb5
    go_wp2_with fail
    rw [← HW5.out]
    refine (implFy_any e (fun j => (#[.slice xa xl xc, .slice ya yl yc] : Array Value).getD j undef) _ HL5.out HD.out).mono ?_
    rintro e' w6 ⟨rfl, hb6⟩
    rw [← HV.out]
    have HB6 : Hid (Below W5.heap.size W5 w6.drew) := hb6.drew
    clear hb6
    have hr5 := HR5.out.under HB6.out HR5.out.lt
    have hr1 := (HR0.out.under HB5.out HR0.out.lt).under HB6.out (Nat.lt_of_lt_of_le HR0.out.lt HB5.out.size)
    obtain ⟨g0, g1⟩ := (show Row w6 _ _ _ from hr1).two
    obtain ⟨f0, f1⟩ := (show Row w6 _ _ _ from hr5).two
    have HR5' := Lib.hid hr5
    have HL6 : Hid (Lay.sy.lies w6.drew w6.drew.heap.size e C) := Lay.sy.later HL.out (HB5.out.trans (HB6.out.mono HB5.out.size)) (Nat.le_trans HB5.out.size HB6.out.size)
    have HX6 : Hid (Lay.sy.lies w6.drew w6.drew.heap.size e (fun j => (#[.slice xa xl xc, .slice ya yl yc] : Array Value).getD j undef)) := Lay.sy.later HL5.out HB6.out HB6.out.size
    have HW6 : Hid (Below w.heap.size w w6.drew) := HB0.out.trans ((HB5.out.trans (HB6.out.mono HB5.out.size)).mono HB0.out.size)
    clear hr1 hr5 HB6 HB5 HL5 HR5 HB4
    go_wp2_with fail
    go_region_with (first
      | (go_at_call 6
         refine (toSy_any e C _ HL6.out HD.out).mono ?_
         rintro e' w7 ⟨xa', xl', xc', ya', yl', yc', rfl, hs7, hb7⟩
         have hr7 := HR5'.out.under hb7 HR5'.out.lt
         obtain ⟨o0, o1⟩ := hr7.two
         have HX7 := Lib.hid (Lay.sy.later HX6.out hb7 hb7.size)
         have HY7 := Lib.hid (Lay.sy.sep_lies hs7)
         have HW7 : Hid (Below w.heap.size w w7) := HW6.out.trans (hb7.mono HW6.out.size)
         clear hb7 hs7 hr7)
      | (go_at_call 8
         refine (eqSy_any e _ _ _ HX7.out HY7.out).mono ?_
         rintro e' w8 ⟨rfl, hb8⟩
         have HW8 : Hid (Below w.heap.size w w8) := HW7.out.trans (hb8.mono HW7.out.size)
         clear hb8))
    all_goals
      (go_wp2_with fail
       go_ret
       exact ⟨rfl, HW8.out⟩)

end Go.Proofs.YtcipnecdeipeaaaDoor
