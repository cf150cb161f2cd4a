/- The walk of the law laws.FnExactParseState. -/
import Derived.Test.YtefpdkfogfhniaaPs2Q
import Derived.Test.YtefpdkfogfhniaaMkTQ
import Derived.Test.YtefpdkfogfhniaaMk2Q
import Derived.Test.YtefpdkfogfhniaaToAQ
import Derived.Test.YtefpdkfogfhniaaSzAQ
import Derived.Test.YtefpdkfogfhniaaEqAQ
import Derived.Deep.RegionHeld3
import Derived.Deep.RegionWith
import Derived.Deep.Cut
import Derived.Deep.CutRange
namespace Go.Proofs.Ytefpdkfogfhniaa
open Go.RowKit

theorem stP_le {e : Sy} {s : ByteArray} (h : s.size ≤ 1048576) : (stP e s).locs.length ≤ 1048576 ∧ (stP e s).vals.length ≤ 1048576 := by
  have h1 := cut_sizes s
  unfold stP
  split
  · refine ⟨?_, ?_⟩
    · show (nums (cutA s)).length ≤ _; rw [nums_length]; omega
    · show (nums (cutB s)).length ≤ _; rw [nums_length]; omega
  · exact ⟨Nat.zero_le _, Nat.zero_le _⟩

set_option maxHeartbeats 4000000 in
set_option maxRecDepth 100000 in
theorem lawPs_any (e : Sy) (C : Nat → Value) (s : ByteArray) (w : World) (hL : Lay.sy.lies w w.heap.size e C) :
    Calls Try.prog 3 #[.agg #[C 0, C 1], .string s] w fun e' w' => e' = .returned (.bool true) ∧ Below w.heap.size w w' := by
  by_cases hs : 1048576 < s.size
  · have hsI : (1048576 : Int) < (s.size : Int) := by omega
    go_enter Try.func3, Try.ntmps3
    go_wp2_with fail
    go_ret
    exact ⟨rfl, (Below.refl _ _).alloc (Nat.le_refl _) _⟩
  have hs2 : s.size ≤ 1048576 := by omega
  have hsI : ¬ (1048576 : Int) < (s.size : Int) := by omega
  have HS := Lib.hid hs2
  clear hs hs2
  obtain ⟨W1, hW1⟩ : ∃ W1, W1 = w.alloc (.cells #[C 0, C 1] 25) := ⟨_, rfl⟩
  have hb0 : Below w.heap.size w W1 := by rw [hW1]; exact (Below.refl _ _).alloc (Nat.le_refl _) _
  have HL : Hid (Lay.sy.lies W1 W1.heap.size e C) := Lay.sy.later hL hb0 hb0.size
  have HW1 := Lib.hid hW1
  have HB0 := Lib.hid hb0
  have HR0 : Hid (Row W1 w.heap.size 25 #[C 0, C 1]) := by rw [hW1]; exact Row.new _ _ _
  have hlt1 : w.heap.size < W1.heap.size := HR0.out.lt
  clear hL hW1 hb0
  have hrc := room_cases 1048576 (Lay.sy.sz e)
  obtain ⟨r, hr⟩ : ∃ r, r = room 1048576 (Lay.sy.sz e) := ⟨_, rfl⟩
  rw [← hr] at hrc
  have HR := Lib.hid hr
  by_cases hneg : r < 0
  · clear hr
    go_enter Try.func3, Try.ntmps3
    go_wp2_with fail
    rw [← HW1.out]
    refine (szSy_any e C 1048576 _ HL.out (by omega) (by omega)).mono ?_
    rintro e' w1 ⟨rfl, hb1⟩
    rw [← HR.out]
    have HB1 := Lib.hid (HB0.out.trans (hb1.mono HB0.out.size))
    clear hb1
    go_wp2_with fail
    go_ret
    exact ⟨rfl, HB1.out⟩
  have hd : Lay.sy.sz e ≤ 1048576 := by
    rw [hr] at hneg
    unfold room at hneg
    by_cases h : (1048576 : Int) < (Lay.sy.sz e : Nat)
    · rw [if_pos h] at hneg; omega
    · omega
  have HD := Lib.hid hd
  obtain ⟨T, hT⟩ : ∃ T, T = stP e s := ⟨_, rfl⟩
  obtain ⟨v, hv⟩ : ∃ v, v = okP e s := ⟨_, rfl⟩
  have hT1 : T.locs.length ≤ 1048576 := by rw [hT]; exact (stP_le HS.out).1
  have hT2 : T.vals.length ≤ 1048576 := by rw [hT]; exact (stP_le HS.out).2
  have HT := Lib.hid hT
  have HV := Lib.hid hv
  clear hr hd hT hv
  go_enter Try.func3, Try.ntmps3
  go_wp2_with fail
  rw [← HW1.out]
  refine (szSy_any e C 1048576 _ HL.out (by omega) (by omega)).mono ?_
  rintro e' w1 ⟨rfl, hb1⟩
  rw [← HR.out]
  have HB1 : Hid (Below W1.heap.size W1 w1) := hb1
  obtain ⟨g0, g1⟩ := (HR0.out.under hb1 HR0.out.lt).two
  clear hb1
  go_wp2_with fail
  -- the first copy, and the model's answer
  refine (toSy_any e C _ (Lay.sy.later HL.out HB1.out HB1.out.size) HD.out).mono ?_
  rintro e' w2 ⟨pxa, pxl, pxc, pya, pyl, pyc, rfl, hs2, hb2⟩
  have HB2 : Hid (Below W1.heap.size W1 w2) := HB1.out.trans (hb2.mono HB1.out.size)
  have HO2 := Lib.hid (Lay.sy.sep_lies hs2)
  clear hb2 hs2 g0 g1 HB1
  go_wp2_with fail
  refine (specPs_any e (fun j => (#[.slice pxa pxl pxc, .slice pya pyl pyc] : Array Value).getD j undef) s _ HO2.out HD.out HS.out).mono ?_
  rintro e' w3 ⟨X0, Y0, rfl, hS0, hb3⟩
  rw [← HT.out] at hS0
  rw [← HV.out]
  obtain ⟨xa0, xc0, ya0, yc0, rfl, rfl⟩ := hS0.form
  have HB3 : Hid (Below W1.heap.size W1 w3) := HB2.out.trans (hb3.mono HB2.out.size)
  have h13 : W1.heap.size ≤ w3.heap.size := HB3.out.size
  obtain ⟨V3, hV3⟩ : ∃ V3, V3 = w3.alloc (.cells #[.slice xa0 T.locs.length xc0, .slice ya0 T.vals.length yc0] 28) := ⟨_, rfl⟩
  have hbv3 : Below w3.heap.size w3 V3 := by rw [hV3]; exact (Below.refl _ _).alloc (Nat.le_refl _) _
  have HRw : Hid (Row V3 w3.heap.size 28 #[.slice xa0 T.locs.length xc0, .slice ya0 T.vals.length yc0]) := by rw [hV3]; exact Row.new _ _ _
  have HS0 : Hid (StR V3 W1.heap.size w3.heap.size T (.slice xa0 T.locs.length xc0) (.slice ya0 T.vals.length yc0)) := (hS0.more HB2.out.size (Nat.le_refl _)).under hbv3 (Nat.le_refl _)
  have HBv : Hid (Below W1.heap.size W1 V3) := HB3.out.trans (hbv3.mono HB3.out.size)
  have HV3 := Lib.hid hV3
  have h33 : w3.heap.size < V3.heap.size := HRw.out.lt
  have hlw3 : w.heap.size < w3.heap.size := by omega
  obtain ⟨g0, g1⟩ := (HR0.out.under HB3.out HR0.out.lt).two
  clear hb3 HB2 HO2 hS0 HB3 hV3 hbv3
  go_wp2_with fail
  rw [← HV3.out]
  -- the second copy, and the program's answer
  refine (toSy_any e C _ (Lay.sy.later HL.out HBv.out HBv.out.size) HD.out).mono ?_
  rintro e' w4 ⟨xa, xl, xc, ya, yl, yc, rfl, hs4, hb4⟩
  have HB4 : Hid (Below W1.heap.size W1 w4) := HBv.out.trans (hb4.mono HBv.out.size)
  have h34 : V3.heap.size ≤ w4.heap.size := hb4.size
  obtain ⟨W5, hW5⟩ : ∃ W5, W5 = w4.alloc (.cells #[.slice xa xl xc, .slice ya yl yc] 33) := ⟨_, rfl⟩
  have HW5 := Lib.hid hW5
  have HR5 : Hid (Row W5 w4.heap.size 33 #[.slice xa xl xc, .slice ya yl yc]) := by rw [hW5]; exact Row.new _ _ _
  have hb5 : Below w4.heap.size w4 W5 := by rw [hW5]; exact (Below.refl _ _).alloc (Nat.le_refl _) _
  have HB5 : Hid (Below W1.heap.size W1 W5) := HB4.out.trans (hb5.mono HB4.out.size)
  have HX5 : Hid (Lay.sy.sep W5 V3.heap.size w4.heap.size e (fun j => (#[.slice xa xl xc, .slice ya yl yc] : Array Value).getD j undef)) := Lay.sy.sunder hs4 hb5 (Nat.le_refl _)
  have HS5 : Hid (StR W5 W1.heap.size w3.heap.size T (.slice xa0 T.locs.length xc0) (.slice ya0 T.vals.length yc0)) := (HS0.out.under hb4 (by omega)).under hb5 (by omega)
  have HRw5 := Lib.hid ((HRw.out.under hb4 HRw.out.lt).under hb5 (by omega))
  have h45 : w4.heap.size < W5.heap.size := HR5.out.lt
  clear hb4 hs4 g0 g1 hW5 hb5 HS0 HRw HBv
  go_wp2_with fail
  rw [← HW5.out]
  refine (implPs_any e (fun j => (#[.slice xa xl xc, .slice ya yl yc] : Array Value).getD j undef) s _ (Lay.sy.more (Lay.sy.sep_lies HX5.out) (by omega)) HD.out HS.out).mono ?_
  rintro e' w6 ⟨X1, Y1, rfl, hS1, hb6⟩
  rw [← HT.out] at hS1
  rw [← HV.out]
  obtain ⟨xa1, xc1, ya1, yc1, rfl, rfl⟩ := hS1.form
  obtain ⟨V6, hV6⟩ : ∃ V6, V6 = w6.alloc (.cells #[.slice xa1 T.locs.length xc1, .slice ya1 T.vals.length yc1] 28) := ⟨_, rfl⟩
  have hbv6 : Below w6.heap.size w6 V6 := by rw [hV6]; exact (Below.refl _ _).alloc (Nat.le_refl _) _
  have h56 : W5.heap.size ≤ w6.heap.size := hb6.size
  have HRg : Hid (Row V6 w6.heap.size 28 #[.slice xa1 T.locs.length xc1, .slice ya1 T.vals.length yc1]) := by rw [hV6]; exact Row.new _ _ _
  have HS1 : Hid (StR V6 W5.heap.size w6.heap.size T (.slice xa1 T.locs.length xc1) (.slice ya1 T.vals.length yc1)) := hS1.under hbv6 (Nat.le_refl _)
  have hrw6 := HRw5.out.under hb6 HRw5.out.lt
  have HRw6 := Lib.hid (hrw6.under hbv6 hrw6.lt)
  have HR6 := Lib.hid ((HR5.out.under hb6 HR5.out.lt).under hbv6 (by omega))
  have HX6 := Lib.hid (Lay.sy.sunder (Lay.sy.sunder HX5.out hb6 (by omega)) hbv6 (by omega))
  have HS06 := Lib.hid ((HS5.out.under hb6 (by omega)).under hbv6 (by omega))
  have HB6 : Hid (Below W1.heap.size W1 V6) := (HB5.out.trans (hb6.mono HB5.out.size)).trans (hbv6.mono (by omega))
  have h66 : w6.heap.size < V6.heap.size := HRg.out.lt
  have h36 : w3.heap.size < w6.heap.size := by omega
  have HV6 := Lib.hid hV6
  obtain ⟨r0, r1⟩ := hrw6.two
  clear hS1 hb6 HB5 HR5 HX5 HS5 HB4 hbv6 hrw6 hV6 HRw5
  go_wp2_with fail
  rw [← HV6.out]
  refine (eqSt_any T (fun j => (#[.slice xa1 T.locs.length xc1, .slice ya1 T.vals.length yc1] : Array Value).getD j undef) (fun j => (#[.slice xa0 T.locs.length xc0, .slice ya0 T.vals.length yc0] : Array Value).getD j undef) _ (HS1.out.lies (by omega)) (HS06.out.lies (by omega))).mono ?_
  rintro e' w7 ⟨rfl, hb7⟩
  have HS17 := Lib.hid (HS1.out.under hb7 (by omega))
  have HS07 := Lib.hid (HS06.out.under hb7 (by omega))
  have HR7 := Lib.hid (HR6.out.under hb7 HR6.out.lt)
  have HRg7 := Lib.hid (HRg.out.under hb7 HRg.out.lt)
  have HRw7 := Lib.hid (HRw6.out.under hb7 HRw6.out.lt)
  have HX7 := Lib.hid (Lay.sy.sunder HX6.out hb7 (by omega))
  have HB7 : Hid (Below W1.heap.size W1 w7) := HB6.out.trans (hb7.mono HB6.out.size)
  have h67 : V6.heap.size ≤ w7.heap.size := hb7.size
  clear hb7 HS1 HS06 HR6 HX6 HB6 HRg HRw6 r0 r1
  have hr1 := (HR0.out.under HB7.out HR0.out.lt).under (Below.refl _ _).drew (Nat.lt_of_lt_of_le HR0.out.lt HB7.out.size)
  have hr5 := HR7.out.under (Below.refl _ _).drew HR7.out.lt
  obtain ⟨g0, g1⟩ := (show Row w7 _ _ _ from hr1).two
  obtain ⟨f0, f1⟩ := (show Row w7 _ _ _ from hr5).two
  have l1 : w.heap.size < w7.heap.size := Nat.lt_of_lt_of_le HR0.out.lt HB7.out.size
  have l5 : w4.heap.size < w7.heap.size := by omega
  go_upto_region 12 with fail
  go_cut [52] from 48 to 51 (fun b wx => b = .bool false ∧ Hid (Below w7.heap.size w7 wx))
  case first =>
    have HL8 : Hid (Lay.sy.lies w7.drew w7.drew.heap.size e C) := Lay.sy.later HL.out HB7.out.drew HB7.out.size
    have HX8 : Hid (Lay.sy.lies w7.drew w7.drew.heap.size e (fun j => (#[.slice xa xl xc, .slice ya yl yc] : Array Value).getD j undef)) := Lay.sy.later (Lay.sy.sep_lies HX7.out) (Below.refl _ _).drew (by show _ ≤ w7.heap.size; omega)
    have HR8 := Lib.hid hr5
    go_region_with (first
      | (go_at_call 9
         refine (toSy_any e C _ HL8.out HD.out).mono ?_
         rintro e' w8 ⟨xa', xl', xc', ya', yl', yc', rfl, hs8, hb8⟩
         have hr8 := HR8.out.under hb8 HR8.out.lt
         obtain ⟨o0, o1⟩ := hr8.two
         have HX9 := Lib.hid (Lay.sy.later HX8.out hb8 hb8.size)
         have HY9 := Lib.hid (Lay.sy.sep_lies hs8)
         have HB9 : Hid (Below w7.heap.size w7 w8) := (Below.refl _ _).drew.trans hb8
         clear hb8 hs8 hr8)
      | (go_at_call 12
         refine (eqSy_any e _ _ _ HX9.out HY9.out).mono ?_
         rintro e' w9 ⟨rfl, hb9⟩
         have HB10 : Hid (Below w7.heap.size w7 w9) := HB9.out.trans (hb9.mono HB9.out.size)
         clear hb9))
    all_goals
      (go_wp2_with fail
       go_meet
       exact ⟨rfl, HB10⟩)
  case rest =>
    clear g0 g1 f0 f1 hr1 hr5
    obtain ⟨rfl, HBc⟩ := hcut
    have HSc1 := Lib.hid (HS17.out.under HBc.out (by omega))
    have HSc0 := Lib.hid (HS07.out.under HBc.out (by omega))
    have HRc := Lib.hid (HR7.out.under HBc.out HR7.out.lt)
    have HRgc := Lib.hid (HRg7.out.under HBc.out HRg7.out.lt)
    have HRwc := Lib.hid (HRw7.out.under HBc.out HRw7.out.lt)
    have HXc := Lib.hid (Lay.sy.sunder HX7.out HBc.out (by omega))
    have HBd : Hid (Below W1.heap.size W1 wc) := HB7.out.trans (HBc.out.mono HB7.out.size)
    have h7c : w7.heap.size ≤ wc.heap.size := HBc.out.size
    clear HBc HS17 HS07 HR7 HX7 HB7 HRg7 HRw7
    obtain ⟨f0, f1⟩ := HRc.out.two
    go_wp2_with fail
    refine (mkSy_any e xa xl xc ya yl yc _ _ _ HXc.out (by omega) HD.out).mono ?_
    rintro e' wd ⟨k, rfl, hk0, hkd⟩
    have HSd1 := Lib.hid (HSc1.out.kept hkd (by omega) (.inr (by omega)))
    have HSd0 := Lib.hid (HSc0.out.kept hkd (by omega) (.inl (by omega)))
    have hrgd := HRgc.out.kept hkd (.inr (by omega))
    have hrwd := HRwc.out.kept hkd (.inl (by omega))
    obtain ⟨q0, q1⟩ := hrgd.two
    obtain ⟨r0, r1⟩ := hrwd.two
    have HRgd := Lib.hid hrgd
    have HRwd := Lib.hid hrwd
    have HBe : Hid (Below W1.heap.size W1 wd) := HBd.out.trans (hkd.below (by omega) (by omega))
    have hcd : wc.heap.size ≤ wd.heap.size := hkd.size
    clear hkd HSc1 HSc0 HRc HXc HBd f0 f1 hrgd hrwd HRgc HRwc
    go_wp2_with fail
    refine (eqSt_any T (fun j => (#[.slice xa1 T.locs.length xc1, .slice ya1 T.vals.length yc1] : Array Value).getD j undef) (fun j => (#[.slice xa0 T.locs.length xc0, .slice ya0 T.vals.length yc0] : Array Value).getD j undef) _ (HSd1.out.lies (by omega)) (HSd0.out.lies (by omega))).mono ?_
    rintro e' we ⟨rfl, hbe⟩
    have HSe1 := Lib.hid (HSd1.out.under hbe (by omega))
    have HSe0 := Lib.hid (HSd0.out.under hbe (by omega))
    have hrge := HRgd.out.under hbe HRgd.out.lt
    have HRge := Lib.hid hrge
    have HRwe := Lib.hid (HRwd.out.under hbe HRwd.out.lt)
    have HBf : Hid (Below W1.heap.size W1 we) := HBe.out.trans (hbe.mono HBe.out.size)
    have hde : wd.heap.size ≤ we.heap.size := hbe.size
    clear q0 q1 r0 r1
    obtain ⟨q0, q1⟩ := hrge.two
    clear hbe HSd1 HSd0 HBe hrge HRgd HRwd
    go_wp2_with fail
    refine (mkSt_any T xa1 _ xc1 ya1 _ yc1 _ _ _ HSe1.out (by omega) hT1 hT2).mono ?_
    rintro e' wf ⟨rfl, hsf, hkf⟩
    have HSf1 := Lib.hid hsf
    have HSf0 := Lib.hid (HSe0.out.kept hkf (by omega) (.inl (by omega)))
    have hrgf := HRge.out.kept hkf (.inr (by omega))
    have HRgf := Lib.hid hrgf
    have HRwf := Lib.hid (HRwe.out.kept hkf (.inl (by omega)))
    have HBg : Hid (Below W1.heap.size W1 wf) := HBf.out.trans (hkf.below (by omega) (by omega))
    have hef : we.heap.size ≤ wf.heap.size := hkf.size
    clear q0 q1
    obtain ⟨q0, q1⟩ := hrgf.two
    clear hsf hkf HSe1 HSe0 HBf hrgf HRge HRwe
    go_wp2_with fail
    refine (heldSt_any T (fun j => (#[.slice xa1 T.locs.length xc1, .slice ya1 T.vals.length yc1] : Array Value).getD j undef) _ (HSf1.out.lies (by omega)) hT1 hT2).mono ?_
    rintro e' wg ⟨rfl, hbg⟩
    have HSg1 := Lib.hid (HSf1.out.under hbg (by omega))
    have HSg0 := Lib.hid (HSf0.out.under hbg (by omega))
    have HRgg := Lib.hid (HRgf.out.under hbg HRgf.out.lt)
    have HRwg := Lib.hid (HRwf.out.under hbg HRwf.out.lt)
    have HBh : Hid (Below W1.heap.size W1 wg) := HBg.out.trans (hbg.mono HBg.out.size)
    have hfg : wf.heap.size ≤ wg.heap.size := hbg.size
    clear hbg HSf1 HSf0 HBg q0 q1 HRgf HRwf
    obtain ⟨g0, g1⟩ := (HR0.out.under HBh.out HR0.out.lt).two
    go_wp2_with fail
    refine (toSy_any e C _ (Lay.sy.later HL.out HBh.out HBh.out.size) HD.out).mono ?_
    rintro e' wh ⟨za, zl, zc, ta, tl, tc, rfl, hsh, hbh⟩
    have HOh := Lib.hid (Lay.sy.sep_lies hsh)
    have HSh1 := Lib.hid (HSg1.out.under hbh (by omega))
    have HSh0 := Lib.hid (HSg0.out.under hbh (by omega))
    have HRgh := Lib.hid (HRgg.out.under hbh HRgg.out.lt)
    have HRwh := Lib.hid (HRwg.out.under hbh HRwg.out.lt)
    have HBi : Hid (Below W1.heap.size W1 wh) := HBh.out.trans (hbh.mono HBh.out.size)
    have hgh : wg.heap.size ≤ wh.heap.size := hbh.size
    clear hbh hsh HSg1 HSg0 HBh g0 g1 HRgg HRwg
    go_wp2_with fail
    refine (implPs_any e (fun j => (#[.slice za zl zc, .slice ta tl tc] : Array Value).getD j undef) s _ HOh.out HD.out HS.out).mono ?_
    rintro e' wi ⟨X2, Y2, rfl, hS2, hbi⟩
    rw [← HT.out] at hS2
    rw [← HV.out]
    obtain ⟨xa2, xc2, ya2, yc2, rfl, rfl⟩ := hS2.form
    obtain ⟨Vi, hVi⟩ : ∃ Vi, Vi = wi.alloc (.cells #[.slice xa2 T.locs.length xc2, .slice ya2 T.vals.length yc2] 28) := ⟨_, rfl⟩
    have hbvi : Below wi.heap.size wi Vi := by rw [hVi]; exact (Below.refl _ _).alloc (Nat.le_refl _) _
    have hhi : wh.heap.size ≤ wi.heap.size := hbi.size
    have hii := hbvi.size
    have HS2 := Lib.hid (hS2.under hbvi (Nat.le_refl _))
    have HSi1 := Lib.hid ((HSh1.out.under hbi (by omega)).under hbvi (by omega))
    have HSi0 := Lib.hid ((HSh0.out.under hbi (by omega)).under hbvi (by omega))
    have HRgi := Lib.hid ((HRgh.out.under hbi HRgh.out.lt).under hbvi (by omega))
    have hrwi := HRwh.out.under hbi HRwh.out.lt
    have HBj : Hid (Below W1.heap.size W1 Vi) := (HBi.out.trans (hbi.mono HBi.out.size)).trans (hbvi.mono (by omega))
    have HVi := Lib.hid hVi
    have h3i : w3.heap.size < wi.heap.size := by omega
    obtain ⟨r0, r1⟩ := hrwi.two
    clear hbi hS2 HSh1 HSh0 HBi HOh hVi hbvi hrwi HRgh HRwh
    go_wp2_with fail
    rw [← HVi.out]
    refine (eqSt_any T (fun j => (#[.slice xa2 T.locs.length xc2, .slice ya2 T.vals.length yc2] : Array Value).getD j undef) (fun j => (#[.slice xa0 T.locs.length xc0, .slice ya0 T.vals.length yc0] : Array Value).getD j undef) _ (HS2.out.lies (by omega)) (HSi0.out.lies (by omega))).mono ?_
    rintro e' wj ⟨rfl, hbj⟩
    have HSj1 := Lib.hid (HSi1.out.under hbj (by omega))
    have hrgj := HRgi.out.under hbj HRgi.out.lt
    have HBk : Hid (Below W1.heap.size W1 wj) := HBj.out.trans (hbj.mono HBj.out.size)
    have hij := hbj.size
    obtain ⟨q0, q1⟩ := hrgj.two
    clear hbj HSi1 HSi0 HBj r0 r1 hrgj HRgi
    go_wp2_with fail
    refine (heldSt_any T (fun j => (#[.slice xa1 T.locs.length xc1, .slice ya1 T.vals.length yc1] : Array Value).getD j undef) _ (HSj1.out.lies (by omega)) hT1 hT2).mono ?_
    rintro e' wk ⟨rfl, hbk⟩
    have HBl : Hid (Below w.heap.size w wk) := HB0.out.trans ((HBk.out.trans (hbk.mono HBk.out.size)).mono HB0.out.size)
    clear hbk HBk
    go_wp2_with fail
    go_ret
    exact ⟨rfl, HBl.out⟩

end Go.Proofs.Ytefpdkfogfhniaa
