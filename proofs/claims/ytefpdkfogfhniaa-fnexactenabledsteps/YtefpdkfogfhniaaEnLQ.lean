/- The walk of the law laws.FnExactEnabledSteps. -/
import Derived.Test.YtefpdkfogfhniaaMi4Q
import Derived.Test.YtefpdkfogfhniaaJ14
import Derived.Test.YtefpdkfogfhniaaSzAQ
import Derived.Test.YtefpdkfogfhniaaEqAQ
import Derived.Test.YtefpdkfogfhniaaToAQ
import Derived.Deep.RegionHeld3
import Derived.Deep.RegionWith
import Derived.Deep.Cut
import Derived.Deep.CutRange
namespace Go.Proofs.Ytefpdkfogfhniaa
open Go.RowKit

theorem stepsB_le (e : Sy) (f : St) : (stepsB e f).length ≤ 324 := by
  unfold stepsB
  split
  · rename_i h
    exact steps_le (stOk_sy h).1
  · exact Nat.zero_le _

set_option maxHeartbeats 4000000 in
set_option maxRecDepth 100000 in
theorem lawEn_any (e : Sy) (C : Nat → Value) (f : St) (D : Nat → Value) (w : World) (hL : Lay.sy.lies w w.heap.size e C) (hM : Lay.sta.lies w w.heap.size f D) :
    Calls Try.prog 4 #[.agg #[C 0, C 1], .agg #[D 0, D 1]] w fun e' w' => e' = .returned (.bool true) ∧ Below w.heap.size w w' := by
  obtain ⟨W1, hW1⟩ : ∃ W1, W1 = (w.alloc (.cells #[C 0, C 1] 25)).alloc (.cells #[D 0, D 1] 40) := ⟨_, rfl⟩
  have hrows := rows2 w 25 40 #[C 0, C 1] #[D 0, D 1]
  rw [← hW1] at hrows
  obtain ⟨hra, hrb, hb0⟩ := hrows
  have HL : Hid (Lay.sy.lies W1 W1.heap.size e C) := Lay.sy.later hL hb0 hb0.size
  have HM : Hid (Lay.sta.lies W1 W1.heap.size f D) := Lay.sta.later hM hb0 hb0.size
  have HW1 := Lib.hid hW1
  have HB0 := Lib.hid hb0
  have HRa := Lib.hid hra
  have HRb := Lib.hid hrb
  have hlt1 : w.heap.size + 1 < W1.heap.size := hrb.lt
  clear hL hM hW1 hb0 hra hrb
  have hr1c := room_cases 1048576 (Lay.sy.sz e)
  have hr1l : room 1048576 (Lay.sy.sz e) ≤ 1048576 := room_le (by omega)
  obtain ⟨r, hr⟩ : ∃ r, r = room 1048576 (Lay.sy.sz e) := ⟨_, rfl⟩
  rw [← hr] at hr1c hr1l
  have HR := Lib.hid hr
  by_cases hneg : r < 0
  · clear hr
    go_enter Try.func4, Try.ntmps4
    go_wp2_with fail
    rw [← HW1.out]
    refine (szSy_any e C 1048576 _ HL.out (by omega) (by omega)).mono ?_
    rintro e' w1 ⟨rfl, hb1⟩
    rw [← HR.out]
    have HB1 := Lib.hid (HB0.out.trans (hb1.mono HB0.out.size))
    clear hb1
    go_wp2_with fail
    go_ret
    exact ⟨rfl, HB1.out⟩
  have hd0 : Lay.sy.sz e ≤ 1048576 := by
    rw [hr] at hneg
    unfold room at hneg
    by_cases h : (1048576 : Int) < (Lay.sy.sz e : Nat)
    · rw [if_pos h] at hneg; omega
    · omega
  have HD0 := Lib.hid hd0
  have hr2c := room_cases r (Lay.sta.sz f)
  obtain ⟨s, hs⟩ : ∃ s, s = room r (Lay.sta.sz f) := ⟨_, rfl⟩
  rw [← hs] at hr2c
  have HS := Lib.hid hs
  have HD1 : Hid (0 ≤ s → Lay.sta.sz f ≤ 1048576) := fun h0 => by
    rw [hs] at h0
    unfold room at h0
    by_cases h : r < (Lay.sta.sz f : Nat)
    · rw [if_pos h] at h0; omega
    · omega
  clear hr hs hd0
  go_enter Try.func4, Try.ntmps4
  go_wp2_with fail
  rw [← HW1.out]
  refine (szSy_any e C 1048576 _ HL.out (by omega) (by omega)).mono ?_
  rintro e' w1 ⟨rfl, hb1⟩
  rw [← HR.out]
  have HB1 : Hid (Below W1.heap.size W1 w1) := hb1
  obtain ⟨f0, f1⟩ := (HRb.out.under hb1 HRb.out.lt).two
  clear hb1
  go_wp2_with fail
  refine (szSt_any f D r _ (Lay.sta.later HM.out HB1.out HB1.out.size) (by omega) (by omega)).mono ?_
  rintro e' w2 ⟨rfl, hb2⟩
  rw [← HS.out]
  have HB2 : Hid (Below W1.heap.size W1 w2) := HB1.out.trans (hb2.mono HB1.out.size)
  clear hb2 HB1 f0 f1
  by_cases hneg2 : s < 0
  · have HBz := Lib.hid (HB0.out.trans (HB2.out.mono HB0.out.size))
    go_wp2_with fail
    go_ret
    exact ⟨rfl, HBz.out⟩
  have HD1' := Lib.hid (HD1.out (by omega))
  clear HD1 hr1c hr2c hr1l
  obtain ⟨l, hl⟩ : ∃ l, l = stepsB e f := ⟨_, rfl⟩
  have hln : l.length ≤ 324 := by rw [hl]; exact stepsB_le e f
  have HLl := Lib.hid hl
  have HLm : Hid (l.length ≤ maxLen) := by show _ ≤ _; unfold maxLen; omega
  clear hl
  have hra2 := HRa.out.under HB2.out HRa.out.lt
  have hrb2 := HRb.out.under HB2.out HRb.out.lt
  obtain ⟨g0, g1⟩ := hra2.two
  obtain ⟨f0, f1⟩ := hrb2.two
  have HLd : Hid (Lay.sy.lies w2.drew w2.drew.heap.size e C) := Lay.sy.later HL.out HB2.out.drew HB2.out.size
  have HMd : Hid (Lay.sta.lies w2.drew w2.drew.heap.size f D) := Lay.sta.later HM.out HB2.out.drew HB2.out.size
  have HRbd := Lib.hid (hrb2.under (Below.refl _ _).drew hrb2.lt)
  have hz2 : W1.heap.size ≤ w2.heap.size := HB2.out.size
  clear hra2 hrb2
  go_upto_region 8 with fail
  go_cut [6] from 24 to 28 (fun v wx => Hid (StpI wx W1.heap.size wx.heap.size l v) ∧ Hid (Below W1.heap.size W1 wx))
  case first =>
    go_region_with (first
      | (go_at_call 9
         refine (toSy_any e C _ HLd.out HD0.out).mono ?_
         rintro e' w8 ⟨pxa, pxl, pxc, pya, pyl, pyc, rfl, hs8, hb8⟩
         obtain ⟨o0, o1⟩ := (HRbd.out.under hb8 HRbd.out.lt).two
         have HX9 := Lib.hid (Lay.sy.sep_lies hs8)
         have HM9 := Lib.hid (Lay.sta.later HMd.out hb8 hb8.size)
         have HB9 : Hid (Below W1.heap.size W1 w8) := HB2.out.trans (((Below.refl _ _).drew.trans hb8).mono hz2)
         clear hb8 hs8)
      | (go_at_call 18
         refine (toSt_any f D _ HM9.out HD1'.out).mono ?_
         rintro e' w9 ⟨qxa, qxl, qxc, qya, qyl, qyc, rfl, hs9, hb9⟩
         have HX10 := Lib.hid (Lay.sy.later HX9.out hb9 hb9.size)
         have HY10 := Lib.hid (Lay.sta.sep_lies hs9)
         have HB10 : Hid (Below W1.heap.size W1 w9) := HB9.out.trans (hb9.mono HB9.out.size)
         clear hb9 hs9)
      | (go_at_call 17
         refine (enabledS_any e _ f _ _ HX10.out HY10.out HD0.out HD1'.out).mono ?_
         rintro e' w10 ⟨gq, capq, rfl, ho10, hb10⟩
         have HB11 : Hid (Below W1.heap.size W1 w10) := HB10.out.trans (hb10.mono HB10.out.size)
         have HS11 : Hid (StpI w10 W1.heap.size w10.heap.size (stepsB e f) (.slice (some ⟨gq, 0, none⟩) (stepsB e f).length capq)) := owns_stpI (owns_mono ho10 HB10.out.size)
         clear hb10 ho10))
    all_goals
      (go_wp2_with fail
       go_meet
       exact ⟨by rw [HLl.out]; exact HS11, HB11⟩)
  case rest =>
  clear g0 g1 f0 f1 HLd HMd HRbd HB2
  obtain ⟨HS0, HBc⟩ := hcut
  obtain ⟨w3, hw3⟩ : ∃ w3, w3 = wc := ⟨_, rfl⟩
  subst hw3
  have h13 : W1.heap.size ≤ w3.heap.size := HBc.out.size
  obtain ⟨g0, g1⟩ := (HRa.out.under HBc.out HRa.out.lt).two
  go_wp2_with fail
  -- the second copies, and the program's answer
  refine (toSy_any e C _ (Lay.sy.later HL.out HBc.out HBc.out.size) HD0.out).mono ?_
  rintro e' w4 ⟨xa, xl, xc, ya, yl, yc, rfl, hs4, hb4⟩
  have HB4 : Hid (Below W1.heap.size W1 w4) := HBc.out.trans (hb4.mono HBc.out.size)
  have h34 : w3.heap.size ≤ w4.heap.size := hb4.size
  obtain ⟨W5, hW5⟩ : ∃ W5, W5 = w4.alloc (.cells #[.slice xa xl xc, .slice ya yl yc] 33) := ⟨_, rfl⟩
  have HW5 := Lib.hid hW5
  have HR5 : Hid (Row W5 w4.heap.size 33 #[.slice xa xl xc, .slice ya yl yc]) := by rw [hW5]; exact Row.new _ _ _
  have hb5 : Below w4.heap.size w4 W5 := by rw [hW5]; exact (Below.refl _ _).alloc (Nat.le_refl _) _
  have HB5 : Hid (Below W1.heap.size W1 W5) := HB4.out.trans (hb5.mono HB4.out.size)
  have HX5 : Hid (Lay.sy.sep W5 w3.heap.size w4.heap.size e (fun j => (#[.slice xa xl xc, .slice ya yl yc] : Array Value).getD j undef)) := Lay.sy.sunder hs4 hb5 (Nat.le_refl _)
  have HS05 := Lib.hid ((HS0.out.under hb4 (Nat.le_refl _)).under hb5 h34)
  have h45 : w4.heap.size < W5.heap.size := HR5.out.lt
  obtain ⟨f0, f1⟩ := (HRb.out.under HB4.out HRb.out.lt).two
  have hl4 : w.heap.size + 1 < w4.heap.size := by omega
  clear hb4 hs4 g0 g1 HBc hW5 hb5 HS0
  go_wp2_with fail
  rw [← HW5.out]
  refine (toSt_any f D _ (Lay.sta.later HM.out HB5.out HB5.out.size) HD1'.out).mono ?_
  rintro e' w5 ⟨txa, txl, txc, tya, tyl, tyc, rfl, hs6, hb6⟩
  have HB6 : Hid (Below W1.heap.size W1 w5) := HB5.out.trans (hb6.mono HB5.out.size)
  have h55 : W5.heap.size ≤ w5.heap.size := hb6.size
  have hr5 := HR5.out.under hb6 HR5.out.lt
  obtain ⟨W7, hW7⟩ : ∃ W7, W7 = w5.alloc (.cells #[.slice txa txl txc, .slice tya tyl tyc] 28) := ⟨_, rfl⟩
  have HW7 := Lib.hid hW7
  have HR7 : Hid (Row W7 w5.heap.size 28 #[.slice txa txl txc, .slice tya tyl tyc]) := by rw [hW7]; exact Row.new _ _ _
  have hb7 : Below w5.heap.size w5 W7 := by rw [hW7]; exact (Below.refl _ _).alloc (Nat.le_refl _) _
  have HB7 : Hid (Below W1.heap.size W1 W7) := HB6.out.trans (hb7.mono HB6.out.size)
  have HX7 := Lib.hid (Lay.sy.sunder (Lay.sy.sunder HX5.out hb6 (by omega)) hb7 (by omega))
  have HY7 : Hid (Lay.sta.sep W7 W5.heap.size w5.heap.size f (fun j => (#[.slice txa txl txc, .slice tya tyl tyc] : Array Value).getD j undef)) := Lay.sta.sunder hs6 hb7 (Nat.le_refl _)
  have HS07 := Lib.hid ((HS05.out.under hb6 (by omega)).under hb7 (by omega))
  obtain ⟨h0, h1⟩ := hr5.two
  have hl5 : w4.heap.size < w5.heap.size := hr5.lt
  have h57 : w5.heap.size < W7.heap.size := HR7.out.lt
  have HR57 := Lib.hid (hr5.under hb7 hr5.lt)
  clear hs6 hb6 hr5 hW7 hb7 HB5 HX5 f0 f1 HB4 HS05
  go_wp2_with fail
  rw [← HW7.out]
  refine (enabledI_any e (fun j => (#[.slice xa xl xc, .slice ya yl yc] : Array Value).getD j undef) f (fun j => (#[.slice txa txl txc, .slice tya tyl tyc] : Array Value).getD j undef) _ (Lay.sy.more (Lay.sy.sep_lies HX7.out) (by omega)) (Lay.sta.more (Lay.sta.sep_lies HY7.out) (by omega)) HD0.out HD1'.out).mono ?_
  rintro e' w8 ⟨v1, rfl, ho8, hb8⟩
  rw [← HLl.out] at ho8
  have h78 : W7.heap.size ≤ w8.heap.size := hb8.size
  have HS18 : Hid (StpI w8 W7.heap.size w8.heap.size l v1) := owns_stpI ho8
  have HS08 := Lib.hid (HS07.out.under hb8 (by omega))
  have HB8 : Hid (Below W1.heap.size W1 w8) := HB7.out.trans (hb8.mono HB7.out.size)
  have HX8 := Lib.hid (Lay.sy.sunder HX7.out hb8 (by omega))
  have HY8 := Lib.hid (Lay.sta.sunder HY7.out hb8 (by omega))
  have HR58 := Lib.hid (HR57.out.under hb8 HR57.out.lt)
  have HR78 := Lib.hid (HR7.out.under hb8 HR7.out.lt)
  clear hb8 ho8 h0 h1 HX7 HY7 HR57 HR7 HB7 HB6 HS07
  go_wp2_with fail
  refine (eqStps_any l v1 _ w8 HS18.out HS08.out (Nat.le_refl _) (by omega) HLm.out).mono ?_
  rintro e' w9 ⟨rfl, hb9⟩
  have h89 : w8.heap.size ≤ w9.heap.size := hb9.size
  have HS19 := Lib.hid (HS18.out.under hb9 (Nat.le_refl _))
  have HS09 := Lib.hid (HS08.out.under hb9 (by omega))
  have HB9 : Hid (Below W1.heap.size W1 w9) := HB8.out.trans (hb9.mono HB8.out.size)
  have HX9 := Lib.hid (Lay.sy.sunder HX8.out hb9 (by omega))
  have HY9 := Lib.hid (Lay.sta.sunder HY8.out hb9 (by omega))
  have HR59 := Lib.hid (HR58.out.under hb9 HR58.out.lt)
  have HR79 := Lib.hid (HR78.out.under hb9 HR78.out.lt)
  clear hb9 HS18 HS08 HB8 HX8 HY8 HR58 HR78
  have hr1 := HRa.out.under HB9.out HRa.out.lt
  obtain ⟨g0, g1⟩ := hr1.two
  obtain ⟨h0, h1⟩ := HR59.out.two
  have l5 : w4.heap.size < w9.heap.size := HR59.out.lt
  go_upto_region 14 with fail
  go_cut [44] from 40 to 43 (fun bb wx => bb = .bool false ∧ Hid (Below w9.heap.size w9 wx))
  case first =>
    have HL8 : Hid (Lay.sy.lies w9.drew w9.drew.heap.size e C) := Lay.sy.later HL.out HB9.out.drew HB9.out.size
    have HX8d : Hid (Lay.sy.lies w9.drew w9.drew.heap.size e (fun j => (#[.slice xa xl xc, .slice ya yl yc] : Array Value).getD j undef)) := Lay.sy.later (Lay.sy.sep_lies HX9.out) (Below.refl _ _).drew (by show _ ≤ w9.heap.size; omega)
    have HR8 := Lib.hid (HR59.out.under (Below.refl _ _).drew HR59.out.lt)
    go_region_with (first
      | (go_at_call 9
         refine (toSy_any e C _ HL8.out HD0.out).mono ?_
         rintro e' wp ⟨pxa, pxl, pxc, pya, pyl, pyc, rfl, hsp, hbp⟩
         obtain ⟨o0, o1⟩ := (HR8.out.under hbp HR8.out.lt).two
         have HXp := Lib.hid (Lay.sy.later HX8d.out hbp hbp.size)
         have HYp := Lib.hid (Lay.sy.sep_lies hsp)
         have HBp : Hid (Below w9.heap.size w9 wp) := (Below.refl _ _).drew.trans hbp
         clear hbp hsp)
      | (go_at_call 12
         refine (eqSy_any e _ _ _ HXp.out HYp.out).mono ?_
         rintro e' wq ⟨rfl, hbq⟩
         have HBq : Hid (Below w9.heap.size w9 wq) := HBp.out.trans (hbq.mono HBp.out.size)
         clear hbq))
    all_goals
      (go_wp2_with fail
       go_meet
       exact ⟨rfl, HBq⟩)
  case rest =>
  clear g0 g1 h0 h1 hr1
  obtain ⟨rfl, HBd⟩ := hcut
  obtain ⟨wa, hwa⟩ : ∃ wa, wa = wc := ⟨_, rfl⟩
  subst hwa
  have h9a : w9.heap.size ≤ wa.heap.size := HBd.out.size
  have HBa : Hid (Below W1.heap.size W1 wa) := HB9.out.trans (HBd.out.mono HB9.out.size)
  have HSa1 := Lib.hid (HS19.out.under HBd.out (by omega))
  have HSa0 := Lib.hid (HS09.out.under HBd.out (by omega))
  have HXa := Lib.hid (Lay.sy.sunder HX9.out HBd.out (by omega))
  have HYa := Lib.hid (Lay.sta.sunder HY9.out HBd.out (by omega))
  have HRa5 := Lib.hid (HR59.out.under HBd.out HR59.out.lt)
  have HRa7 := Lib.hid (HR79.out.under HBd.out HR79.out.lt)
  clear HBd HX9 HY9 HR59 HR79 HB9 HS19 HS09
  obtain ⟨f0, f1⟩ := (HRb.out.under HBa.out HRb.out.lt).two
  obtain ⟨h0, h1⟩ := HRa7.out.two
  go_upto_region 16 with fail
  go_cut [49] from 45 to 48 (fun bb wx => bb = .bool false ∧ Hid (Below wa.heap.size wa wx))
  case first =>
    have HLf : Hid (Lay.sta.lies wa.drew wa.drew.heap.size f D) := Lay.sta.later HM.out HBa.out.drew HBa.out.size
    have HXf : Hid (Lay.sta.lies wa.drew wa.drew.heap.size f (fun j => (#[.slice txa txl txc, .slice tya tyl tyc] : Array Value).getD j undef)) := Lay.sta.later (Lay.sta.sep_lies HYa.out) (Below.refl _ _).drew (by show _ ≤ wa.heap.size; omega)
    have HRf := Lib.hid (HRa7.out.under (Below.refl _ _).drew HRa7.out.lt)
    go_region_with (first
      | (go_at_call 18
         refine (toSt_any f D _ HLf.out HD1'.out).mono ?_
         rintro e' wp ⟨qxa, qxl, qxc, qya, qyl, qyc, rfl, hsp, hbp⟩
         obtain ⟨o0, o1⟩ := (HRf.out.under hbp HRf.out.lt).two
         have HXp := Lib.hid (Lay.sta.later HXf.out hbp hbp.size)
         have HYp := Lib.hid (Lay.sta.sep_lies hsp)
         have HBp : Hid (Below wa.heap.size wa wp) := (Below.refl _ _).drew.trans hbp
         clear hbp hsp)
      | (go_at_call 11
         refine (eqSt_any f _ _ _ HXp.out HYp.out).mono ?_
         rintro e' wq ⟨rfl, hbq⟩
         have HBq : Hid (Below wa.heap.size wa wq) := HBp.out.trans (hbq.mono HBp.out.size)
         clear hbq))
    all_goals
      (go_wp2_with fail
       go_meet
       exact ⟨rfl, HBq⟩)
  case rest =>
  clear f0 f1 h0 h1
  obtain ⟨rfl, HBd⟩ := hcut
  obtain ⟨wb, hwb⟩ : ∃ wb, wb = wc := ⟨_, rfl⟩
  subst hwb
  have hab : wa.heap.size ≤ wb.heap.size := HBd.out.size
  have HBb : Hid (Below W1.heap.size W1 wb) := HBa.out.trans (HBd.out.mono HBa.out.size)
  have HSb1 := Lib.hid (HSa1.out.under HBd.out (by omega))
  have HSb0 := Lib.hid (HSa0.out.under HBd.out (by omega))
  have HXb := Lib.hid (Lay.sy.sunder HXa.out HBd.out (by omega))
  have HYb := Lib.hid (Lay.sta.sunder HYa.out HBd.out (by omega))
  have HRb5 := Lib.hid (HRa5.out.under HBd.out HRa5.out.lt)
  have HRb7 := Lib.hid (HRa7.out.under HBd.out HRa7.out.lt)
  clear HBd HXa HYa HRa5 HRa7 HBa HSa1 HSa0
  obtain ⟨h0, h1⟩ := HRb5.out.two
  go_wp2_with fail
  refine (mkSyB_any e xa xl xc ya yl yc _ _ _ HXb.out (by omega) HD0.out).mono ?_
  rintro e' wd ⟨k, rfl, ⟨hk0, hk1⟩, hkd⟩
  have hbd : wb.heap.size ≤ wd.heap.size := hkd.size
  have HSd1 := Lib.hid (HSb1.out.kept hkd (by omega) (.inr (by omega)))
  have HSd0 := Lib.hid (HSb0.out.kept hkd (by omega) (.inl (by omega)))
  have HYd : Hid (Lay.sta.sep wd W5.heap.size w5.heap.size f (fun j => (#[.slice txa txl txc, .slice tya tyl tyc] : Array Value).getD j undef)) := Lay.sta.sep_keep (fun q b1 b2 => hkd.other q (by omega) (.inr (by omega))) HYb.out
  have HBd : Hid (Below W1.heap.size W1 wd) := HBb.out.trans (hkd.below (by omega) (by omega))
  obtain ⟨f0, f1⟩ := (HRb7.out.kept hkd (.inr (by omega))).two
  clear hkd HSb1 HSb0 HXb HYb HRb5 HRb7 HBb h0 h1
  go_wp2_with fail
  refine (mkStB_any f txa txl txc tya tyl tyc _ _ k _ HYd.out (by omega) HD1'.out hk0 hk1).mono ?_
  rintro e' we ⟨k2, rfl, hk2, hke⟩
  have hde : wd.heap.size ≤ we.heap.size := hke.size
  have HSe1 := Lib.hid (HSd1.out.kept hke (by omega) (.inr (by omega)))
  have HSe0 := Lib.hid (HSd0.out.kept hke (by omega) (.inl (by omega)))
  have HBe : Hid (Below W1.heap.size W1 we) := HBd.out.trans (hke.below (by omega) (by omega))
  clear hke HSd1 HSd0 HYd HBd f0 f1 hk1 hk0
  go_wp2_with fail
  refine (eqStps_any l v1 _ we HSe1.out HSe0.out (by omega) (by omega) HLm.out).mono ?_
  rintro e' wf ⟨rfl, hbf⟩
  have hef : we.heap.size ≤ wf.heap.size := hbf.size
  have HSf1 := Lib.hid (HSe1.out.under hbf (by omega))
  have HSf0 := Lib.hid (HSe0.out.under hbf (by omega))
  have HBf : Hid (Below W1.heap.size W1 wf) := HBe.out.trans (hbf.mono HBe.out.size)
  clear hbf HSe1 HSe0 HBe
  go_wp2_with fail
  refine (mkStps_any l v1 1 _ _ wf HSf1.out (by omega) (by omega) (by omega)).mono ?_
  rintro e' wg ⟨rfl, hsg, hkg⟩
  have hfg : wf.heap.size ≤ wg.heap.size := hkg.size
  have HSg1 := Lib.hid hsg
  have HSg0 := Lib.hid (HSf0.out.kept hkg (by omega) (.inl (by omega)))
  have HBg : Hid (Below W1.heap.size W1 wg) := HBf.out.trans (hkg.below (by omega) (by omega))
  clear hsg hkg HSf1 HSf0 HBf
  go_wp2_with fail
  refine (heldStps_any l.length v1 1 _ _ wg HSg1.out (by omega) (by omega) (by omega)).mono ?_
  rintro e' wh ⟨rfl, rfl⟩
  obtain ⟨g0, g1⟩ := (HRa.out.under HBg.out HRa.out.lt).two
  obtain ⟨f0, f1⟩ := (HRb.out.under HBg.out HRb.out.lt).two
  have l1 : w.heap.size + 1 < wg.heap.size := by omega
  go_upto_region 31 with fail
  go_cut [13] from 75 to 79 (fun v wx => Hid (StpI wx wg.heap.size wx.heap.size l v) ∧ Hid (Below wg.heap.size wg wx))
  case first =>
    have HLd : Hid (Lay.sy.lies wg.drew wg.drew.heap.size e C) := Lay.sy.later HL.out HBg.out.drew HBg.out.size
    have HMd : Hid (Lay.sta.lies wg.drew wg.drew.heap.size f D) := Lay.sta.later HM.out HBg.out.drew HBg.out.size
    have HRbd : Hid (Row wg.drew (w.heap.size + 1) 40 #[D 0, D 1]) := (HRb.out.under HBg.out HRb.out.lt).under (Below.refl _ _).drew (by show _ < wg.heap.size; omega)
    go_region_with (first
      | (go_at_call 9
         refine (toSy_any e C _ HLd.out HD0.out).mono ?_
         rintro e' wp ⟨pxa, pxl, pxc, pya, pyl, pyc, rfl, hsp, hbp⟩
         obtain ⟨o0, o1⟩ := (HRbd.out.under hbp HRbd.out.lt).two
         have HXp := Lib.hid (Lay.sy.sep_lies hsp)
         have HMp := Lib.hid (Lay.sta.later HMd.out hbp hbp.size)
         have HBp : Hid (Below wg.heap.size wg wp) := (Below.refl _ _).drew.trans hbp
         clear hbp hsp)
      | (go_at_call 18
         refine (toSt_any f D _ HMp.out HD1'.out).mono ?_
         rintro e' wq ⟨qxa, qxl, qxc, qya, qyl, qyc, rfl, hsq, hbq⟩
         have HXq := Lib.hid (Lay.sy.later HXp.out hbq hbq.size)
         have HYq := Lib.hid (Lay.sta.sep_lies hsq)
         have HBq : Hid (Below wg.heap.size wg wq) := HBp.out.trans (hbq.mono HBp.out.size)
         clear hbq hsq)
      | (go_at_call 19
         refine (enabledI_any e _ f _ _ HXq.out HYq.out HD0.out HD1'.out).mono ?_
         rintro e' wr ⟨v2, rfl, hor, hbr⟩
         have HBr : Hid (Below wg.heap.size wg wr) := HBq.out.trans (hbr.mono HBq.out.size)
         have HSr : Hid (StpI wr wg.heap.size wr.heap.size (stepsB e f) v2) := owns_stpI (owns_mono hor HBq.out.size)
         clear hbr hor))
    all_goals
      (go_wp2_with fail
       go_meet
       exact ⟨by rw [HLl.out]; exact HSr, HBr⟩)
  case rest =>
  clear g0 g1 f0 f1
  obtain ⟨HS2, HBd⟩ := hcut
  have hgc : wg.heap.size ≤ wc.heap.size := HBd.out.size
  have HSc1 := Lib.hid (HSg1.out.under HBd.out (by omega))
  have HSc0 := Lib.hid (HSg0.out.under HBd.out (by omega))
  have HBc : Hid (Below W1.heap.size W1 wc) := HBg.out.trans (HBd.out.mono HBg.out.size)
  clear HBd HSg1 HSg0 HBg
  go_wp2_with fail
  refine (eqStps_any l _ _ wc HS2.out HSc0.out (Nat.le_refl _) (by omega) HLm.out).mono ?_
  rintro e' wi ⟨rfl, hbi⟩
  have HSi1 := Lib.hid (HSc1.out.under hbi (by omega))
  have HBi : Hid (Below w.heap.size w wi) := HB0.out.trans ((HBc.out.trans (hbi.mono HBc.out.size)).mono HB0.out.size)
  clear hbi HSc1 HSc0 HBc HS2
  go_wp2_with fail
  refine (heldStps_any l.length v1 1 _ _ wi HSi1.out (by omega) (by omega) (by omega)).mono ?_
  rintro e' wj ⟨rfl, rfl⟩
  go_wp2_with fail
  go_ret
  exact ⟨rfl, HBi.out⟩

end Go.Proofs.Ytefpdkfogfhniaa
