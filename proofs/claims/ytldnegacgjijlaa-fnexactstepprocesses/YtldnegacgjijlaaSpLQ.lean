/- The walk of the law laws.FnExactStepProcesses. -/
import Derived.Test.YtldnegacgjijlaaSpVQ
import Derived.Test.YtldnegacgjijlaaMkTQ
import Derived.Test.YtldnegacgjijlaaToAQ
import Derived.Test.YtldnegacgjijlaaSzAQ
import Derived.Test.YtldnegacgjijlaaEqAQ
import Derived.Deep.RegionHeld3
import Derived.Deep.RegionWith
import Derived.Deep.Cut
import Derived.Deep.CutRange
namespace Go.Proofs.Ytldnegacgjijlaa
open Go.RowKit

theorem BN.form {n : Nat} {w : World} {lo hi : Nat} {S : Value} {m : Nat → Bool} (h : BN n w lo hi S m) : ∃ A cap, S = .slice A n cap := by
  obtain ⟨A, cap, g, t, h1, _⟩ := h
  exact ⟨A, cap, h1⟩
theorem sN_le {e : Sy} (h : Lay.sy.sz e ≤ 1048576) : sN e ≤ 1048576 := by
  rw [sy_sz] at h
  have := Lay.pr.szL_length e.ps
  unfold sN
  split <;> omega

set_option maxHeartbeats 4000000 in
set_option maxRecDepth 100000 in
theorem lawSp_any (e : Sy) (C : Nat → Value) (p ed pa pe : Int) (w : World) (hL : Lay.sy.lies w w.heap.size e C) :
    Calls Try.prog 4 #[.agg #[C 0, C 1], .agg #[.int .i64 p, .int .i64 ed, .int .i64 pa, .int .i64 pe]] w fun e' w' => e' = .returned (.bool true) ∧ Below w.heap.size w w' := by
  obtain ⟨W1, hW1⟩ : ∃ W1, W1 = (w.alloc (.cells #[C 0, C 1] 25)).alloc (.cells #[.int .i64 p, .int .i64 ed, .int .i64 pa, .int .i64 pe] 40) := ⟨_, rfl⟩
  have hrows := rows2 w 25 40 #[C 0, C 1] #[.int .i64 p, .int .i64 ed, .int .i64 pa, .int .i64 pe]
  rw [← hW1] at hrows
  obtain ⟨hra, hrb, hb0⟩ := hrows
  have HL : Hid (Lay.sy.lies W1 W1.heap.size e C) := Lay.sy.later hL hb0 hb0.size
  have HW1 := Lib.hid hW1
  have HB0 := Lib.hid hb0
  have HR0 := Lib.hid hra
  have HRs := Lib.hid hrb
  have hlt1 : w.heap.size + 1 < W1.heap.size := hrb.lt
  clear hL hW1 hb0 hra hrb
  have hrc := room_cases 1048576 (Lay.sy.sz e)
  obtain ⟨r, hr⟩ : ∃ r, r = room 1048576 (Lay.sy.sz e) := ⟨_, rfl⟩
  rw [← hr] at hrc
  have HR := Lib.hid hr
  by_cases hneg : r < 0
  · clear hr
    go_enter Try.func4, Try.ntmps4
    go_wp2_with fail
    rw [← HW1.out]
    refine (szSy_any e C 1048576 _ HL.out (by omega) (by omega)).mono ?_
    rintro e' w1 ⟨rfl, hb1⟩
    rw [← HR.out]
    have HB1 := Lib.hid (HB0.out.trans (hb1.mono HB0.out.size))
    clear hb1
    go_wp2_with fail
    go_ret
    exact ⟨rfl, HB1.out⟩
  have hd : Lay.sy.sz e ≤ 1048576 := by
    rw [hr] at hneg
    unfold room at hneg
    by_cases h : (1048576 : Int) < (Lay.sy.sz e : Nat)
    · rw [if_pos h] at hneg; omega
    · omega
  have HD := Lib.hid hd
  obtain ⟨N, hN⟩ : ∃ N, N = sN e := ⟨_, rfl⟩
  obtain ⟨M, hM⟩ : ∃ M, M = sM p pa := ⟨_, rfl⟩
  have hn4 : N ≤ 1048576 := by rw [hN]; exact sN_le hd
  have HN := Lib.hid hN
  have HM := Lib.hid hM
  clear hr hd hN hM
  go_enter Try.func4, Try.ntmps4
  go_wp2_with fail
  rw [← HW1.out]
  refine (szSy_any e C 1048576 _ HL.out (by omega) (by omega)).mono ?_
  rintro e' w1 ⟨rfl, hb1⟩
  rw [← HR.out]
  have HB1 : Hid (Below W1.heap.size W1 w1) := hb1
  have hra1 := HR0.out.under hb1 HR0.out.lt
  have hrs1 := HRs.out.under hb1 HRs.out.lt
  obtain ⟨g0, g1⟩ := hra1.two
  obtain ⟨s0, s1, s2, s3⟩ := hrs1.four
  have HLd : Hid (Lay.sy.lies w1.drew w1.drew.heap.size e C) := Lay.sy.later HL.out HB1.out.drew HB1.out.size
  have HRsd := Lib.hid (hrs1.under (Below.refl _ _).drew hrs1.lt)
  have hz1 : W1.heap.size ≤ w1.heap.size := hb1.size
  clear hb1 hra1 hrs1
  go_upto_region 5 with fail
  go_cut [6] from 18 to 22 (fun S wx => ∃ (A : Option Addr) (cap : Nat), S = .slice A N cap ∧ Hid (BN N wx W1.heap.size wx.heap.size (.slice A N cap) M) ∧ Hid (Below W1.heap.size W1 wx))
  case first =>
    go_region_with (first
      | (go_at_call 10
         with_reducible refine (toSy_any e C _ HLd.out HD.out).mono ?_
         rintro e' w8 ⟨pxa, pxl, pxc, pya, pyl, pyc, rfl, hs8, hb8⟩
         obtain ⟨o0, o1, o2, o3⟩ := (HRsd.out.under hb8 HRsd.out.lt).four
         have HX9 := Lib.hid (Lay.sy.sep_lies hs8)
         have HB9 : Hid (Below W1.heap.size W1 w8) := HB1.out.trans (((Below.refl _ _).drew.trans hb8).mono hz1)
         clear hb8 hs8)
      | (go_at_call 18
         with_reducible refine (toStep_any p ed pa pe _).mono ?_
         rintro e' w9 ⟨rfl, hb9⟩
         have HX10 := Lib.hid (Lay.sy.later HX9.out hb9 hb9.size)
         have HB10 : Hid (Below W1.heap.size W1 w9) := HB9.out.trans (hb9.mono HB9.out.size)
         clear hb9)
      | (go_at_call 17
         refine (specSp_any e _ p ed pa pe _ HX10.out HD.out).mono ?_
         rintro e' w10 ⟨S0, rfl, hS0, hb10⟩
         obtain ⟨A0, cp0, rfl⟩ := hS0.form
         rw [← HN.out, ← HM.out] at hS0
         rw [← HN.out]
         have HS11 : Hid (BN N w10 W1.heap.size w10.heap.size (.slice A0 N cp0) M) := hS0.more HB10.out.size (Nat.le_refl _)
         have HB11 : Hid (Below W1.heap.size W1 w10) := HB10.out.trans (hb10.mono HB10.out.size)
         clear hb10 hS0))
    all_goals
      (go_wp2_with fail
       go_meet
       exact ⟨_, _, rfl, HS11, HB11⟩)
  case rest =>
  clear g0 g1 s0 s1 s2 s3 HLd HRsd HB1
  obtain ⟨A0, cp0, rfl, HS0, HB3⟩ := hcut
  obtain ⟨w3, hw3⟩ : ∃ w3, w3 = wc := ⟨_, rfl⟩
  subst hw3
  have h13 : W1.heap.size ≤ w3.heap.size := HB3.out.size
  obtain ⟨g0, g1⟩ := (HR0.out.under HB3.out HR0.out.lt).two
  go_wp2_with fail
  -- the second copy, and the program's answer
  refine (toSy_any e C _ (Lay.sy.later HL.out HB3.out HB3.out.size) HD.out).mono ?_
  rintro e' w4 ⟨xa, xl, xc, ya, yl, yc, rfl, hs4, hb4⟩
  have HB4 : Hid (Below W1.heap.size W1 w4) := HB3.out.trans (hb4.mono HB3.out.size)
  have h34 : w3.heap.size ≤ w4.heap.size := hb4.size
  obtain ⟨W5, hW5⟩ : ∃ W5, W5 = w4.alloc (.cells #[.slice xa xl xc, .slice ya yl yc] 32) := ⟨_, rfl⟩
  have HW5 := Lib.hid hW5
  have HR5 : Hid (Row W5 w4.heap.size 32 #[.slice xa xl xc, .slice ya yl yc]) := by rw [hW5]; exact Row.new _ _ _
  have hb5 : Below w4.heap.size w4 W5 := by rw [hW5]; exact (Below.refl _ _).alloc (Nat.le_refl _) _
  have HB5 : Hid (Below W1.heap.size W1 W5) := HB4.out.trans (hb5.mono HB4.out.size)
  have HX5 : Hid (Lay.sy.sep W5 w3.heap.size w4.heap.size e (fun j => (#[.slice xa xl xc, .slice ya yl yc] : Array Value).getD j undef)) := Lay.sy.sunder hs4 hb5 (Nat.le_refl _)
  have HS5 : Hid (BN N W5 W1.heap.size w3.heap.size (.slice A0 N cp0) M) := (HS0.out.under hb4).under hb5
  have h45 : w4.heap.size < W5.heap.size := HR5.out.lt
  have hrs5 := HRs.out.under HB5.out HRs.out.lt
  obtain ⟨s0, s1, s2, s3⟩ := hrs5.four
  obtain ⟨f0, f1⟩ := HR5.out.two
  have HXd : Hid (Lay.sy.lies W5.drew W5.drew.heap.size e (fun j => (#[.slice xa xl xc, .slice ya yl yc] : Array Value).getD j undef)) := Lay.sy.later (Lay.sy.sep_lies HX5.out) (Below.refl _ _).drew (by show _ ≤ W5.heap.size; omega)
  have HRd := Lib.hid (HR5.out.under (Below.refl _ _).drew HR5.out.lt)
  clear hb4 hs4 g0 g1 HB3 hW5 hb5 HS0 hrs5
  go_upto_region 7 with fail
  rw [← HW5.out]
  go_cut [8] from 25 to 28 (fun S wx => ∃ (A : Option Addr) (cap : Nat), S = .slice A N cap ∧ Hid (BN N wx W5.heap.size wx.heap.size (.slice A N cap) M) ∧ Hid (Below W5.heap.size W5 wx))
  case first =>
    go_region_with (first
      | (go_at_call 18
         with_reducible refine (toStep_any p ed pa pe _).mono ?_
         rintro e' w9 ⟨rfl, hb9⟩
         obtain ⟨o0, o1⟩ := (HRd.out.under hb9 HRd.out.lt).two
         have HX10 := Lib.hid (Lay.sy.later HXd.out hb9 hb9.size)
         have HB10 : Hid (Below W5.heap.size W5 w9) := (Below.refl _ _).drew.trans hb9
         clear hb9)
      | (go_at_call 19
         refine (implSp_any e (fun j => (#[.slice xa xl xc, .slice ya yl yc] : Array Value).getD j undef) p ed pa pe _ HX10.out HD.out).mono ?_
         rintro e' w10 ⟨S0, rfl, hS0, hb10⟩
         obtain ⟨A1, cp1, rfl⟩ := hS0.form
         rw [← HN.out, ← HM.out] at hS0
         rw [← HN.out]
         have HS11 : Hid (BN N w10 W5.heap.size w10.heap.size (.slice A1 N cp1) M) := hS0.more HB10.out.size (Nat.le_refl _)
         have HB11 : Hid (Below W5.heap.size W5 w10) := HB10.out.trans (hb10.mono HB10.out.size)
         clear hb10 hS0))
    all_goals
      (go_wp2_with fail
       go_meet
       exact ⟨_, _, rfl, HS11, HB11⟩)
  case rest =>
  clear f0 f1 s0 s1 s2 s3 HXd HRd
  obtain ⟨A1, cp1, rfl, HS1, HBq⟩ := hcut
  obtain ⟨w6, hw6⟩ : ∃ w6, w6 = wc := ⟨_, rfl⟩
  subst hw6
  have HR6 := Lib.hid (HR5.out.under HBq.out HR5.out.lt)
  have HX6 := Lib.hid (Lay.sy.sunder HX5.out HBq.out (by omega))
  have HS06 := Lib.hid (HS5.out.under HBq.out)
  have HB6 : Hid (Below W1.heap.size W1 w6) := HB5.out.trans (HBq.out.mono HB5.out.size)
  have h56 : W5.heap.size ≤ w6.heap.size := HBq.out.size
  clear HBq HB5 HR5 HX5 HS5 HB4
  go_wp2_with fail
  refine (eqBn_any HS1.out HS06.out).mono ?_
  rintro e' w7 ⟨rfl, hb7⟩
  have HS17 := Lib.hid (HS1.out.under hb7)
  have HS07 := Lib.hid (HS06.out.under hb7)
  have HR7 := Lib.hid (HR6.out.under hb7 HR6.out.lt)
  have HX7 := Lib.hid (Lay.sy.sunder HX6.out hb7 (by omega))
  have HB7 : Hid (Below W1.heap.size W1 w7) := HB6.out.trans (hb7.mono HB6.out.size)
  have h67 : w6.heap.size ≤ w7.heap.size := hb7.size
  clear hb7 HS1 HS06 HR6 HX6 HB6
  have hr1 := (HR0.out.under HB7.out HR0.out.lt).under (Below.refl _ _).drew (Nat.lt_of_lt_of_le HR0.out.lt HB7.out.size)
  have hr5 := HR7.out.under (Below.refl _ _).drew HR7.out.lt
  obtain ⟨g0, g1⟩ := (show Row w7 _ _ _ from hr1).two
  obtain ⟨f0, f1⟩ := (show Row w7 _ _ _ from hr5).two
  have l1 : w.heap.size < w7.heap.size := Nat.lt_of_lt_of_le HR0.out.lt HB7.out.size
  have l5 : w4.heap.size < w7.heap.size := by omega
  go_upto_region 10 with fail
  go_cut [37] from 33 to 36 (fun b wx => b = .bool false ∧ Hid (Below w7.heap.size w7 wx))
  case first =>
    have HL8 : Hid (Lay.sy.lies w7.drew w7.drew.heap.size e C) := Lay.sy.later HL.out HB7.out.drew HB7.out.size
    have HX8 : Hid (Lay.sy.lies w7.drew w7.drew.heap.size e (fun j => (#[.slice xa xl xc, .slice ya yl yc] : Array Value).getD j undef)) := Lay.sy.later (Lay.sy.sep_lies HX7.out) (Below.refl _ _).drew (by show _ ≤ w7.heap.size; omega)
    have HR8 := Lib.hid hr5
    go_region_with (first
      | (go_at_call 10
         refine (toSy_any e C _ HL8.out HD.out).mono ?_
         rintro e' w8 ⟨xa', xl', xc', ya', yl', yc', rfl, hs8, hb8⟩
         have hr8 := HR8.out.under hb8 HR8.out.lt
         obtain ⟨o0, o1⟩ := hr8.two
         have HX9 := Lib.hid (Lay.sy.later HX8.out hb8 hb8.size)
         have HY9 := Lib.hid (Lay.sy.sep_lies hs8)
         have HB9 : Hid (Below w7.heap.size w7 w8) := (Below.refl _ _).drew.trans hb8
         clear hb8 hs8 hr8)
      | (go_at_call 13
         refine (eqSy_any e _ _ _ HX9.out HY9.out).mono ?_
         rintro e' w9 ⟨rfl, hb9⟩
         have HB10 : Hid (Below w7.heap.size w7 w9) := HB9.out.trans (hb9.mono HB9.out.size)
         clear hb9))
    all_goals
      (go_wp2_with fail
       go_meet
       exact ⟨rfl, HB10⟩)
  case rest =>
    clear g0 g1 f0 f1 hr1 hr5
    obtain ⟨rfl, HBc⟩ := hcut
    have HSc1 := Lib.hid (HS17.out.under HBc.out)
    have HSc0 := Lib.hid (HS07.out.under HBc.out)
    have HRc := Lib.hid (HR7.out.under HBc.out HR7.out.lt)
    have HXc := Lib.hid (Lay.sy.sunder HX7.out HBc.out (by omega))
    have HBd : Hid (Below W1.heap.size W1 wc) := HB7.out.trans (HBc.out.mono HB7.out.size)
    have h7c : w7.heap.size ≤ wc.heap.size := HBc.out.size
    clear HBc HS17 HS07 HR7 HX7 HB7
    obtain ⟨f0, f1⟩ := HRc.out.two
    go_wp2_with fail
    refine (mkSy_any e xa xl xc ya yl yc _ _ _ HXc.out (by omega) HD.out).mono ?_
    rintro e' wd ⟨k, rfl, hk0, hkd⟩
    have HSd1 := Lib.hid (HSc1.out.kept hkd (.inr (by omega)))
    have HSd0 := Lib.hid (HSc0.out.kept hkd (.inl (Nat.le_refl _)))
    have HBe : Hid (Below W1.heap.size W1 wd) := HBd.out.trans (hkd.below h13 (by omega))
    have hcd : wc.heap.size ≤ wd.heap.size := hkd.size
    clear hkd HSc1 HSc0 HRc HXc HBd f0 f1
    go_wp2_with fail
    refine (eqBn_any HSd1.out HSd0.out).mono ?_
    rintro e' we ⟨rfl, hbe⟩
    have HSe1 := Lib.hid (HSd1.out.under hbe)
    have HSe0 := Lib.hid (HSd0.out.under hbe)
    have HBf : Hid (Below W1.heap.size W1 we) := HBe.out.trans (hbe.mono HBe.out.size)
    have hde : wd.heap.size ≤ we.heap.size := hbe.size
    clear hbe HSd1 HSd0 HBe
    go_wp2_with fail
    refine (markBn_any 1 HSe1.out (by omega) (by omega)).mono ?_
    rintro e' wf ⟨rfl, hsf, hkf⟩
    have HSf1 := Lib.hid hsf
    have HSf0 := Lib.hid (HSe0.out.kept hkf (.inl (by omega)))
    have HBg : Hid (Below W1.heap.size W1 wf) := HBf.out.trans (hkf.below (by omega) (by omega))
    have hef : we.heap.size ≤ wf.heap.size := hkf.size
    clear hsf hkf HSe1 HSe0 HBf
    go_wp2_with fail
    refine (heldBn_any 1 HSf1.out (by omega) (by omega)).mono ?_
    rintro e' wg ⟨rfl, hbg⟩
    have HSg1 := Lib.hid (HSf1.out.under hbg)
    have HSg0 := Lib.hid (HSf0.out.under hbg)
    have HBh : Hid (Below W1.heap.size W1 wg) := HBg.out.trans (hbg.mono HBg.out.size)
    have hfg : wf.heap.size ≤ wg.heap.size := hbg.size
    clear hbg HSf1 HSf0 HBg
    have hrag := HR0.out.under HBh.out HR0.out.lt
    have hrsg := HRs.out.under HBh.out HRs.out.lt
    obtain ⟨g0, g1⟩ := hrag.two
    obtain ⟨s0, s1, s2, s3⟩ := hrsg.four
    have HLd : Hid (Lay.sy.lies wg.drew wg.drew.heap.size e C) := Lay.sy.later HL.out HBh.out.drew HBh.out.size
    have HRsd := Lib.hid (hrsg.under (Below.refl _ _).drew hrsg.lt)
    clear hrag hrsg
    go_upto_region 24 with fail
    go_cut [12] from 60 to 64 (fun S wx => ∃ (A : Option Addr) (cap : Nat), S = .slice A N cap ∧ Hid (BN N wx wg.heap.size wx.heap.size (.slice A N cap) M) ∧ Hid (Below wg.heap.size wg wx))
    case first =>
      go_region_with (first
        | (go_at_call 10
           with_reducible refine (toSy_any e C _ HLd.out HD.out).mono ?_
           rintro e' w8 ⟨pxa, pxl, pxc, pya, pyl, pyc, rfl, hs8, hb8⟩
           obtain ⟨o0, o1, o2, o3⟩ := (HRsd.out.under hb8 HRsd.out.lt).four
           have HX9 := Lib.hid (Lay.sy.sep_lies hs8)
           have HB9 : Hid (Below wg.heap.size wg w8) := (Below.refl _ _).drew.trans hb8
           clear hb8 hs8)
        | (go_at_call 18
           with_reducible refine (toStep_any p ed pa pe _).mono ?_
           rintro e' w9 ⟨rfl, hb9⟩
           have HX10 := Lib.hid (Lay.sy.later HX9.out hb9 hb9.size)
           have HB10 : Hid (Below wg.heap.size wg w9) := HB9.out.trans (hb9.mono HB9.out.size)
           clear hb9)
        | (go_at_call 19
           refine (implSp_any e _ p ed pa pe _ HX10.out HD.out).mono ?_
           rintro e' w10 ⟨S0, rfl, hS0, hb10⟩
           obtain ⟨A2, cp2, rfl⟩ := hS0.form
           rw [← HN.out, ← HM.out] at hS0
           rw [← HN.out]
           have HS11 : Hid (BN N w10 wg.heap.size w10.heap.size (.slice A2 N cp2) M) := hS0.more HB10.out.size (Nat.le_refl _)
           have HB11 : Hid (Below wg.heap.size wg w10) := HB10.out.trans (hb10.mono HB10.out.size)
           clear hb10 hS0))
      all_goals
        (go_wp2_with fail
         go_meet
         exact ⟨_, _, rfl, HS11, HB11⟩)
    case rest =>
    clear g0 g1 s0 s1 s2 s3 HLd HRsd
    obtain ⟨A2, cp2, rfl, HS2, HBi⟩ := hcut
    obtain ⟨wi, hwi⟩ : ∃ wi, wi = wc := ⟨_, rfl⟩
    subst hwi
    have HSi1 := Lib.hid (HSg1.out.under HBi.out)
    have HSi0 := Lib.hid (HSg0.out.under HBi.out)
    have HBj : Hid (Below W1.heap.size W1 wi) := HBh.out.trans (HBi.out.mono HBh.out.size)
    clear HBi HSg1 HSg0 HBh
    go_wp2_with fail
    refine (eqBn_any HS2.out HSi0.out).mono ?_
    rintro e' wj ⟨rfl, hbj⟩
    have HSj1 := Lib.hid (HSi1.out.under hbj)
    have HBk : Hid (Below W1.heap.size W1 wj) := HBj.out.trans (hbj.mono HBj.out.size)
    clear hbj HSi1 HSi0 HBj
    go_wp2_with fail
    refine (heldBn_any 1 HSj1.out (by omega) (by omega)).mono ?_
    rintro e' wk ⟨rfl, hbk⟩
    have HBl : Hid (Below w.heap.size w wk) := HB0.out.trans ((HBk.out.trans (hbk.mono HBk.out.size)).mono HB0.out.size)
    clear hbk HBk
    go_wp2_with fail
    go_ret
    exact ⟨rfl, HBl.out⟩

end Go.Proofs.Ytldnegacgjijlaa
