/- The walk of the law laws.FnExactShortestPath. -/
import Derived.Test.YtkeokgeaekjgeaaBo
import Derived.Test.YtkeokgeaekjgeaaRes
import Derived.Test.YtkeokgeaekjgeaaMkG
import Derived.Test.YtkeokgeaekjgeaaGrSz
import Derived.Test.YtkeokgeaekjgeaaGrEq
import Derived.Test.YtkeokgeaekjgeaaGrTo
import Derived.Deep.RegionHeld3
import Derived.Deep.RegionWith
import Derived.Deep.Cut
import Derived.Deep.CutRange
namespace Go.Proofs.Ytkeokgeaekjgeaa
open Go.RowKit

set_option maxHeartbeats 4000000 in
set_option maxRecDepth 100000 in
theorem lawShp_any (e : Gp) (C : Nat → Value) (a z : Int) (w : World) (hL : Lay.gra.lies w w.heap.size e C) :
    Calls Try.prog 3 #[.agg #[C 0, C 1], .int .i64 a, .int .i64 z] w fun e' w' => e' = .returned (.bool true) ∧ Below w.heap.size w w' := by
  obtain ⟨W1, hW1⟩ : ∃ W1, W1 = w.alloc (.cells #[C 0, C 1] 25) := ⟨_, rfl⟩
  have hb0 : Below w.heap.size w W1 := by rw [hW1]; exact (Below.refl _ _).alloc (Nat.le_refl _) _
  have HL : Hid (Lay.gra.lies W1 W1.heap.size e C) := Lay.gra.later hL hb0 hb0.size
  have HW1 := Lib.hid hW1
  have HB0 := Lib.hid hb0
  have HR0 : Hid (Row W1 w.heap.size 25 #[C 0, C 1]) := by rw [hW1]; exact Row.new _ _ _
  have hlt1 : w.heap.size < W1.heap.size := HR0.out.lt
  clear hL hW1 hb0
  obtain ⟨r, hr⟩ : ∃ r, r = room 1048576 (Lay.gra.sz e) := ⟨_, rfl⟩
  have HR := Lib.hid hr
  by_cases hneg : r < 0
  · clear hr
    go_enter Try.func3, Try.ntmps3
    go_wp2_with fail
    rw [← HW1.out]
    refine (szGr_any e C 1048576 _ HL.out (by omega) (by omega)).mono ?_
    rintro e' w1 ⟨rfl, hb1⟩
    rw [← HR.out]
    have HB1 := Lib.hid (HB0.out.trans (hb1.mono HB0.out.size))
    clear hb1
    go_wp2_with fail
    go_ret
    exact ⟨rfl, HB1.out⟩
  have hd : Lay.gra.sz e ≤ 1048576 := by
    rw [hr] at hneg
    unfold room at hneg
    by_cases h : (1048576 : Int) < (Lay.gra.sz e : Nat)
    · rw [if_pos h] at hneg; omega
    · omega
  have HD := Lib.hid hd
  obtain ⟨l, hl⟩ : ∃ l : List Int, l = spath e a z := ⟨_, rfl⟩
  have hln : l.length ≤ 1048576 := by rw [hl]; exact spath_len e a z
  have hlm : l.length ≤ maxLen := by unfold maxLen; omega
  have HLl := Lib.hid hl
  have HLm := Lib.hid hlm
  clear hr hd hl hlm
  go_enter Try.func3, Try.ntmps3
  go_wp2_with fail
  rw [← HW1.out]
  refine (szGr_any e C 1048576 _ HL.out (by omega) (by omega)).mono ?_
  rintro e' w1 ⟨rfl, hb1⟩
  rw [← HR.out]
  have HB1 : Hid (Below W1.heap.size W1 w1) := hb1
  obtain ⟨g0, g1⟩ := (HR0.out.under hb1 HR0.out.lt).two
  clear hb1
  go_wp2_with fail
  -- the first copy, and the model's answer
  refine (toGr_any e C _ (Lay.gra.later HL.out HB1.out HB1.out.size) HD.out).mono ?_
  rintro e' w2 ⟨pxa, pxl, pxc, pya, pyl, pyc, rfl, hs2, hb2⟩
  have HB2 : Hid (Below W1.heap.size W1 w2) := HB1.out.trans (hb2.mono HB1.out.size)
  have HO2 := Lib.hid (Lay.gra.sep_lies hs2)
  clear hb2 hs2 g0 g1 HB1
  go_wp2_with fail
  refine (specSp_any e (fun j => (#[.slice pxa pxl pxc, .slice pya pyl pyc] : Array Value).getD j undef) a z _ HO2.out).mono ?_
  rintro e' w3 ⟨v0, rfl, hS0, hb3⟩
  rw [← HLl.out] at hS0
  have HS0 : Hid ((Lay.int.slice 3).sep w3 w2.heap.size w3.heap.size l (fun _ => v0)) := hS0.sep HLm.out hb3.size
  have HB3 : Hid (Below W1.heap.size W1 w3) := HB2.out.trans (hb3.mono HB2.out.size)
  have h12 : W1.heap.size ≤ w2.heap.size := HB2.out.size
  have h23 : w2.heap.size ≤ w3.heap.size := hb3.size
  obtain ⟨g0, g1⟩ := (HR0.out.under HB3.out HR0.out.lt).two
  clear hb3 HB2 HO2 hS0
  go_wp2_with fail
  -- the second copy, and the program's answer
  refine (toGr_any e C _ (Lay.gra.later HL.out HB3.out HB3.out.size) HD.out).mono ?_
  rintro e' w4 ⟨xa, xl, xc, ya, yl, yc, rfl, hs4, hb4⟩
  have h34 : w3.heap.size ≤ w4.heap.size := hb4.size
  obtain ⟨W5, hW5⟩ : ∃ W5, W5 = w4.alloc (.cells #[.slice xa xl xc, .slice ya yl yc] 31) := ⟨_, rfl⟩
  have HW5 := Lib.hid hW5
  have HR5 : Hid (Row W5 w4.heap.size 31 #[.slice xa xl xc, .slice ya yl yc]) := by rw [hW5]; exact Row.new _ _ _
  have hb5 : Below w4.heap.size w4 W5 := by rw [hW5]; exact (Below.refl _ _).alloc (Nat.le_refl _) _
  have hb35 : Below w3.heap.size w3 W5 := hb4.trans (hb5.mono h34)
  have HB5 : Hid (Below W1.heap.size W1 W5) := HB3.out.trans (hb35.mono HB3.out.size)
  have HX5 : Hid (Lay.gra.sep W5 w3.heap.size w4.heap.size e (fun j => (#[.slice xa xl xc, .slice ya yl yc] : Array Value).getD j undef)) := Lay.gra.sunder hs4 hb5 (Nat.le_refl _)
  have HS5 := Lib.hid ((Lay.int.slice 3).sunder HS0.out hb35 (Nat.le_refl _))
  have h45 : w4.heap.size < W5.heap.size := HR5.out.lt
  obtain ⟨f0, f1⟩ := HR5.out.two
  clear hb4 hs4 g0 g1 hW5 hb5 hb35 HS0 HB3
  go_wp2_with fail
  rw [← HW5.out]
  refine (implSp_any e (fun j => (#[.slice xa xl xc, .slice ya yl yc] : Array Value).getD j undef) a z _ (Lay.gra.more (Lay.gra.sep_lies HX5.out) (by omega))).mono ?_
  rintro e' w6 ⟨v1, rfl, hS1, hb6⟩
  rw [← HLl.out] at hS1
  have h56 : W5.heap.size ≤ w6.heap.size := hb6.size
  have HS16 : Hid ((Lay.int.slice 3).sep w6 W5.heap.size w6.heap.size l (fun _ => v1)) := hS1.sep HLm.out hb6.size
  have HS06 := Lib.hid ((Lay.int.slice 3).sunder HS5.out hb6 (by omega))
  have HR6 := Lib.hid (HR5.out.under hb6 HR5.out.lt)
  have HX6 := Lib.hid (Lay.gra.sunder HX5.out hb6 (by omega))
  have HB6 : Hid (Below W1.heap.size W1 w6) := HB5.out.trans (hb6.mono HB5.out.size)
  clear hb6 hS1 f0 f1 HS5 HR5 HX5 HB5
  go_wp2_with fail
  refine (eqRes_any l v1 v0 w6 ((Lay.int.slice _).more ((Lay.int.slice _).sep_lies HS16.out) (Nat.le_refl _)) ((Lay.int.slice _).more ((Lay.int.slice _).sep_lies HS06.out) (by omega))).mono ?_
  rintro e' w7 ⟨rfl, hb7⟩
  have h67 : w6.heap.size ≤ w7.heap.size := hb7.size
  have HS17 := Lib.hid ((Lay.int.slice 3).sunder HS16.out hb7 (Nat.le_refl _))
  have HS07 := Lib.hid ((Lay.int.slice 3).sunder HS06.out hb7 (by omega))
  have HR7 := Lib.hid (HR6.out.under hb7 HR6.out.lt)
  have HX7 := Lib.hid (Lay.gra.sunder HX6.out hb7 (by omega))
  have HB7 : Hid (Below W1.heap.size W1 w7) := HB6.out.trans (hb7.mono HB6.out.size)
  clear hb7 HS16 HS06 HR6 HX6 HB6
  have hr1 := HR0.out.under HB7.out HR0.out.lt
  have hr5 := HR7.out
  obtain ⟨g0, g1⟩ := hr1.two
  obtain ⟨f0, f1⟩ := hr5.two
  have l1 : w.heap.size < w7.heap.size := Nat.lt_of_lt_of_le HR0.out.lt HB7.out.size
  have l5 : w4.heap.size < w7.heap.size := by omega
  go_upto_region 10 with fail
  go_cut [39] from 35 to 38 (fun b wx => b = .bool false ∧ Hid (Below w7.heap.size w7 wx))
  case first =>
    have HL8 : Hid (Lay.gra.lies w7.drew w7.drew.heap.size e C) := Lay.gra.later HL.out HB7.out.drew HB7.out.size
    have HX8 : Hid (Lay.gra.lies w7.drew w7.drew.heap.size e (fun j => (#[.slice xa xl xc, .slice ya yl yc] : Array Value).getD j undef)) := Lay.gra.later (Lay.gra.sep_lies HX7.out) (Below.refl _ _).drew (by show _ ≤ w7.heap.size; omega)
    have HR8 : Hid (Row w7.drew w4.heap.size 31 #[.slice xa xl xc, .slice ya yl yc]) := hr5.under (Below.refl _ _).drew hr5.lt
    go_region_with (first
      | (go_at_call 7
         refine (toGr_any e C _ HL8.out HD.out).mono ?_
         rintro e' w8 ⟨xa', xl', xc', ya', yl', yc', rfl, hs8, hb8⟩
         have hr8 := HR8.out.under hb8 HR8.out.lt
         obtain ⟨o0, o1⟩ := hr8.two
         have HX9 := Lib.hid (Lay.gra.later HX8.out hb8 hb8.size)
         have HY9 := Lib.hid (Lay.gra.sep_lies hs8)
         have HB9 : Hid (Below w7.heap.size w7 w8) := (Below.refl _ _).drew.trans hb8
         clear hb8 hs8 hr8)
      | (go_at_call 10
         refine (eqGr_any e _ _ _ HX9.out HY9.out).mono ?_
         rintro e' w9 ⟨rfl, hb9⟩
         have HB10 : Hid (Below w7.heap.size w7 w9) := HB9.out.trans (hb9.mono HB9.out.size)
         clear hb9))
    all_goals
      (go_wp2_with fail
       go_meet
       exact ⟨rfl, HB10⟩)
  case rest =>
    clear g0 g1 f0 f1 hr1 hr5
    obtain ⟨rfl, HBc⟩ := hcut
    have h7c : w7.heap.size ≤ wc.heap.size := HBc.out.size
    have HSc1 := Lib.hid ((Lay.int.slice 3).sunder HS17.out HBc.out (by omega))
    have HSc0 := Lib.hid ((Lay.int.slice 3).sunder HS07.out HBc.out (by omega))
    have HXc := Lib.hid (Lay.gra.sunder HX7.out HBc.out (by omega))
    have HBd : Hid (Below W1.heap.size W1 wc) := HB7.out.trans (HBc.out.mono HB7.out.size)
    obtain ⟨f0, f1⟩ := (HR7.out.under HBc.out HR7.out.lt).two
    clear HBc HS17 HS07 HR7 HX7 HB7
    go_wp2_with fail
    refine (mkGr_any e xa xl xc ya yl yc _ _ _ HXc.out (by omega) HD.out).mono ?_
    rintro e' wd ⟨k, rfl, hk0, hkd⟩
    have hcd : wc.heap.size ≤ wd.heap.size := hkd.size
    have HSd1 : Hid ((Lay.int.slice 3).sep wd W5.heap.size w6.heap.size l (fun _ => v1)) := (Lay.int.slice _).sep_keep (fun q b1 b2 => hkd.other q (by omega) (.inr (by omega))) HSc1.out
    have HSd0 : Hid ((Lay.int.slice 3).sep wd w2.heap.size w3.heap.size l (fun _ => v0)) := (Lay.int.slice _).sep_keep (fun q b1 b2 => hkd.other q (by omega) (.inl (by omega))) HSc0.out
    have HBe : Hid (Below W1.heap.size W1 wd) := HBd.out.trans (hkd.below (by omega) (by omega))
    clear hkd HSc1 HSc0 HXc HBd f0 f1
    go_wp2_with fail
    refine (eqRes_any l v1 v0 wd ((Lay.int.slice _).more ((Lay.int.slice _).sep_lies HSd1.out) (by omega)) ((Lay.int.slice _).more ((Lay.int.slice _).sep_lies HSd0.out) (by omega))).mono ?_
    rintro e' we ⟨rfl, hbe⟩
    have hde : wd.heap.size ≤ we.heap.size := hbe.size
    have HSe1 := Lib.hid ((Lay.int.slice 3).sunder HSd1.out hbe (by omega))
    have HSe0 := Lib.hid ((Lay.int.slice 3).sunder HSd0.out hbe (by omega))
    have HBf : Hid (Below W1.heap.size W1 we) := HBe.out.trans (hbe.mono HBe.out.size)
    clear hbe HSd1 HSd0 HBe
    go_wp2_with fail
    refine (mkInX_any l (fun _ => v1) 1 _ _ _ HSe1.out hln (by omega) (by omega)).mono ?_
    rintro e' wf ⟨rfl, hsf, hkf⟩
    have hef : we.heap.size ≤ wf.heap.size := hkf.size
    have HSf1 := Lib.hid hsf
    have HSf0 : Hid ((Lay.int.slice 3).sep wf w2.heap.size w3.heap.size l (fun _ => v0)) := (Lay.int.slice _).sep_keep (fun q b1 b2 => hkf.other q (by omega) (.inl (by omega))) HSe0.out
    have HBg : Hid (Below W1.heap.size W1 wf) := HBf.out.trans (hkf.below (by omega) (by omega))
    clear hsf hkf HSe1 HSe0 HBf
    go_wp2_with fail
    refine (heldIn_any l.length (fun _ => v1) 1 wf ((Lay.int.slice _).more ((Lay.int.slice _).sep_lies HSf1.out) (by omega)) hln (by omega) (by omega)).mono ?_
    rintro e' wg ⟨rfl, rfl⟩
    obtain ⟨g0, g1⟩ := (HR0.out.under HBg.out HR0.out.lt).two
    go_wp2_with fail
    refine (toGr_any e C _ (Lay.gra.later HL.out HBg.out HBg.out.size) HD.out).mono ?_
    rintro e' wh ⟨za, zl, zc, ta, tl, tc, rfl, hsh, hbh⟩
    have hgh : wf.heap.size ≤ wh.heap.size := hbh.size
    have HOh := Lib.hid (Lay.gra.sep_lies hsh)
    have HSh1 := Lib.hid ((Lay.int.slice 3).sunder HSf1.out hbh (by omega))
    have HSh0 := Lib.hid ((Lay.int.slice 3).sunder HSf0.out hbh (by omega))
    have HBi : Hid (Below W1.heap.size W1 wh) := HBg.out.trans (hbh.mono HBg.out.size)
    clear hbh hsh HSf1 HSf0 HBg g0 g1
    go_wp2_with fail
    refine (implSp_any e (fun j => (#[.slice za zl zc, .slice ta tl tc] : Array Value).getD j undef) a z _ HOh.out).mono ?_
    rintro e' wi ⟨v2, rfl, hS2, hbi⟩
    rw [← HLl.out] at hS2
    have hhi : wh.heap.size ≤ wi.heap.size := hbi.size
    have HS2 : Hid ((Lay.int.slice 3).sep wi wh.heap.size wi.heap.size l (fun _ => v2)) := hS2.sep HLm.out hbi.size
    have HSi1 := Lib.hid ((Lay.int.slice 3).sunder HSh1.out hbi (by omega))
    have HSi0 := Lib.hid ((Lay.int.slice 3).sunder HSh0.out hbi (by omega))
    have HBj : Hid (Below W1.heap.size W1 wi) := HBi.out.trans (hbi.mono HBi.out.size)
    clear hbi hS2 HSh1 HSh0 HBi HOh
    go_wp2_with fail
    refine (eqRes_any l v2 v0 wi ((Lay.int.slice _).more ((Lay.int.slice _).sep_lies HS2.out) (Nat.le_refl _)) ((Lay.int.slice _).more ((Lay.int.slice _).sep_lies HSi0.out) (by omega))).mono ?_
    rintro e' wj ⟨rfl, hbj⟩
    have hij : wi.heap.size ≤ wj.heap.size := hbj.size
    have HSj1 := Lib.hid ((Lay.int.slice 3).sunder HSi1.out hbj (by omega))
    have HBk : Hid (Below W1.heap.size W1 wj) := HBj.out.trans (hbj.mono HBj.out.size)
    clear hbj HSi1 HSi0 HBj HS2
    go_wp2_with fail
    refine (heldIn_any l.length (fun _ => v1) 1 wj ((Lay.int.slice _).more ((Lay.int.slice _).sep_lies HSj1.out) (by omega)) hln (by omega) (by omega)).mono ?_
    rintro e' wk ⟨rfl, rfl⟩
    have HBl : Hid (Below w.heap.size w wj) := HB0.out.trans (HBk.out.mono HB0.out.size)
    clear HBk
    go_wp2_with fail
    go_ret
    exact ⟨rfl, HBl.out⟩

end Go.Proofs.Ytkeokgeaekjgeaa
