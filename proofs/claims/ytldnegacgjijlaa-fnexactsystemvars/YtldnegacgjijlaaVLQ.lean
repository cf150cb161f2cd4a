/- The walk of the law laws.FnExactSystemVars. -/
import Derived.Test.YtldnegacgjijlaaViQ
import Derived.Test.YtldnegacgjijlaaVqQ
import Derived.Test.YtldnegacgjijlaaMkTQ
import Derived.Test.YtldnegacgjijlaaToAQ
import Derived.Test.YtldnegacgjijlaaSzAQ
import Derived.Test.YtldnegacgjijlaaEqAQ
import Derived.Deep.RegionHeld3
import Derived.Deep.RegionWith
import Derived.Deep.Cut
import Derived.Deep.CutRange
namespace Go.Proofs.Ytldnegacgjijlaa
open Go.RowKit

/-- Two slices of truth values. -/
def BB (n : Nat) (w : World) (a b c d : Nat) (S U : Value) (m m' : Nat → Bool) : Prop := BN n w a b S m ∧ BN n w c d U m'
theorem BB.under {n : Nat} {w w' : World} {a b c d : Nat} {S U : Value} {m m' : Nat → Bool} (h : BB n w a b c d S U m m') (hb : Below w.heap.size w w') : BB n w' a b c d S U m m' := ⟨h.1.under hb, h.2.under hb⟩
theorem BB.kept {n : Nat} {w w' : World} {a b c d lo hi : Nat} {S U : Value} {m m' : Nat → Bool} (h : BB n w a b c d S U m m') (hk : Kept lo hi w w') (h1 : b ≤ lo ∨ hi ≤ a) (h2 : d ≤ lo ∨ hi ≤ c) : BB n w' a b c d S U m m' := ⟨h.1.kept hk h1, h.2.kept hk h2⟩

set_option maxHeartbeats 4000000 in
set_option maxRecDepth 100000 in
theorem lawVarsS_any (e : Sy) (C : Nat → Value) (w : World) (hL : Lay.sy.lies w w.heap.size e C) :
    Calls Try.prog 3 #[.agg #[C 0, C 1]] w fun e' w' => e' = .returned (.bool true) ∧ Below w.heap.size w w' := by
  obtain ⟨W1, hW1⟩ : ∃ W1, W1 = w.alloc (.cells #[C 0, C 1] 25) := ⟨_, rfl⟩
  have hb0 : Below w.heap.size w W1 := by rw [hW1]; exact (Below.refl _ _).alloc (Nat.le_refl _) _
  have HL : Hid (Lay.sy.lies W1 W1.heap.size e C) := Lay.sy.later hL hb0 hb0.size
  have HW1 := Lib.hid hW1
  have HB0 := Lib.hid hb0
  have HR0 : Hid (Row W1 w.heap.size 25 #[C 0, C 1]) := by rw [hW1]; exact Row.new _ _ _
  clear hL hW1 hb0
  obtain ⟨r, hr⟩ : ∃ r, r = room 1048576 (Lay.sy.sz e) := ⟨_, rfl⟩
  have HR := Lib.hid hr
  by_cases hbig : 1048576 < Lay.sy.sz e
  · have hneg : r < 0 := by rw [hr]; unfold room; rw [if_pos (by omega)]; omega
    clear hr hbig
    go_enter Try.func3, Try.ntmps3
    go_wp2_with fail
    rw [← HW1.out]
    refine (szSy_any e C 1048576 _ HL.out (by omega) (by omega)).mono ?_
    rintro e' w1 ⟨rfl, hb1⟩
    rw [← HR.out]
    have HB1 := Lib.hid (HB0.out.trans (hb1.mono HB0.out.size))
    clear hb1
    go_wp2_with fail
    go_ret
    exact ⟨rfl, HB1.out⟩
  have hpos : 0 ≤ r := by rw [hr]; unfold room; rw [if_neg (by omega)]; omega
  clear hr
  have hd : Lay.sy.sz e ≤ 1048576 := by omega
  have HD := Lib.hid hd
  obtain ⟨N, hN⟩ : ∃ N, N = vN e := ⟨_, rfl⟩
  obtain ⟨M, hM⟩ : ∃ M, M = rdS e.ps := ⟨_, rfl⟩
  obtain ⟨M', hM'⟩ : ∃ M', M' = wrS e.ps := ⟨_, rfl⟩
  have hn4 : N ≤ 3 := by rw [hN]; unfold vN; split <;> omega
  have HN := Lib.hid hN
  have HM := Lib.hid hM
  have HM' := Lib.hid hM'
  clear hbig hd hN hM hM'
  go_enter Try.func3, Try.ntmps3
  go_wp2_with fail
  rw [← HW1.out]
  refine (szSy_any e C 1048576 _ HL.out (by omega) (by omega)).mono ?_
  rintro e' w1 ⟨rfl, hb1⟩
  rw [← HR.out]
  have HB1 : Hid (Below W1.heap.size W1 w1) := hb1
  obtain ⟨g0, g1⟩ := (HR0.out.under hb1 HR0.out.lt).two
  clear hb1
  go_wp2_with fail
  -- the first copy, and the model's answer
  refine (toSy_any e C _ (Lay.sy.later HL.out HB1.out HB1.out.size) HD.out).mono ?_
  rintro e' w2 ⟨xa, xl, xc, ya, yl, yc, rfl, hs2, hb2⟩
  have HB2 : Hid (Below W1.heap.size W1 w2) := HB1.out.trans (hb2.mono HB1.out.size)
  have HO2 := Lib.hid (Lay.sy.sep_lies hs2)
  have h12 : W1.heap.size ≤ w2.heap.size := HB2.out.size
  clear hb2 hs2 g0 g1 HB1
  go_wp2_with fail
  refine (specVarsS_any e (fun j => (#[.slice xa xl xc, .slice ya yl yc] : Array Value).getD j undef) _ HO2.out HD.out).mono ?_
  rintro e' w3 ⟨S0, U0, i0, j0, k0, l0, rfl, hS0, hU0, hsp0, la0, lb0, lc0, ld0, hb3⟩
  rw [← HN.out, ← HM.out] at hS0
  rw [← HN.out, ← HM'.out] at hU0
  have HB3 : Hid (Below W1.heap.size W1 w3) := HB2.out.trans (hb3.mono HB2.out.size)
  have HS0 : Hid (BB N w3 i0 j0 k0 l0 S0 U0 M M') := ⟨hS0, hU0⟩
  clear hb3 HB2 HO2 hS0 hU0
  obtain ⟨g0, g1⟩ := (HR0.out.under HB3.out HR0.out.lt).two
  go_wp2_with fail
  -- the second copy, and the program's answer
  refine (toSy_any e C _ (Lay.sy.later HL.out HB3.out HB3.out.size) HD.out).mono ?_
  rintro e' w4 ⟨xa, xl, xc, ya, yl, yc, rfl, hs4, hb4⟩
  have HB4 : Hid (Below W1.heap.size W1 w4) := HB3.out.trans (hb4.mono HB3.out.size)
  have h34 : w3.heap.size ≤ w4.heap.size := hb4.size
  have h13 : W1.heap.size ≤ w3.heap.size := HB3.out.size
  obtain ⟨W5, hW5⟩ : ∃ W5, W5 = w4.alloc (.cells #[.slice xa xl xc, .slice ya yl yc] 32) := ⟨_, rfl⟩
  have HW5 := Lib.hid hW5
  have HR5 : Hid (Row W5 w4.heap.size 32 #[.slice xa xl xc, .slice ya yl yc]) := by rw [hW5]; exact Row.new _ _ _
  have hb5 : Below w4.heap.size w4 W5 := by rw [hW5]; exact (Below.refl _ _).alloc (Nat.le_refl _) _
  have HB5 : Hid (Below W1.heap.size W1 W5) := HB4.out.trans (hb5.mono HB4.out.size)
  have HX5 : Hid (Lay.sy.sep W5 w3.heap.size w4.heap.size e (fun j => (#[.slice xa xl xc, .slice ya yl yc] : Array Value).getD j undef)) := Lay.sy.sunder hs4 hb5 (Nat.le_refl _)
  have HS5 : Hid (BB N W5 i0 j0 k0 l0 S0 U0 M M') := (HS0.out.under hb4).under hb5
  have h45 : w4.heap.size < W5.heap.size := HR5.out.lt
  clear hb4 hs4 g0 g1 HB3 hW5 hb5 HS0
  go_wp2_with fail
  rw [← HW5.out]
  refine (implVarsS_any e (fun j => (#[.slice xa xl xc, .slice ya yl yc] : Array Value).getD j undef) _ (Lay.sy.more (Lay.sy.sep_lies HX5.out) (by omega)) HD.out).mono ?_
  rintro e' w6 ⟨S1, U1, i1, j1, k1, l1, rfl, hS1, hU1, hsp1, la1, lb1, lc1, ld1, hb6⟩
  rw [← HN.out, ← HM.out] at hS1
  rw [← HN.out, ← HM'.out] at hU1
  have HS1 : Hid (BB N w6 i1 j1 k1 l1 S1 U1 M M') := ⟨hS1, hU1⟩
  have HR6 := Lib.hid (HR5.out.under hb6 HR5.out.lt)
  have HX6 := Lib.hid (Lay.sy.sunder HX5.out hb6 (by omega))
  have HS06 := Lib.hid (HS5.out.under hb6)
  have HB6 : Hid (Below W1.heap.size W1 w6) := HB5.out.trans (hb6.mono HB5.out.size)
  have h56 : W5.heap.size ≤ w6.heap.size := hb6.size
  clear hS1 hU1 hb6 HB5 HR5 HX5 HS5 HB4
  go_wp2_with fail
  refine (eqBn_any HS1.out.1 HS06.out.1).mono ?_
  rintro e' w6' ⟨rfl, hb6'⟩
  have HS1' := Lib.hid (HS1.out.under hb6')
  have HS06' := Lib.hid (HS06.out.under hb6')
  have HR6' := Lib.hid (HR6.out.under hb6' HR6.out.lt)
  have HX6' := Lib.hid (Lay.sy.sunder HX6.out hb6' (by omega))
  have HB6' : Hid (Below W1.heap.size W1 w6') := HB6.out.trans (hb6'.mono HB6.out.size)
  have h66 : w6.heap.size ≤ w6'.heap.size := hb6'.size
  clear hb6' HS1 HS06 HR6 HX6 HB6
  go_wp2_with fail
  refine (eqBn_any HS1'.out.2 HS06'.out.2).mono ?_
  rintro e' w7 ⟨rfl, hb7⟩
  have HS17 := Lib.hid (HS1'.out.under hb7)
  have HS07 := Lib.hid (HS06'.out.under hb7)
  have HR7 := Lib.hid (HR6'.out.under hb7 HR6'.out.lt)
  have HX7 := Lib.hid (Lay.sy.sunder HX6'.out hb7 (by omega))
  have HB7 : Hid (Below W1.heap.size W1 w7) := HB6'.out.trans (hb7.mono HB6'.out.size)
  have h67 : w6'.heap.size ≤ w7.heap.size := hb7.size
  clear hb7 HS1' HS06' HR6' HX6' HB6'
  have hr1 := (HR0.out.under HB7.out HR0.out.lt).under (Below.refl _ _).drew (Nat.lt_of_lt_of_le HR0.out.lt HB7.out.size)
  have hr5 := HR7.out.under (Below.refl _ _).drew HR7.out.lt
  obtain ⟨g0, g1⟩ := (show Row w7 _ _ _ from hr1).two
  obtain ⟨f0, f1⟩ := (show Row w7 _ _ _ from hr5).two
  have l1' : w.heap.size < w7.heap.size := Nat.lt_of_lt_of_le HR0.out.lt HB7.out.size
  have l5' : w4.heap.size < w7.heap.size := by omega
  go_upto_region 10 with fail
  go_cut [46] from 42 to 45 (fun b wx => b = .bool false ∧ Hid (Below w7.heap.size w7 wx))
  case first =>
    have HL8 : Hid (Lay.sy.lies w7.drew w7.drew.heap.size e C) := Lay.sy.later HL.out HB7.out.drew HB7.out.size
    have HX8 : Hid (Lay.sy.lies w7.drew w7.drew.heap.size e (fun j => (#[.slice xa xl xc, .slice ya yl yc] : Array Value).getD j undef)) := Lay.sy.later (Lay.sy.sep_lies HX7.out) (Below.refl _ _).drew (by show _ ≤ w7.heap.size; omega)
    have HR8 := Lib.hid hr5
    go_region_with (first
      | (go_at_call 10
         refine (toSy_any e C _ HL8.out HD.out).mono ?_
         rintro e' w8 ⟨xa', xl', xc', ya', yl', yc', rfl, hs8, hb8⟩
         have hr8 := HR8.out.under hb8 HR8.out.lt
         obtain ⟨o0, o1⟩ := hr8.two
         have HX9 := Lib.hid (Lay.sy.later HX8.out hb8 hb8.size)
         have HY9 := Lib.hid (Lay.sy.sep_lies hs8)
         have HB9 : Hid (Below w7.heap.size w7 w8) := (Below.refl _ _).drew.trans hb8
         clear hb8 hs8 hr8)
      | (go_at_call 13
         refine (eqSy_any e _ _ _ HX9.out HY9.out).mono ?_
         rintro e' w9 ⟨rfl, hb9⟩
         have HB10 : Hid (Below w7.heap.size w7 w9) := HB9.out.trans (hb9.mono HB9.out.size)
         clear hb9))
    all_goals
      (go_wp2_with fail
       go_meet
       exact ⟨rfl, HB10⟩)
  case rest =>
    clear g0 g1 f0 f1 hr1 hr5
    obtain ⟨rfl, HBc⟩ := hcut
    have HSc1 := Lib.hid (HS17.out.under HBc.out)
    have HSc0 := Lib.hid (HS07.out.under HBc.out)
    have HRc := Lib.hid (HR7.out.under HBc.out HR7.out.lt)
    have HXc := Lib.hid (Lay.sy.sunder HX7.out HBc.out (by omega))
    have HBd : Hid (Below W1.heap.size W1 wc) := HB7.out.trans (HBc.out.mono HB7.out.size)
    have h7c : w7.heap.size ≤ wc.heap.size := HBc.out.size
    clear HBc HS17 HS07 HR7 HX7 HB7
    obtain ⟨f0, f1⟩ := HRc.out.two
    go_wp2_with fail
    refine (mkSy_any e xa xl xc ya yl yc _ _ _ HXc.out (by omega) HD.out).mono ?_
    rintro e' wd ⟨k, rfl, hk0, hkd⟩
    have HSd1 := Lib.hid (HSc1.out.kept hkd (.inr (by omega)) (.inr (by omega)))
    have HSd0 := Lib.hid (HSc0.out.kept hkd (.inl lb0) (.inl ld0))
    have HBe : Hid (Below W1.heap.size W1 wd) := HBd.out.trans (hkd.below h13 (by omega))
    have hcd : wc.heap.size ≤ wd.heap.size := hkd.size
    clear hkd HSc1 HSc0 HRc HXc HBd f0 f1
    go_wp2_with fail
    refine (eqBn_any HSd1.out.1 HSd0.out.1).mono ?_
    rintro e' wd' ⟨rfl, hbd'⟩
    have HSd1' := Lib.hid (HSd1.out.under hbd')
    have HSd0' := Lib.hid (HSd0.out.under hbd')
    have HBe' : Hid (Below W1.heap.size W1 wd') := HBe.out.trans (hbd'.mono HBe.out.size)
    have hdd' : wd.heap.size ≤ wd'.heap.size := hbd'.size
    clear hbd' HSd1 HSd0 HBe
    go_wp2_with fail
    refine (eqBn_any HSd1'.out.2 HSd0'.out.2).mono ?_
    rintro e' we ⟨rfl, hbe⟩
    have HSe1 := Lib.hid (HSd1'.out.under hbe)
    have HSe0 := Lib.hid (HSd0'.out.under hbe)
    have HBf : Hid (Below W1.heap.size W1 we) := HBe'.out.trans (hbe.mono HBe'.out.size)
    have hde : wd'.heap.size ≤ we.heap.size := hbe.size
    clear hbe HSd1' HSd0' HBe'
    go_wp2_with fail
    refine (markBn_any 1 HSe1.out.1 (by omega) (by omega)).mono ?_
    rintro e' wf ⟨rfl, hsf, hkf⟩
    have HSf1 : Hid (BB N wf i1 j1 k1 l1 S1 U1 (mk3 1) M') := ⟨hsf, HSe1.out.2.kept hkf (by omega)⟩
    have HSf0 := Lib.hid (HSe0.out.kept hkf (.inl (by omega)) (.inl (by omega)))
    have HBg : Hid (Below W1.heap.size W1 wf) := HBf.out.trans (hkf.below (by omega) (by omega))
    have hef : we.heap.size ≤ wf.heap.size := hkf.size
    clear hsf hkf HSe1 HSe0 HBf
    go_wp2_with fail
    refine (markBn_any (1 + N) HSf1.out.2 (by omega) (by omega)).mono ?_
    rintro e' wf' ⟨rfl, hsf', hkf'⟩
    have HSf1' : Hid (BB N wf' i1 j1 k1 l1 S1 U1 (mk3 1) (mk3 (1 + N))) := ⟨HSf1.out.1.kept hkf' (by omega), hsf'⟩
    have HSf0' := Lib.hid (HSf0.out.kept hkf' (.inl (by omega)) (.inl (by omega)))
    have HBg' : Hid (Below W1.heap.size W1 wf') := HBg.out.trans (hkf'.below (by omega) (by omega))
    have hff : wf.heap.size ≤ wf'.heap.size := hkf'.size
    clear hsf' hkf' HSf1 HSf0 HBg
    go_wp2_with fail
    refine (heldBn_any 1 HSf1'.out.1 (by omega) (by omega)).mono ?_
    rintro e' wg ⟨rfl, hbg⟩
    have HSg1 := Lib.hid (HSf1'.out.under hbg)
    have HSg0 := Lib.hid (HSf0'.out.under hbg)
    have HBh : Hid (Below W1.heap.size W1 wg) := HBg'.out.trans (hbg.mono HBg'.out.size)
    have hfg : wf'.heap.size ≤ wg.heap.size := hbg.size
    clear hbg HSf1' HSf0' HBg'
    go_wp2_with fail
    refine (heldBn_any (1 + N) HSg1.out.2 (by omega) (by omega)).mono ?_
    rintro e' wg' ⟨rfl, hbg'⟩
    have HSg1' := Lib.hid (HSg1.out.under hbg')
    have HSg0' := Lib.hid (HSg0.out.under hbg')
    have HBh' : Hid (Below W1.heap.size W1 wg') := HBh.out.trans (hbg'.mono HBh.out.size)
    clear hbg' HSg1 HSg0 HBh
    obtain ⟨g0, g1⟩ := (HR0.out.under HBh'.out HR0.out.lt).two
    go_wp2_with fail
    refine (toSy_any e C _ (Lay.sy.later HL.out HBh'.out HBh'.out.size) HD.out).mono ?_
    rintro e' wh ⟨za, zl, zc, ta, tl, tc, rfl, hsh, hbh⟩
    have HOh := Lib.hid (Lay.sy.sep_lies hsh)
    have HSh1 := Lib.hid (HSg1'.out.under hbh)
    have HSh0 := Lib.hid (HSg0'.out.under hbh)
    have HBi : Hid (Below W1.heap.size W1 wh) := HBh'.out.trans (hbh.mono HBh'.out.size)
    clear hbh hsh HSg1' HSg0' HBh' g0 g1
    go_wp2_with fail
    refine (implVarsS_any e (fun j => (#[.slice za zl zc, .slice ta tl tc] : Array Value).getD j undef) _ HOh.out HD.out).mono ?_
    rintro e' wi ⟨S2, U2, i2, j2, k2, l2, rfl, hS2, hU2, hsp2, la2, lb2, lc2, ld2, hbi⟩
    rw [← HN.out, ← HM.out] at hS2
    rw [← HN.out, ← HM'.out] at hU2
    have HS2 : Hid (BB N wi i2 j2 k2 l2 S2 U2 M M') := ⟨hS2, hU2⟩
    have HSi1 := Lib.hid (HSh1.out.under hbi)
    have HSi0 := Lib.hid (HSh0.out.under hbi)
    have HBj : Hid (Below W1.heap.size W1 wi) := HBi.out.trans (hbi.mono HBi.out.size)
    clear hbi hS2 hU2 HSh1 HSh0 HBi HOh
    go_wp2_with fail
    refine (eqBn_any HS2.out.1 HSi0.out.1).mono ?_
    rintro e' wi' ⟨rfl, hbi'⟩
    have HS2' := Lib.hid (HS2.out.under hbi')
    have HSi1' := Lib.hid (HSi1.out.under hbi')
    have HSi0' := Lib.hid (HSi0.out.under hbi')
    have HBj' : Hid (Below W1.heap.size W1 wi') := HBj.out.trans (hbi'.mono HBj.out.size)
    clear hbi' HS2 HSi1 HSi0 HBj
    go_wp2_with fail
    refine (eqBn_any HS2'.out.2 HSi0'.out.2).mono ?_
    rintro e' wj ⟨rfl, hbj⟩
    have HSj1 := Lib.hid (HSi1'.out.under hbj)
    have HBk : Hid (Below W1.heap.size W1 wj) := HBj'.out.trans (hbj.mono HBj'.out.size)
    clear hbj HSi1' HSi0' HBj' HS2'
    go_wp2_with fail
    refine (heldBn_any 1 HSj1.out.1 (by omega) (by omega)).mono ?_
    rintro e' wk ⟨rfl, hbk⟩
    have HSk1 := Lib.hid (HSj1.out.under hbk)
    have HBk' : Hid (Below W1.heap.size W1 wk) := HBk.out.trans (hbk.mono HBk.out.size)
    clear hbk HSj1 HBk
    go_wp2_with fail
    refine (heldBn_any (1 + N) HSk1.out.2 (by omega) (by omega)).mono ?_
    rintro e' wm ⟨rfl, hbm⟩
    have HBl : Hid (Below w.heap.size w wm) := HB0.out.trans ((HBk'.out.trans (hbm.mono HBk'.out.size)).mono HB0.out.size)
    clear hbm HBk'
    go_wp2_with fail
    go_ret
    exact ⟨rfl, HBl.out⟩

end Go.Proofs.Ytldnegacgjijlaa
