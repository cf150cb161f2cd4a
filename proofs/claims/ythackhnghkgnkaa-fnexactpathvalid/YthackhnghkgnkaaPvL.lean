/- The walk of the law laws.FnExactPathValid. -/
import Derived.Test.YthackhnghkgnkaaPw
import Derived.Test.YthackhnghkgnkaaGrSz
import Derived.Test.YthackhnghkgnkaaGrEq
import Derived.Test.YthackhnghkgnkaaGrTo
import Derived.Deep.RegionHeld3
import Derived.Deep.RegionWith
import Derived.Deep.Cut
import Derived.Deep.CutRange
namespace Go.Proofs.Ythackhnghkgnkaa
open Go.RowKit

set_option maxHeartbeats 2000000 in
set_option maxRecDepth 100000 in
theorem lawPv_any (e : Gp) (C : Nat → Value) (p : List Int) (P : Option Addr) (capP bp op : Nat) (w : World) (hL : Lay.gra.lies w w.heap.size e C) (hlp : p.length ≤ maxLen) (hI : Ints w w.heap.size P bp op p) :
    Calls Try.prog 6 #[.agg #[C 0, C 1], .slice P p.length capP] w fun e' w' => e' = .returned (.bool true) ∧ Below w.heap.size w w' := by
  obtain ⟨W1, hW1⟩ : ∃ W1, W1 = w.alloc (.cells #[C 0, C 1] 25) := ⟨_, rfl⟩
  have hb0 : Below w.heap.size w W1 := by rw [hW1]; exact (Below.refl _ _).alloc (Nat.le_refl _) _
  have HL : Hid (Lay.gra.lies W1 W1.heap.size e C) := Lay.gra.later hL hb0 hb0.size
  have HI := Lib.hid (hI.under hb0 hb0.size)
  have HW1 := Lib.hid hW1
  have HB0 := Lib.hid hb0
  have HR0 : Hid (Row W1 w.heap.size 25 #[C 0, C 1]) := by rw [hW1]; exact Row.new _ _ _
  unfold maxLen at hlp
  clear hL hI hW1 hb0
  by_cases hpb : 1048576 < p.length
  · have hpI : (1048576 : Int) < (p.length : Int) := by omega
    go_enter Try.func6, Try.ntmps6
    go_wp2_with fail
    go_ret
    rw [← HW1.out]
    exact ⟨rfl, HB0.out⟩
  have hp1 : p.length ≤ 1048576 := by omega
  have HP1 := Lib.hid hp1
  have HPm : Hid (p.length ≤ maxLen) := hlp
  obtain ⟨r, hr⟩ : ∃ r, r = room 1048576 (Lay.gra.sz e) := ⟨_, rfl⟩
  have HR := Lib.hid hr
  by_cases hbig : 1048576 < Lay.gra.sz e
  · have hneg : r < 0 := by rw [hr]; unfold room; rw [if_pos (by omega)]; omega
    clear hr hbig
    go_enter Try.func6, Try.ntmps6
    go_wp2_with fail
    rw [← HW1.out]
    refine (szGr_any e C 1048576 _ HL.out (by omega) (by omega)).mono ?_
    rintro e' w1 ⟨rfl, hb1⟩
    rw [← HR.out]
    have HB1 := Lib.hid (HB0.out.trans (hb1.mono HB0.out.size))
    clear hb1
    go_wp2_with fail
    go_ret
    exact ⟨rfl, HB1.out⟩
  have hpos : 0 ≤ r := by rw [hr]; unfold room; rw [if_neg (by omega)]; omega
  have HD : Hid (Lay.gra.sz e ≤ 1048576) := by show _ ≤ _; omega
  obtain ⟨vb, hvb⟩ : ∃ vb, vb = pathOk e p := ⟨_, rfl⟩
  have HV := Lib.hid hvb
  clear hr hvb hbig
  go_enter Try.func6, Try.ntmps6
  go_wp2_with fail
  rw [← HW1.out]
  refine (szGr_any e C 1048576 _ HL.out (by omega) (by omega)).mono ?_
  rintro e' w1 ⟨rfl, hb1⟩
  rw [← HR.out]
  have HB1 : Hid (Below W1.heap.size W1 w1) := hb1
  obtain ⟨g0, g1⟩ := (HR0.out.under hb1 HR0.out.lt).two
  clear hb1
  go_wp2_with fail
  -- the first copies, and the model's answer
  refine (toGr_any e C _ (Lay.gra.later HL.out HB1.out HB1.out.size) HD.out).mono ?_
  rintro e' w2 ⟨xa, xl, xc, ya, yl, yc, rfl, hs2, hb2⟩
  have HB2 : Hid (Below W1.heap.size W1 w2) := HB1.out.trans (hb2.mono HB1.out.size)
  have HO2 := Lib.hid (Lay.gra.sep_lies hs2)
  clear hb2 hs2 g0 g1 HB1
  go_wp2_with fail
  refine (toInts_any p P capP bp op _ HP1.out (HI.out.under HB2.out HB2.out.size)).mono ?_
  rintro e' w3 ⟨ga, rfl, hg3, hi3, hb3⟩
  have HB3 : Hid (Below W1.heap.size W1 w3) := HB2.out.trans (hb3.mono HB2.out.size)
  have HO3 := Lib.hid (Lay.gra.later HO2.out hb3 hb3.size)
  have HI3 := Lib.hid hi3.ints
  clear hb3 hi3 hg3 HB2 HO2
  go_wp2_with fail
  refine (specPv_any e (fun j => (#[.slice xa xl xc, .slice ya yl yc] : Array Value).getD j undef) p _ _ _ _ _ HO3.out HPm.out HI3.out).mono ?_
  rintro e' w4 ⟨rfl, hb4⟩
  rw [← HV.out]
  have HB4 : Hid (Below W1.heap.size W1 w4) := HB3.out.trans (hb4.mono HB3.out.size)
  clear hb4 HB3 HO3 HI3
  obtain ⟨g0, g1⟩ := (HR0.out.under HB4.out HR0.out.lt).two
  go_wp2_with fail
  -- the second copies, and the program's answer
  refine (toGr_any e C _ (Lay.gra.later HL.out HB4.out HB4.out.size) HD.out).mono ?_
  rintro e' w5 ⟨xa, xl, xc, ya, yl, yc, rfl, hs5, hb5⟩
  have HB5 : Hid (Below W1.heap.size W1 w5) := HB4.out.trans (hb5.mono HB4.out.size)
  obtain ⟨W6, hW6⟩ : ∃ W6, W6 = w5.alloc (.cells #[.slice xa xl xc, .slice ya yl yc] 30) := ⟨_, rfl⟩
  have HW6 := Lib.hid hW6
  have HR6 : Hid (Row W6 w5.heap.size 30 #[.slice xa xl xc, .slice ya yl yc]) := by rw [hW6]; exact Row.new _ _ _
  have hb6 : Below w5.heap.size w5 W6 := by rw [hW6]; exact (Below.refl _ _).alloc (Nat.le_refl _) _
  have HB6 : Hid (Below W1.heap.size W1 W6) := HB5.out.trans (hb6.mono HB5.out.size)
  have HX6 : Hid (Lay.gra.lies W6 W6.heap.size e (fun j => (#[.slice xa xl xc, .slice ya yl yc] : Array Value).getD j undef)) := Lay.gra.later (Lay.gra.sep_lies hs5) hb6 hb6.size
  clear hb5 hs5 g0 g1 HB4 hW6 hb6 HB5
  go_wp2_with fail
  rw [← HW6.out]
  refine (toInts_any p P capP bp op _ HP1.out (HI.out.under HB6.out HB6.out.size)).mono ?_
  rintro e' w7 ⟨gb, rfl, hg7, hi7, hb7⟩
  have HB7 : Hid (Below W1.heap.size W1 w7) := HB6.out.trans (hb7.mono HB6.out.size)
  have HX7 := Lib.hid (Lay.gra.later HX6.out hb7 hb7.size)
  have HI7 := Lib.hid hi7.ints
  have HR7 := Lib.hid (HR6.out.under hb7 HR6.out.lt)
  obtain ⟨f0, f1⟩ := HR7.out.two
  clear hb7 hi7 hg7 HB6 HX6 HR6
  go_wp2_with fail
  refine (implPv_any e (fun j => (#[.slice xa xl xc, .slice ya yl yc] : Array Value).getD j undef) p _ _ _ _ _ HX7.out HPm.out HI7.out).mono ?_
  rintro e' w8 ⟨rfl, hb8⟩
  rw [← HV.out]
  have HB8 : Hid (Below W1.heap.size W1 w8) := HB7.out.trans (hb8.mono HB7.out.size)
  have HX8 := Lib.hid (Lay.gra.later HX7.out hb8 hb8.size)
  have HI8 := Lib.hid (HI7.out.under hb8 hb8.size)
  have HR8 := Lib.hid (HR7.out.under hb8 HR7.out.lt)
  clear hb8 f0 f1 HB7 HX7 HI7 HR7
  obtain ⟨g0, g1⟩ := (HR0.out.under HB8.out HR0.out.lt).two
  obtain ⟨f0, f1⟩ := HR8.out.two
  go_upto_region 13 with fail
  go_cut [37] from 33 to 36 (fun bb wx => bb = .bool false ∧ Hid (Below w8.heap.size w8 wx))
  case first =>
    have HL8 : Hid (Lay.gra.lies w8.drew w8.drew.heap.size e C) := Lay.gra.later HL.out HB8.out.drew HB8.out.size
    have HX8d : Hid (Lay.gra.lies w8.drew w8.drew.heap.size e (fun j => (#[.slice xa xl xc, .slice ya yl yc] : Array Value).getD j undef)) := Lay.gra.later HX8.out (Below.refl _ _).drew (Nat.le_refl _)
    have HR8d := Lib.hid (HR8.out.under (Below.refl _ _).drew HR8.out.lt)
    go_region_with (first
      | (go_at_call 10
         with_reducible refine (toGr_any e C _ HL8.out HD.out).mono ?_
         rintro e' w9 ⟨pxa, pxl, pxc, pya, pyl, pyc, rfl, hs9, hb9⟩
         obtain ⟨o0, o1⟩ := (HR8d.out.under hb9 HR8d.out.lt).two
         have HX9 := Lib.hid (Lay.gra.later HX8d.out hb9 hb9.size)
         have HY9 := Lib.hid (Lay.gra.sep_lies hs9)
         have HB9 : Hid (Below w8.heap.size w8 w9) := (Below.refl _ _).drew.trans hb9
         clear hb9 hs9)
      | (go_at_call 12
         refine (eqGr_any e _ _ _ HX9.out HY9.out).mono ?_
         rintro e' w10 ⟨rfl, hb10⟩
         have HB10 : Hid (Below w8.heap.size w8 w10) := HB9.out.trans (hb10.mono HB9.out.size)
         clear hb10))
    all_goals
      (go_wp2_with fail
       go_meet
       exact ⟨rfl, HB10⟩)
  case rest =>
  obtain ⟨rfl, HBd⟩ := hcut
  have HBe : Hid (Below W1.heap.size W1 wc) := HB8.out.trans (HBd.out.mono HB8.out.size)
  have HIe := Lib.hid (HI8.out.under HBd.out HBd.out.size)
  clear g0 g1 f0 f1 HBd HB8 HX8 HI8 HR8
  go_wp2_with fail
  refine (toInts_any p P capP bp op _ HP1.out (HI.out.under HBe.out HBe.out.size)).mono ?_
  rintro e' wf ⟨gc, rfl, hgf, hif, hbf⟩
  have HBf : Hid (Below w.heap.size w wf) := HB0.out.trans ((HBe.out.trans (hbf.mono HBe.out.size)).mono HB0.out.size)
  have HIf := Lib.hid hif.ints
  have HIg := Lib.hid (HIe.out.under hbf hbf.size)
  clear hbf hif hgf HBe HIe
  go_wp2_with fail
  refine (eqInts_any p _ _ _ _ _ _ _ _ _ HPm.out HIg.out HIf.out).mono ?_
  rintro e' wg ⟨rfl, hbg⟩
  have HBg : Hid (Below w.heap.size w wg) := HBf.out.trans (hbg.mono HBf.out.size)
  clear hbg
  go_wp2_with fail
  go_ret
  exact ⟨rfl, HBg.out⟩

end Go.Proofs.Ythackhnghkgnkaa
