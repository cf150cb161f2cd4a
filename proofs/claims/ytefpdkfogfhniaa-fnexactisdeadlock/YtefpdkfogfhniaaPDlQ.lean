/- For every argument that can be read the law FnExactIsDeadlock returns true, and its arguments read afterwards as they did before. No condition beyond the statement's own. -/
import Derived.Test.YtefpdkfogfhniaaRows
import Derived.Test.YtefpdkfogfhniaaJ06
import Derived.ChangeOld
import Derived.Test.YtefpdkfogfhniaaMo6Q
import Derived.Test.YtefpdkfogfhniaaSzAQ
import Derived.Test.YtefpdkfogfhniaaEqAQ
import Derived.Test.YtefpdkfogfhniaaToAQ
import Derived.Deep.RegionHeld3
import Derived.Deep.RegionWith
import Derived.Deep.Cut
import Derived.Deep.CutRange
namespace Go.Proofs.Ytefpdkfogfhniaa
open Go.RowKit

set_option maxHeartbeats 4000000 in
set_option maxRecDepth 100000 in
theorem lawDl_any (e : Sy) (C : Nat → Value) (f : St) (D : Nat → Value) (w : World) (hL : Lay.sy.lies w w.heap.size e C) (hM : Lay.sta.lies w w.heap.size f D) :
    Calls Try.prog 5 #[.agg #[C 0, C 1], .agg #[D 0, D 1]] w fun e' w' => e' = .returned (.bool true) ∧ Below w.heap.size w w' := by
  obtain ⟨W1, hW1⟩ : ∃ W1, W1 = (w.alloc (.cells #[C 0, C 1] 25)).alloc (.cells #[D 0, D 1] 40) := ⟨_, rfl⟩
  have hrows := rows2 w 25 40 #[C 0, C 1] #[D 0, D 1]
  rw [← hW1] at hrows
  obtain ⟨hra, hrb, hb0⟩ := hrows
  have HL : Hid (Lay.sy.lies W1 W1.heap.size e C) := Lay.sy.later hL hb0 hb0.size
  have HM : Hid (Lay.sta.lies W1 W1.heap.size f D) := Lay.sta.later hM hb0 hb0.size
  have HW1 := Lib.hid hW1
  have HB0 := Lib.hid hb0
  have HRa := Lib.hid hra
  have HRb := Lib.hid hrb
  have hlt1 : w.heap.size + 1 < W1.heap.size := hrb.lt
  clear hL hM hW1 hb0 hra hrb
  have hr1c := room_cases 1048576 (Lay.sy.sz e)
  have hr1l : room 1048576 (Lay.sy.sz e) ≤ 1048576 := room_le (by omega)
  obtain ⟨r, hr⟩ : ∃ r, r = room 1048576 (Lay.sy.sz e) := ⟨_, rfl⟩
  rw [← hr] at hr1c hr1l
  have HR := Lib.hid hr
  by_cases hneg : r < 0
  · clear hr
    go_enter Try.func5, Try.ntmps5
    go_wp2_with fail
    rw [← HW1.out]
    refine (szSy_any e C 1048576 _ HL.out (by omega) (by omega)).mono ?_
    rintro e' w1 ⟨rfl, hb1⟩
    rw [← HR.out]
    have HB1 := Lib.hid (HB0.out.trans (hb1.mono HB0.out.size))
    clear hb1
    go_wp2_with fail
    go_ret
    exact ⟨rfl, HB1.out⟩
  have hd0 : Lay.sy.sz e ≤ 1048576 := by
    rw [hr] at hneg
    unfold room at hneg
    by_cases h : (1048576 : Int) < (Lay.sy.sz e : Nat)
    · rw [if_pos h] at hneg; omega
    · omega
  have HD0 := Lib.hid hd0
  have hr2c := room_cases r (Lay.sta.sz f)
  obtain ⟨s, hs⟩ : ∃ s, s = room r (Lay.sta.sz f) := ⟨_, rfl⟩
  rw [← hs] at hr2c
  have HS := Lib.hid hs
  have HD1 : Hid (0 ≤ s → Lay.sta.sz f ≤ 1048576) := fun h0 => by
    rw [hs] at h0
    unfold room at h0
    by_cases h : r < (Lay.sta.sz f : Nat)
    · rw [if_pos h] at h0; omega
    · omega
  clear hr hs hd0
  go_enter Try.func5, Try.ntmps5
  go_wp2_with fail
  rw [← HW1.out]
  refine (szSy_any e C 1048576 _ HL.out (by omega) (by omega)).mono ?_
  rintro e' w1 ⟨rfl, hb1⟩
  rw [← HR.out]
  have HB1 : Hid (Below W1.heap.size W1 w1) := hb1
  obtain ⟨f0, f1⟩ := (HRb.out.under hb1 HRb.out.lt).two
  clear hb1
  go_wp2_with fail
  refine (szSt_any f D r _ (Lay.sta.later HM.out HB1.out HB1.out.size) (by omega) (by omega)).mono ?_
  rintro e' w2 ⟨rfl, hb2⟩
  rw [← HS.out]
  have HB2 : Hid (Below W1.heap.size W1 w2) := HB1.out.trans (hb2.mono HB1.out.size)
  clear hb2 HB1 f0 f1
  by_cases hneg2 : s < 0
  · have HBz := Lib.hid (HB0.out.trans (HB2.out.mono HB0.out.size))
    go_wp2_with fail
    go_ret
    exact ⟨rfl, HBz.out⟩
  have HD1' := Lib.hid (HD1.out (by omega))
  clear HD1 hr1c hr2c hr1l
  obtain ⟨vb, hvb⟩ : ∃ vb, vb = deadB e f := ⟨_, rfl⟩
  have HV := Lib.hid hvb
  clear hvb
  have hra2 := HRa.out.under HB2.out HRa.out.lt
  have hrb2 := HRb.out.under HB2.out HRb.out.lt
  obtain ⟨g0, g1⟩ := hra2.two
  obtain ⟨f0, f1⟩ := hrb2.two
  have HLd : Hid (Lay.sy.lies w2.drew w2.drew.heap.size e C) := Lay.sy.later HL.out HB2.out.drew HB2.out.size
  have HMd : Hid (Lay.sta.lies w2.drew w2.drew.heap.size f D) := Lay.sta.later HM.out HB2.out.drew HB2.out.size
  have HRbd := Lib.hid (hrb2.under (Below.refl _ _).drew hrb2.lt)
  have hz2 : W1.heap.size ≤ w2.heap.size := HB2.out.size
  clear hra2 hrb2
  go_upto_region 8 with fail
  go_cut [6] from 20 to 24 (fun bb wx => bb = .bool vb ∧ Hid (Below W1.heap.size W1 wx))
  case first =>
    go_region_with (first
      | (go_at_call 9
         refine (toSy_any e C _ HLd.out HD0.out).mono ?_
         rintro e' w8 ⟨pxa, pxl, pxc, pya, pyl, pyc, rfl, hs8, hb8⟩
         obtain ⟨o0, o1⟩ := (HRbd.out.under hb8 HRbd.out.lt).two
         have HX9 := Lib.hid (Lay.sy.sep_lies hs8)
         have HM9 := Lib.hid (Lay.sta.later HMd.out hb8 hb8.size)
         have HB9 : Hid (Below W1.heap.size W1 w8) := HB2.out.trans (((Below.refl _ _).drew.trans hb8).mono hz2)
         clear hb8 hs8)
      | (go_at_call 18
         refine (toSt_any f D _ HM9.out HD1'.out).mono ?_
         rintro e' w9 ⟨qxa, qxl, qxc, qya, qyl, qyc, rfl, hs9, hb9⟩
         have HX10 := Lib.hid (Lay.sy.later HX9.out hb9 hb9.size)
         have HY10 := Lib.hid (Lay.sta.sep_lies hs9)
         have HB10 : Hid (Below W1.heap.size W1 w9) := HB9.out.trans (hb9.mono HB9.out.size)
         clear hb9 hs9)
      | (go_at_call 23
         refine (deadS_any e _ f _ _ HX10.out HY10.out HD0.out HD1'.out).mono ?_
         rintro e' w10 ⟨rfl, hb10⟩
         have HB11 : Hid (Below W1.heap.size W1 w10) := HB10.out.trans (hb10.mono HB10.out.size)
         clear hb10))
    all_goals
      (go_wp2_with fail
       go_meet
       exact ⟨by rw [HV.out], HB11⟩)
  case rest =>
  clear g0 g1 f0 f1 HLd HMd HRbd HB2
  obtain ⟨rfl, HBc⟩ := hcut
  have hzc : W1.heap.size ≤ wc.heap.size := HBc.out.size
  obtain ⟨g0, g1⟩ := (HRa.out.under HBc.out HRa.out.lt).two
  go_wp2_with fail
  -- the second copies, and the program's answer
  refine (toSy_any e C _ (Lay.sy.later HL.out HBc.out HBc.out.size) HD0.out).mono ?_
  rintro e' w4 ⟨xa, xl, xc, ya, yl, yc, rfl, hs4, hb4⟩
  have HB4 : Hid (Below W1.heap.size W1 w4) := HBc.out.trans (hb4.mono HBc.out.size)
  have hz4 : W1.heap.size ≤ w4.heap.size := HB4.out.size
  obtain ⟨W5, hW5⟩ : ∃ W5, W5 = w4.alloc (.cells #[.slice xa xl xc, .slice ya yl yc] 33) := ⟨_, rfl⟩
  have HW5 := Lib.hid hW5
  have HR5 : Hid (Row W5 w4.heap.size 33 #[.slice xa xl xc, .slice ya yl yc]) := by rw [hW5]; exact Row.new _ _ _
  have hb5 : Below w4.heap.size w4 W5 := by rw [hW5]; exact (Below.refl _ _).alloc (Nat.le_refl _) _
  have HB5 : Hid (Below W1.heap.size W1 W5) := HB4.out.trans (hb5.mono HB4.out.size)
  have HX5 : Hid (Lay.sy.lies W5 W5.heap.size e (fun j => (#[.slice xa xl xc, .slice ya yl yc] : Array Value).getD j undef)) := Lay.sy.later (Lay.sy.sep_lies hs4) hb5 hb5.size
  obtain ⟨f0, f1⟩ := (HRb.out.under HB4.out HRb.out.lt).two
  have hl4 : w.heap.size + 1 < w4.heap.size := by omega
  clear hb4 hs4 g0 g1 HBc hW5 hb5
  go_wp2_with fail
  rw [← HW5.out]
  refine (toSt_any f D _ (Lay.sta.later HM.out HB5.out HB5.out.size) HD1'.out).mono ?_
  rintro e' w5 ⟨txa, txl, txc, tya, tyl, tyc, rfl, hs6, hb6⟩
  have HB6 : Hid (Below W1.heap.size W1 w5) := HB5.out.trans (hb6.mono HB5.out.size)
  have hr5 := HR5.out.under hb6 HR5.out.lt
  have HX6 := Lib.hid (Lay.sy.later HX5.out hb6 hb6.size)
  obtain ⟨W7, hW7⟩ : ∃ W7, W7 = w5.alloc (.cells #[.slice txa txl txc, .slice tya tyl tyc] 28) := ⟨_, rfl⟩
  have HW7 := Lib.hid hW7
  have HR7 : Hid (Row W7 w5.heap.size 28 #[.slice txa txl txc, .slice tya tyl tyc]) := by rw [hW7]; exact Row.new _ _ _
  have hb7 : Below w5.heap.size w5 W7 := by rw [hW7]; exact (Below.refl _ _).alloc (Nat.le_refl _) _
  have HB7 : Hid (Below W1.heap.size W1 W7) := HB6.out.trans (hb7.mono HB6.out.size)
  have HX7 := Lib.hid (Lay.sy.later HX6.out hb7 hb7.size)
  have HY7 : Hid (Lay.sta.lies W7 W7.heap.size f (fun j => (#[.slice txa txl txc, .slice tya tyl tyc] : Array Value).getD j undef)) := Lay.sta.later (Lay.sta.sep_lies hs6) hb7 hb7.size
  obtain ⟨h0, h1⟩ := hr5.two
  have hl5 : w4.heap.size < w5.heap.size := hr5.lt
  have HR57 := Lib.hid (hr5.under hb7 hr5.lt)
  clear hs6 hb6 hr5 hW7 hb7 HB5 HX5 HX6 f0 f1 HB4
  go_wp2_with fail
  rw [← HW7.out]
  refine (deadI_any e (fun j => (#[.slice xa xl xc, .slice ya yl yc] : Array Value).getD j undef) f (fun j => (#[.slice txa txl txc, .slice tya tyl tyc] : Array Value).getD j undef) _ HX7.out HY7.out HD0.out HD1'.out).mono ?_
  rintro e' w8 ⟨rfl, hb8⟩
  rw [← HV.out]
  have HB8 : Hid (Below W1.heap.size W1 w8) := HB7.out.trans (hb8.mono HB7.out.size)
  have HX8 := Lib.hid (Lay.sy.later HX7.out hb8 hb8.size)
  have HY8 := Lib.hid (Lay.sta.later HY7.out hb8 hb8.size)
  have HR58 := Lib.hid (HR57.out.under hb8 HR57.out.lt)
  have HR78 := Lib.hid (HR7.out.under hb8 HR7.out.lt)
  have hz8 : W1.heap.size ≤ w8.heap.size := HB8.out.size
  clear hb8 h0 h1 HX7 HY7 HR57 HR7 HB7 HB6
  have hr1 := HRa.out.under HB8.out HRa.out.lt
  obtain ⟨g0, g1⟩ := hr1.two
  obtain ⟨h0, h1⟩ := HR58.out.two
  have l5 : w4.heap.size < w8.heap.size := HR58.out.lt
  go_upto_region 14 with fail
  go_cut [39] from 35 to 38 (fun bb wx => bb = .bool false ∧ Hid (Below w8.heap.size w8 wx))
  case first =>
    have HL8 : Hid (Lay.sy.lies w8.drew w8.drew.heap.size e C) := Lay.sy.later HL.out HB8.out.drew HB8.out.size
    have HX8d : Hid (Lay.sy.lies w8.drew w8.drew.heap.size e (fun j => (#[.slice xa xl xc, .slice ya yl yc] : Array Value).getD j undef)) := Lay.sy.later HX8.out (Below.refl _ _).drew (Nat.le_refl _)
    have HR8 := Lib.hid (HR58.out.under (Below.refl _ _).drew HR58.out.lt)
    go_region_with (first
      | (go_at_call 9
         refine (toSy_any e C _ HL8.out HD0.out).mono ?_
         rintro e' w9 ⟨pxa, pxl, pxc, pya, pyl, pyc, rfl, hs9, hb9⟩
         obtain ⟨o0, o1⟩ := (HR8.out.under hb9 HR8.out.lt).two
         have HX9 := Lib.hid (Lay.sy.later HX8d.out hb9 hb9.size)
         have HY9 := Lib.hid (Lay.sy.sep_lies hs9)
         have HB9 : Hid (Below w8.heap.size w8 w9) := (Below.refl _ _).drew.trans hb9
         clear hb9 hs9)
      | (go_at_call 12
         refine (eqSy_any e _ _ _ HX9.out HY9.out).mono ?_
         rintro e' w10 ⟨rfl, hb10⟩
         have HB10 : Hid (Below w8.heap.size w8 w10) := HB9.out.trans (hb10.mono HB9.out.size)
         clear hb10))
    all_goals
      (go_wp2_with fail
       go_meet
       exact ⟨rfl, HB10⟩)
  case rest =>
  clear g0 g1 h0 h1 hr1
  obtain ⟨rfl, HBd⟩ := hcut
  have HBe : Hid (Below W1.heap.size W1 wc) := HB8.out.trans (HBd.out.mono HB8.out.size)
  have HYe := Lib.hid (Lay.sta.later HY8.out HBd.out HBd.out.size)
  have HRe := Lib.hid (HR78.out.under HBd.out HR78.out.lt)
  clear HBd HX8 HY8 HR58 HR78 HB8
  obtain ⟨f0, f1⟩ := (HRb.out.under HBe.out HRb.out.lt).two
  obtain ⟨h0, h1⟩ := HRe.out.two
  have HLf : Hid (Lay.sta.lies wc.drew wc.drew.heap.size f D) := Lay.sta.later HM.out HBe.out.drew HBe.out.size
  have HXf : Hid (Lay.sta.lies wc.drew wc.drew.heap.size f (fun j => (#[.slice txa txl txc, .slice tya tyl tyc] : Array Value).getD j undef)) := Lay.sta.later HYe.out (Below.refl _ _).drew (Nat.le_refl _)
  have HRf := Lib.hid (HRe.out.under (Below.refl _ _).drew HRe.out.lt)
  have HWf : Hid (Below w.heap.size w wc.drew) := HB0.out.trans (HBe.out.drew.mono HB0.out.size)
  go_wp2_with fail
  go_region_with (first
    | (go_at_call 18
       refine (toSt_any f D _ HLf.out HD1'.out).mono ?_
       rintro e' wg ⟨qxa, qxl, qxc, qya, qyl, qyc, rfl, hsg, hbg⟩
       obtain ⟨o0, o1⟩ := (HRf.out.under hbg HRf.out.lt).two
       have HXg := Lib.hid (Lay.sta.later HXf.out hbg hbg.size)
       have HYg := Lib.hid (Lay.sta.sep_lies hsg)
       have HWg : Hid (Below w.heap.size w wg) := HWf.out.trans (hbg.mono HWf.out.size)
       clear hbg hsg)
    | (go_at_call 11
       refine (eqSt_any f _ _ _ HXg.out HYg.out).mono ?_
       rintro e' wh ⟨rfl, hbh⟩
       have HWh : Hid (Below w.heap.size w wh) := HWg.out.trans (hbh.mono HWg.out.size)
       clear hbh))
  all_goals
    (go_wp2_with fail
     go_ret
     exact ⟨rfl, HWh.out⟩)

end Go.Proofs.Ytefpdkfogfhniaa

namespace Go.Proofs.Ytefpdkfogfhniaa
open Go.ChangeShapes Go.WideShapes Go.ChangeAt Go.RowKit

theorem Try.own : ownKnob Try.prog.godebug = none := by kernel_rfl
theorem Try.laidOut : laidOutB Try.prog = true := by kernel_rfl

set_option maxRecDepth 100000 in
theorem isDeadlock_lifted (os : Os) (started : os.Started) (H : Type) (enc : TypeId × Value → H) :
    ReturnsInHanded {} Try.checked os 5 .any (Rows.fnExactIsDeadlockSpec.pre6 enc Try.prog Try.f5 Rows.fnExactIsDeadlockRow.domain false) (Rows.fnExactIsDeadlockSpec.post enc Try.prog Try.f5 false true false false) := by
  refine returnsInHanded_of_change (C := Try.checked) Try.own started (by kernel_rfl) Try.func5
    (ChangeSpec.witness6 (enc := enc) (C := Try.checked) false ⟨#[], #[.agg #[.slice none 0 0, .slice none 0 0], .agg #[.slice none 0 0, .slice none 0 0]], []⟩ 8 (by kernel_rfl) (by kernel_rfl) (by kernel_rfl) (by kernel_rfl)) ?_
  intro W base args ds gs before hval0 hW hcnd _
  have hval : ∀ (j : Nat) t v, Try.f5.params[j]? = some t → args[j]? = some v → Value.okWide Try.prog W .any base t v := hval0
  have hW' := hW
  obtain ⟨p, q, hA0, hV, rfl, hfz, hnd⟩ := hW
  have hA : DataW.TrodAll enc Try.prog W 0 (fun _ => true) true Try.f5.params.toList args.toList ds p := hA0
  rw [Try.params5] at hA hval
  obtain ⟨v0, vs0, d0, ds0, p0, q0, hargs, rfl, rfl, h0, r0⟩ := trodAll_cons hA
  obtain ⟨v1, vs1, d1, ds1, p1, q1, rfl, rfl, rfl, h1, r1⟩ := trodAll_cons r0
  obtain ⟨rfl, rfl, rfl⟩ := trodAll_nil r1
  obtain rfl : args = #[v0, v1] := by cases args; simp_all
  obtain ⟨rfl, rfl⟩ := trodVars_none hV
  have k0 := h0
  have lt0 : ∀ x ∈ p0, x.block < W.heap.size := by obtain ⟨m, hm⟩ := k0; exact DataW.trod_lt m _ _ _ hm
  have k1 := h1
  have lt1 : ∀ x ∈ p1, x.block < W.heap.size := by obtain ⟨m, hm⟩ := k1; exact DataW.trod_lt m _ _ _ hm
  obtain ⟨e0, C0, rfl, hL0⟩ := open_system (hval 0 25 v0 rfl rfl) h0
  obtain ⟨e1, C1, rfl, hL1⟩ := open_state (hval 1 40 v1 rfl rfl) h1
  clear hA0 hval0
  refine (lawDl_any e0 C0 e1 C1 W hL0 hL1).mono fun e' W' ⟨he, bel⟩ => ?_
  subst he
  exact ⟨_, rfl, _, _, _, [], _, [], hW', trodAll_mk1 (shut_bool Try.underlying4 _), (trodAll_cons_mk (Below.trod Try.laidOut (by kernel_rfl) (of_decide_eq_true (by kernel_rfl)) k0 bel lt0) (trodAll_cons_mk (Below.trod Try.laidOut (by kernel_rfl) (of_decide_eq_true (by kernel_rfl)) k1 bel lt1) trodAll_mk0)), rfl, bel.frame _, fun h => by cases h⟩

theorem isDeadlock_holds : Rows.FnExactIsDeadlockSaid :=
  OpenClaim.holds_of_wide 5 Try.f5 rfl rfl rfl rfl rfl rfl rfl ⟨rfl, rfl, rfl, rfl, rfl⟩ rfl rfl rfl rfl rfl (by kernel_rfl) Try.func5 (by kernel_rfl)
    (of_decide_eq_true (by kernel_rfl)) (by unfold Func.isWrapper; first | (rw [if_pos (by decide +kernel)]; kernel_rfl) | (rw [if_neg (by decide +kernel)]; exact ⟨rfl, rfl⟩))
    (fun os started H enc _ => isDeadlock_lifted os started H enc)
#print axioms isDeadlock_holds

end Go.Proofs.Ytefpdkfogfhniaa
