/- The walk of spec.SystemSame. -/
import Derived.Test.YtgdhmdhbpakahaaSeE
import Derived.BigQuiet
import Derived.Deep.RegionWith
namespace Go.Proofs.Ytgdhmdhbpakahaa
open Go.RowKit

set_option maxHeartbeats 4000000 in
set_option maxRecDepth 100000 in
theorem specSyS_any (p : Sy) (C : Nat → Value) (q : Sy) (D : Nat → Value) (w : World) (hA : Lay.sy.lies w w.heap.size p C) (hB : Lay.sy.lies w w.heap.size q D) (_ : Lay.sy.sz p ≤ 1048576) (_ : Lay.sy.sz q ≤ 1048576) :
    Calls Try.prog 5 #[.agg #[C 0, C 1], .agg #[D 0, D 1]] w fun e' w' => e' = .returned (.bool (sySame p q)) ∧ Below w.heap.size w w' := by
  obtain ⟨ini, ps⟩ := p
  obtain ⟨ini2, ps2⟩ := q
  obtain ⟨⟨B, cbp, b, off, F, e0, hli, hI⟩, A, cap, b1, off1, E, e1, hl, hO⟩ := sy_lies hA
  obtain ⟨⟨B2, cbp2, c2, pff2, F2, d0, hli2, hI2⟩, A2, cap2, b2, off2, E2, d1, hl2, hO2⟩ := sy_lies hB
  rw [e0, e1, d0, d1]
  obtain ⟨W1, hW1⟩ : ∃ W1, W1 = (w.alloc (.cells #[.slice B ini.length cbp, .slice A ps.length cap] 30)).alloc (.cells #[.slice B2 ini2.length cbp2, .slice A2 ps2.length cap2] 30) := ⟨_, rfl⟩
  have hrows := two_boxes w 30 #[.slice B ini.length cbp, .slice A ps.length cap] #[.slice B2 ini2.length cbp2, .slice A2 ps2.length cap2]
  rw [← hW1] at hrows
  obtain ⟨hra, hrb, hb0⟩ := hrows
  have HW1 := Lib.hid hW1
  have HB0 := Lib.hid hb0
  have HRa := Lib.hid hra
  have HRb := Lib.hid hrb
  have HI := Lib.hid (ints_of (hI.grow hb0 hb0.size))
  have HI2 := Lib.hid (ints_of (hI2.grow hb0 hb0.size))
  have HO := Lib.hid (hO.grow hb0 hb0.size)
  have HO2 := Lib.hid (hO2.grow hb0 hb0.size)
  have HLi := Lib.hid hli
  have HLi2 := Lib.hid hli2
  have hlt1 : w.heap.size + 1 < W1.heap.size := hrb.lt
  have HF : Hid (sySame ⟨ini, ps⟩ ⟨ini2, ps2⟩ = (intsSame ini ini2 && prsSame ps ps2)) := rfl
  obtain ⟨vv, hvv⟩ : ∃ v, v = sySame ⟨ini, ps⟩ ⟨ini2, ps2⟩ := ⟨_, rfl⟩
  obtain ⟨u, hu⟩ : ∃ v, v = intsSame ini ini2 := ⟨_, rfl⟩
  rw [← hvv, ← hu] at HF
  rw [← hvv]
  have HU := Lib.hid hu
  unfold maxLen at hl hl2
  clear hvv hu e0 e1 d0 d1 hA hB hO hO2 hI hI2 hb0 hW1 hli hli2 hra hrb
  go_enter Try.func5, Try.ntmps5
  go_wp2_with fail
  rw [← HW1.out]
  refine (l2Ints_any ini ini2 B B2 cbp b off cbp2 c2 pff2 W1 HLi.out HLi2.out HI.out HI2.out).mono ?_
  rintro e' w1 ⟨rfl, hb1⟩
  rw [← HU.out]
  have HB1 : Hid (Below W1.heap.size W1 w1) := hb1
  obtain ⟨g0, g1⟩ := (HRa.out.under hb1 HRa.out.lt).two
  obtain ⟨f0, f1⟩ := (HRb.out.under hb1 HRb.out.lt).two
  clear hb1
  cases u
  · have HBz : Hid (Below w.heap.size w w1) := HB0.out.trans (HB1.out.mono HB0.out.size)
    go_wp2_with fail
    go_ret
    exact ⟨ret_bool (by rw [HF.out]; rfl), HBz.out⟩
  by_cases hlen : ps.length = ps2.length
  case neg =>
    have HN : Hid (vv = false) := by show _ = _; rw [HF.out]; unfold prsSame; rw [decide_eq_false hlen]; rfl
    have hlenI : ¬ ((ps.length : Int) = (ps2.length : Int)) := by omega
    have HBz : Hid (Below w.heap.size w w1) := HB0.out.trans (HB1.out.mono HB0.out.size)
    go_wp2_with fail
    go_ret
    exact ⟨ret_bool HN.out.symm, HBz.out⟩
  have hlenI : (ps.length : Int) = (ps2.length : Int) := by omega
  have HAll : Hid (vv = (ps.zip ps2).all fun z => prSame z.1 z.2) := by show _ = _; rw [HF.out]; unfold prsSame; rw [decide_eq_true hlen, Bool.true_and, Bool.true_and]
  have HLn := Lib.hid hlen
  clear hlen HF
  go_wp2_with fail
  go_loopw [5] (fun i wl => ∃ j : Nat, j ≤ ps.length ∧ i = .int .i64 j ∧ Hid (((ps.zip ps2).take j).all (fun z => prSame z.1 z.2) = true) ∧ Hid (Below W1.heap.size W1 wl)) (fun i _ => ps.length - (intOf i).toNat)
  case atStart => exact ⟨0, Nat.zero_le _, rfl, rfl, HB1⟩
  case round =>
    clear g0 g1 f0 f1 HB1
    obtain ⟨j, hj, rfl, HT, HB⟩ := hrel
    obtain ⟨g0, g1⟩ := (HRa.out.under HB.out HRa.out.lt).two
    obtain ⟨f0, f1⟩ := (HRb.out.under HB.out HRb.out.lt).two
    have hwr : W1.heap.size ≤ wr.heap.size := HB.out.size
    have hwa : w.heap.size < wr.heap.size := by omega
    have hwb : w.heap.size + 1 < wr.heap.size := by omega
    by_cases hlt : j < ps.length
    · obtain ⟨x, hx⟩ : ∃ x, ps[j]? = some x := ⟨_, List.getElem?_eq_getElem hlt⟩
      have hlp : j < ps2.length := by have := HLn.out; omega
      obtain ⟨y, hy⟩ : ∃ y, ps2[j]? = some y := ⟨_, List.getElem?_eq_getElem hlp⟩
      obtain ⟨rfl, hbb, gc, gl⟩ := HO.out.below HB.out j x hx
      obtain ⟨rfl, hbb', fc, fl⟩ := HO2.out.below HB.out j y hy
      have c0 : wr.cell? ⟨b1, off1 + j * 2, none⟩ = some (E j 0) := gc 0 (by decide)
      have c1 : wr.cell? ⟨b1, off1 + j * 2 + 1, none⟩ = some (E j 1) := gc 1 (by decide)
      have d0 : wr.cell? ⟨b2, off2 + j * 2, none⟩ = some (E2 j 0) := fc 0 (by decide)
      have d1 : wr.cell? ⟨b2, off2 + j * 2 + 1, none⟩ = some (E2 j 1) := fc 1 (by decide)
      have HZ := Lib.hid (zip_get hx hy)
      obtain ⟨loc, es⟩ := x
      obtain ⟨loc2, es2⟩ := y
      obtain ⟨k0, A3, cap3, b3, off3, G, k1, hl3, hO3⟩ := pr_lies gl
      obtain ⟨l0, A4, cap4, b4, off4, G4, l1, hl4, hO4⟩ := pr_lies fl
      rw [k0] at c0
      rw [k1] at c1
      rw [l0] at d0
      rw [l1] at d1
      obtain ⟨W2, hW2⟩ : ∃ W2, W2 = (wr.alloc (.cells #[.int .i64 loc, .slice A3 es.length cap3] 38)).alloc (.cells #[.int .i64 loc2, .slice A4 es2.length cap4] 38) := ⟨_, rfl⟩
      have hrows := two_boxes wr 38 #[.int .i64 loc, .slice A3 es.length cap3] #[.int .i64 loc2, .slice A4 es2.length cap4]
      rw [← hW2] at hrows
      obtain ⟨hrp, hrq, hb2⟩ := hrows
      have HW2 := Lib.hid hW2
      have HRp := Lib.hid hrp
      have HRq := Lib.hid hrq
      have HB2 : Hid (Below W1.heap.size W1 W2) := HB.out.trans (hb2.mono hwr)
      have HO3 := Lib.hid (hO3.grow (hb2.mono hwr) (Nat.le_trans hwr hb2.size))
      have HO4 := Lib.hid (hO4.grow (hb2.mono hwr) (Nat.le_trans hwr hb2.size))
      have hbs : b1 < wr.heap.size := by omega
      have hbs' : b2 < wr.heap.size := by omega
      unfold maxLen at hl3 hl4
      have HFp : Hid (prSame ⟨loc, es⟩ ⟨loc2, es2⟩ = (decide (loc = loc2) && edsSame es es2)) := rfl
      have HTs := Lib.hid (alls_take_succ (f := fun z : Pr × Pr => prSame z.1 z.2) HZ.out)
      clear hx hy gl fl gc fc k0 k1 l0 l1 hO3 hO4 hW2 hrp hrq
      by_cases hloc : loc = loc2
      case neg =>
        have HN : Hid (prSame ⟨loc, es⟩ ⟨loc2, es2⟩ = false) := by show _ = _; rw [HFp.out, decide_eq_false hloc]; rfl
        have cN : (loc == loc2) = false := by rw [beq_eq_false_iff_ne]; exact hloc
        have cM : (loc != loc2) = true := by rw [bne_iff_ne]; exact hloc
        have HBz : Hid (Below w.heap.size w W2) := HB0.out.trans (HB2.out.mono HB0.out.size)
        clear hb2
        go_wp2_with fail
        rw [← HW2.out]
        go_ret
        exact ⟨ret_bool (by rw [HAll.out, alls_false HZ.out (f := fun z : Pr × Pr => prSame z.1 z.2) HN.out]), HBz.out⟩
      subst hloc
      by_cases hle : es.length = es2.length
      case neg =>
        have HN : Hid (prSame ⟨loc, es⟩ ⟨loc, es2⟩ = false) := by show _ = _; rw [HFp.out]; unfold edsSame; rw [decide_eq_false hle]; simp
        have hleI : ¬ ((es.length : Int) = (es2.length : Int)) := by omega
        have HBz : Hid (Below w.heap.size w W2) := HB0.out.trans (HB2.out.mono HB0.out.size)
        clear hb2
        go_wp2_with fail
        rw [← HW2.out]
        go_ret
        exact ⟨ret_bool (by rw [HAll.out, alls_false HZ.out (f := fun z : Pr × Pr => prSame z.1 z.2) HN.out]), HBz.out⟩
      have hleI : (es.length : Int) = (es2.length : Int) := by omega
      have HEs : Hid (prSame ⟨loc, es⟩ ⟨loc, es2⟩ = (es.zip es2).all fun z => edSame z.1 z.2) := by show _ = _; rw [HFp.out]; unfold edsSame; rw [decide_eq_true hle]; simp
      have HLe := Lib.hid hle
      clear hle HFp hb2
      obtain ⟨g2, hg2⟩ : ∃ g2, g2 = wr.heap.size := ⟨_, rfl⟩
      go_wp2_with fail
      rw [← HW2.out]
      go_loopw [8] (fun i wl => ∃ k : Nat, k ≤ es.length ∧ i = .int .i64 k ∧ Hid (((es.zip es2).take k).all (fun z => edSame z.1 z.2) = true) ∧ Hid (Below W2.heap.size W2 wl)) (fun i _ => es.length - (intOf i).toNat)
      case atStart => exact ⟨0, Nat.zero_le _, rfl, rfl, Below.refl _ _⟩
      case round =>
        clear g0 g1 f0 f1 c0 c1 d0 d1
        obtain ⟨k, hk, rfl, HT3, HB3⟩ := hrel
        have hrp3 := HRp.out.under HB3.out HRp.out.lt
        have hrq3 := HRq.out.under HB3.out HRq.out.lt
        obtain ⟨_, p1⟩ := hrp3.two
        obtain ⟨_, q1⟩ := hrq3.two
        have HB4 : Hid (Below W1.heap.size W1 wr) := HB2.out.trans (HB3.out.mono HB2.out.size)
        by_cases hlk : k < es.length
        · obtain ⟨x, hx⟩ : ∃ x, es[k]? = some x := ⟨_, List.getElem?_eq_getElem hlk⟩
          have hlq : k < es2.length := by have := HLe.out; omega
          obtain ⟨y, hy⟩ : ∃ y, es2[k]? = some y := ⟨_, List.getElem?_eq_getElem hlq⟩
          obtain ⟨rfl, hb6, gc, gl⟩ := HO3.out.below HB3.out k x hx
          obtain ⟨rfl, hb7, fc, fl⟩ := HO4.out.below HB3.out k y hy
          have c0 : wr.cell? ⟨b3, off3 + k * 10, none⟩ = some (G k 0) := gc 0 (by decide)
          have d0 : wr.cell? ⟨b4, off4 + k * 10, none⟩ = some (G4 k 0) := fc 0 (by decide)
          have c1 : wr.cell? ⟨b3, off3 + k * 10 + 1, none⟩ = some (G k 1) := gc 1 (by decide)
          have d1 : wr.cell? ⟨b4, off4 + k * 10 + 1, none⟩ = some (G4 k 1) := fc 1 (by decide)
          have c2 : wr.cell? ⟨b3, off3 + k * 10 + 2, none⟩ = some (G k 2) := gc 2 (by decide)
          have d2 : wr.cell? ⟨b4, off4 + k * 10 + 2, none⟩ = some (G4 k 2) := fc 2 (by decide)
          have c3 : wr.cell? ⟨b3, off3 + k * 10 + 3, none⟩ = some (G k 3) := gc 3 (by decide)
          have d3 : wr.cell? ⟨b4, off4 + k * 10 + 3, none⟩ = some (G4 k 3) := fc 3 (by decide)
          have c4 : wr.cell? ⟨b3, off3 + k * 10 + 4, none⟩ = some (G k 4) := gc 4 (by decide)
          have d4 : wr.cell? ⟨b4, off4 + k * 10 + 4, none⟩ = some (G4 k 4) := fc 4 (by decide)
          have c5 : wr.cell? ⟨b3, off3 + k * 10 + 5, none⟩ = some (G k 5) := gc 5 (by decide)
          have d5 : wr.cell? ⟨b4, off4 + k * 10 + 5, none⟩ = some (G4 k 5) := fc 5 (by decide)
          have c6 : wr.cell? ⟨b3, off3 + k * 10 + 6, none⟩ = some (G k 6) := gc 6 (by decide)
          have d6 : wr.cell? ⟨b4, off4 + k * 10 + 6, none⟩ = some (G4 k 6) := fc 6 (by decide)
          have c7 : wr.cell? ⟨b3, off3 + k * 10 + 7, none⟩ = some (G k 7) := gc 7 (by decide)
          have d7 : wr.cell? ⟨b4, off4 + k * 10 + 7, none⟩ = some (G4 k 7) := fc 7 (by decide)
          have c8 : wr.cell? ⟨b3, off3 + k * 10 + 8, none⟩ = some (G k 8) := gc 8 (by decide)
          have d8 : wr.cell? ⟨b4, off4 + k * 10 + 8, none⟩ = some (G4 k 8) := fc 8 (by decide)
          have c9 : wr.cell? ⟨b3, off3 + k * 10 + 9, none⟩ = some (G k 9) := gc 9 (by decide)
          have d9 : wr.cell? ⟨b4, off4 + k * 10 + 9, none⟩ = some (G4 k 9) := fc 9 (by decide)
          have HG := Lib.hid (Lay.ed.later (Lay.ed.more gl HB3.out.size) (Below.refl _ _).drew (Nat.le_refl _))
          have HG' := Lib.hid (Lay.ed.later (Lay.ed.more fl HB3.out.size) (Below.refl _ _).drew (Nat.le_refl _))
          have HZ2 := Lib.hid (zip_get hx hy)
          obtain ⟨v, hv⟩ : ∃ v, v = edSame x y := ⟨_, rfl⟩
          have HV := Lib.hid hv
          have HTs2 := Lib.hid (alls_take_succ (f := fun z : Ed × Ed => edSame z.1 z.2) HZ2.out)
          clear gl fl gc fc hx hy hv hrp3 hrq3
          go_wp2_with fail
          go_still_tail 10, (by kernel_rfl)
          go_wp2_with fail
          refine (specEdS_any x (G k) y (G4 k) wr.drew HG.out HG'.out).mono ?_
          rintro e' w5 ⟨rfl, hb5⟩
          rw [← HV.out]
          have HB5 : Hid (Below _ W2 w5) := HB3.out.drew.trans (hb5.mono HB3.out.size)
          have HB6 : Hid (Below w.heap.size w w5) := HB0.out.trans ((HB2.out.trans (HB5.out.mono HB2.out.size)).mono HB0.out.size)
          clear hb5
          cases v
          · have HN : Hid (prSame ⟨loc, es⟩ ⟨loc, es2⟩ = false) := by show _ = _; rw [HEs.out, alls_false HZ2.out (f := fun z : Ed × Ed => edSame z.1 z.2) HV.out.symm]
            go_wp2_with fail
            go_ret
            exact ⟨ret_bool (by rw [HAll.out, alls_false HZ.out (f := fun z : Pr × Pr => prSame z.1 z.2) HN.out]), HB6.out⟩
          · have HT4 : Hid (((es.zip es2).take (k + 1)).all (fun z => edSame z.1 z.2) = true) := by show _ = _; rw [HTs2.out, HT3.out, ← HV.out]; rfl
            go_wp2_with fail
            go_roundw
            case rel => exact ⟨k + 1, by omega, by go_num, HT4, HB5⟩
            case measure => simp [intOf]; omega
        · have hkk : k = es.length := by omega
          subst hkk
          have HY : Hid (prSame ⟨loc, es⟩ ⟨loc, es2⟩ = true) := by
            have := HT3.out
            rw [show es.length = (es.zip es2).length by rw [List.length_zip, HLe.out, Nat.min_self], List.take_length] at this
            show _ = _
            rw [HEs.out]
            exact this
          have HT5 : Hid (((ps.zip ps2).take (j + 1)).all (fun z => prSame z.1 z.2) = true) := by show _ = _; rw [HTs.out, HT.out, HY.out]; rfl
          go_wp2_with fail
          go_roundw
          case rel => exact ⟨j + 1, by omega, by go_num, HT5, HB4⟩
          case measure => simp [intOf]; omega
    · have hjj : j = ps.length := by omega
      subst hjj
      have HFin : Hid (vv = true) := by
        have := HT.out
        rw [show ps.length = (ps.zip ps2).length by rw [List.length_zip, HLn.out, Nat.min_self], List.take_length] at this
        show _ = _
        rw [HAll.out]
        exact this
      have HBz : Hid (Below w.heap.size w wr) := HB0.out.trans (HB.out.mono HB0.out.size)
      go_wp2_with fail
      go_ret
      exact ⟨ret_bool HFin.out.symm, HBz.out⟩

end Go.Proofs.Ytgdhmdhbpakahaa
