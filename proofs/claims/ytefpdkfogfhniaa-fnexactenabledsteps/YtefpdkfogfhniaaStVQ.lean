/- The walks of spec.StateValid and impl.StateValid. -/
import Derived.Test.YtefpdkfogfhniaaJ08
import Derived.Test.YtefpdkfogfhniaaStaQ
import Derived.BigQuiet
namespace Go.Proofs.Ytefpdkfogfhniaa
open Go.RowKit

def plcOk (q : Int × Pr) : Bool := decide (0 ≤ q.1) && decide (q.1 < q.2.loc)
/-- The state belongs to the system. -/
def stOk (e : Sy) (f : St) : Bool := syOk e && (decide (f.locs.length = e.ps.length) && (valsOk f.vals && (f.locs.zip e.ps).all plcOk))

theorem plcOk_of {z : Int} {p : Pr} (h0 : ¬ z < 0) (h1 : ¬ p.loc ≤ z) : plcOk (z, p) = true := by
  unfold plcOk
  rw [decide_eq_true (show (0 : Int) ≤ z by omega), decide_eq_true (show z < p.loc by omega)]
  rfl
theorem plcOk_neg {z : Int} {p : Pr} (h0 : z < 0) : plcOk (z, p) = false := by
  unfold plcOk
  rw [decide_eq_false (show ¬ (0 : Int) ≤ z by omega)]
  rfl
theorem plcOk_big {z : Int} {p : Pr} (h1 : p.loc ≤ z) : plcOk (z, p) = false := by
  unfold plcOk
  rw [decide_eq_false (show ¬ z < p.loc by omega), Bool.and_false]

set_option maxHeartbeats 1000000 in
set_option maxRecDepth 100000 in
theorem specStV_any (e : Sy) (C : Nat → Value) (f : St) (D : Nat → Value) (w : World) (hL : Lay.sy.lies w w.heap.size e C) (hM : Lay.sta.lies w w.heap.size f D) (hd : Lay.sy.sz e ≤ 1048576) (_ : Lay.sta.sz f ≤ 1048576) :
    Calls Try.prog 35 #[.agg #[C 0, C 1], .agg #[D 0, D 1]] w fun e' w' => e' = .returned (.bool (stOk e f)) ∧ Below w.heap.size w w' := by
  obtain ⟨W1, hW1⟩ : ∃ W1, W1 = (w.alloc (.cells #[C 0, C 1] 33)).alloc (.cells #[D 0, D 1] 28) := ⟨_, rfl⟩
  have hrows := rows2 w 33 28 #[C 0, C 1] #[D 0, D 1]
  rw [← hW1] at hrows
  obtain ⟨hra, hrb, hb0⟩ := hrows
  have HL : Hid (Lay.sy.lies W1 W1.heap.size e C) := Lay.sy.later hL hb0 hb0.size
  have HM : Hid (Lay.sta.lies W1 W1.heap.size f D) := Lay.sta.later hM hb0 hb0.size
  have HW1 := Lib.hid hW1
  have HB0 := Lib.hid hb0
  have HRa := Lib.hid hra
  have HRb := Lib.hid hrb
  have HD := Lib.hid hd
  have HF : Hid (stOk e f = (syOk e && (decide (f.locs.length = e.ps.length) && (valsOk f.vals && (f.locs.zip e.ps).all plcOk)))) := rfl
  obtain ⟨vs, hvs⟩ : ∃ vs, vs = syOk e := ⟨_, rfl⟩
  have HVs := Lib.hid hvs
  obtain ⟨vv, hvv⟩ : ∃ vv, vv = valsOk f.vals := ⟨_, rfl⟩
  have HVv := Lib.hid hvv
  clear hL hM hW1 hb0 hra hrb hd hvs hvv
  go_enter Try.func35, Try.ntmps35
  go_wp2_with fail
  rw [← HW1.out]
  refine (specSy_any e C W1 HL.out HD.out).mono ?_
  rintro e' w1 ⟨rfl, hb1⟩
  rw [← HVs.out]
  have HB1 : Hid (Below w.heap.size w w1) := HB0.out.trans (hb1.mono HB0.out.size)
  have hL1 := Lay.sy.later HL.out hb1 hb1.size
  have hM1 := Lay.sta.later HM.out hb1 hb1.size
  obtain ⟨g0, g1⟩ := (HRa.out.under hb1 HRa.out.lt).two
  obtain ⟨f0, f1⟩ := (HRb.out.under hb1 HRb.out.lt).two
  obtain ⟨ini, ps⟩ := e
  obtain ⟨locs, vals⟩ := f
  obtain ⟨_, A1, cap1, b1, off1, E1, q1, hl1, hO1⟩ := sy_lies hL1
  obtain ⟨⟨A2, cap2, b2, off2, E2, q2, hl2, hO2⟩, A3, cap3, b3, off3, E3, q3, hl3, hO3⟩ := sta_lies hM1
  rw [q1] at g1
  rw [q2] at f0
  rw [q3] at f1
  have HO1 := Lib.hid hO1
  have HO2 := Lib.hid (ints_of hO2)
  have HO3 := Lib.hid (ints_of hO3)
  have HL3 := Lib.hid hl3
  unfold maxLen at hl1 hl2 hl3
  clear hb1 hL1 hM1 HL HM HRa HRb q1 q2 q3 hO1 hO2 hO3 HW1 g0
  dsimp only at HF HVv
  cases vs
  · go_wp2_with fail
    go_ret
    exact ⟨ret_bool (by rw [HF.out, ← HVs.out]; rfl), HB1.out⟩
  by_cases hlen : locs.length = ps.length
  case neg =>
    have hlenI : ¬ ((locs.length : Int) = (ps.length : Int)) := by omega
    go_wp2_with fail
    go_ret
    exact ⟨ret_bool (by rw [HF.out, ← HVs.out, decide_eq_false hlen]; rfl), HB1.out⟩
  have hlenI : (locs.length : Int) = (ps.length : Int) := by omega
  have HLn := Lib.hid hlen
  clear hlen
  go_wp2_with fail
  refine (specVals_any vals A3 cap3 b3 off3 w1 HL3.out HO3.out).mono ?_
  rintro e' w2 ⟨rfl, rfl⟩
  rw [← HVv.out]
  cases vv
  · go_wp2_with fail
    go_ret
    exact ⟨ret_bool (by rw [HF.out, ← HVs.out, ← HVv.out, decide_eq_true HLn.out]; rfl), HB1.out⟩
  have HF2 : Hid (stOk ⟨ini, ps⟩ ⟨locs, vals⟩ = (locs.zip ps).all plcOk) := by show _ = _; rw [HF.out, ← HVs.out, ← HVv.out, decide_eq_true HLn.out]; rfl
  clear HF HO3 f1
  go_wp2_with fail
  go_loopw [5] (fun i wl => ∃ j n : Nat, j ≤ locs.length ∧ i = .int .i64 j ∧ Hid (((locs.zip ps).take j).all plcOk = true) ∧ wl = w1.drewN n) (fun i _ => locs.length - (intOf i).toNat)
  case atStart => exact ⟨0, 0, Nat.zero_le _, rfl, rfl, rfl⟩
  case round =>
    obtain ⟨j, n, hj, rfl, HT, rfl⟩ := hrel
    by_cases hlt : j < locs.length
    · obtain ⟨z, hz⟩ : ∃ z, locs[j]? = some z := ⟨_, List.getElem?_eq_getElem hlt⟩
      have hlp : j < ps.length := by have := HLn.out; omega
      obtain ⟨p, hp⟩ : ∃ p, ps[j]? = some p := ⟨_, List.getElem?_eq_getElem hlp⟩
      obtain ⟨rfl, hb, c0⟩ := HO2.out j z hz
      obtain ⟨rfl, hb', gc, gl⟩ := HO1.out j p hp
      have d0 : w1.cell? ⟨b1, off1 + j * 2, none⟩ = some (E1 j 0) := gc 0 (by decide)
      rw [show E1 j 0 = .int .i64 p.loc from gl.1] at d0
      have HZ := Lib.hid (zip_get hz hp)
      obtain ⟨L, hL⟩ : ∃ L, L = p.loc := ⟨_, rfl⟩
      rw [← hL] at d0
      have HLp := Lib.hid hL
      clear hz hp gc gl hL
      by_cases hz0 : z < 0
      · go_wp2_with fail
        go_quiet (fail)
        go_wp2_with fail
        go_ret
        exact ⟨ret_bool (by rw [HF2.out, alls_false HZ.out (plcOk_neg hz0)]), below_drewN (below_drewN HB1.out _) _⟩
      by_cases hz1 : L ≤ z
      · go_wp2_with fail
        go_quiet (fail)
        go_wp2_with fail
        go_ret
        exact ⟨ret_bool (by rw [HF2.out, alls_false HZ.out (plcOk_big (by rw [← HLp.out]; exact hz1))]), below_drewN (below_drewN HB1.out _) _⟩
      have HT2 : Hid (((locs.zip ps).take (j + 1)).all plcOk = true) := by show _ = _; rw [alls_take_succ HZ.out, HT.out, plcOk_of hz0 (by rw [← HLp.out]; exact hz1)]; rfl
      go_wp2_with fail
      go_quiet (fail)
      go_wp2_with fail
      go_roundw
      case rel => exact ⟨j + 1, _, by omega, by go_num, HT2, rfl⟩
      case measure => simp [intOf]; omega
    · have hjj : j = locs.length := by omega
      subst hjj
      have HFt : Hid ((locs.zip ps).all plcOk = true) := by
        have := HT.out
        rw [show locs.length = (locs.zip ps).length by rw [List.length_zip, HLn.out, Nat.min_self], List.take_length] at this
        exact this
      go_wp2_with fail
      go_ret
      exact ⟨ret_bool (by rw [HF2.out, HFt.out]), below_drewN HB1.out _⟩

set_option maxHeartbeats 1000000 in
set_option maxRecDepth 100000 in
theorem implStV_any (e : Sy) (C : Nat → Value) (f : St) (D : Nat → Value) (w : World) (hL : Lay.sy.lies w w.heap.size e C) (hM : Lay.sta.lies w w.heap.size f D) (hd : Lay.sy.sz e ≤ 1048576) (_ : Lay.sta.sz f ≤ 1048576) :
    Calls Try.prog 40 #[.agg #[C 0, C 1], .agg #[D 0, D 1]] w fun e' w' => e' = .returned (.bool (stOk e f)) ∧ Below w.heap.size w w' := by
  obtain ⟨W1, hW1⟩ : ∃ W1, W1 = (w.alloc (.cells #[C 0, C 1] 33)).alloc (.cells #[D 0, D 1] 28) := ⟨_, rfl⟩
  have hrows := rows2 w 33 28 #[C 0, C 1] #[D 0, D 1]
  rw [← hW1] at hrows
  obtain ⟨hra, hrb, hb0⟩ := hrows
  have HL : Hid (Lay.sy.lies W1 W1.heap.size e C) := Lay.sy.later hL hb0 hb0.size
  have HM : Hid (Lay.sta.lies W1 W1.heap.size f D) := Lay.sta.later hM hb0 hb0.size
  have HW1 := Lib.hid hW1
  have HB0 := Lib.hid hb0
  have HRa := Lib.hid hra
  have HRb := Lib.hid hrb
  have HD := Lib.hid hd
  have HF : Hid (stOk e f = (syOk e && (decide (f.locs.length = e.ps.length) && (valsOk f.vals && (f.locs.zip e.ps).all plcOk)))) := rfl
  obtain ⟨vs, hvs⟩ : ∃ vs, vs = syOk e := ⟨_, rfl⟩
  have HVs := Lib.hid hvs
  obtain ⟨vv, hvv⟩ : ∃ vv, vv = valsOk f.vals := ⟨_, rfl⟩
  have HVv := Lib.hid hvv
  clear hL hM hW1 hb0 hra hrb hd hvs hvv
  go_enter Try.func40, Try.ntmps40
  go_wp2_with fail
  rw [← HW1.out]
  refine (implSy_any e C W1 HL.out HD.out).mono ?_
  rintro e' w1 ⟨rfl, hb1⟩
  rw [← HVs.out]
  have HB1 : Hid (Below w.heap.size w w1) := HB0.out.trans (hb1.mono HB0.out.size)
  have hL1 := Lay.sy.later HL.out hb1 hb1.size
  have hM1 := Lay.sta.later HM.out hb1 hb1.size
  obtain ⟨g0, g1⟩ := (HRa.out.under hb1 HRa.out.lt).two
  obtain ⟨f0, f1⟩ := (HRb.out.under hb1 HRb.out.lt).two
  obtain ⟨ini, ps⟩ := e
  obtain ⟨locs, vals⟩ := f
  obtain ⟨_, A1, cap1, b1, off1, E1, q1, hl1, hO1⟩ := sy_lies hL1
  obtain ⟨⟨A2, cap2, b2, off2, E2, q2, hl2, hO2⟩, A3, cap3, b3, off3, E3, q3, hl3, hO3⟩ := sta_lies hM1
  rw [q1] at g1
  rw [q2] at f0
  rw [q3] at f1
  have HO1 := Lib.hid hO1
  have HO2 := Lib.hid (ints_of hO2)
  have HO3 := Lib.hid (ints_of hO3)
  have HL3 := Lib.hid hl3
  unfold maxLen at hl1 hl2 hl3
  clear hb1 hL1 hM1 HL HM HRa HRb q1 q2 q3 hO1 hO2 hO3 HW1 g0
  dsimp only at HF HVv
  cases vs
  · go_wp2_with fail
    go_ret
    exact ⟨ret_bool (by rw [HF.out, ← HVs.out]; rfl), HB1.out⟩
  by_cases hlen : locs.length = ps.length
  case neg =>
    have hlenI : ¬ ((locs.length : Int) = (ps.length : Int)) := by omega
    go_wp2_with fail
    go_ret
    exact ⟨ret_bool (by rw [HF.out, ← HVs.out, decide_eq_false hlen]; rfl), HB1.out⟩
  have hlenI : (locs.length : Int) = (ps.length : Int) := by omega
  have HLn := Lib.hid hlen
  have HF2 : Hid (stOk ⟨ini, ps⟩ ⟨locs, vals⟩ = (vv && (locs.zip ps).all plcOk)) := by show _ = _; rw [HF.out, ← HVs.out, ← HVv.out, decide_eq_true HLn.out]; rfl
  clear hlen HF
  go_wp2_with fail
  go_loopw [22] (fun i wl => ∃ j : Nat, j ≤ locs.length ∧ i = .int .i64 j ∧ Hid (((locs.zip ps).take j).all plcOk = true) ∧ w1 = wl) (fun i _ => locs.length - (intOf i).toNat)
  case atStart => exact ⟨0, Nat.zero_le _, rfl, rfl, rfl⟩
  case round =>
    obtain ⟨j, hj, rfl, HT, rfl⟩ := hrel
    by_cases hlt : j < locs.length
    · obtain ⟨z, hz⟩ : ∃ z, locs[j]? = some z := ⟨_, List.getElem?_eq_getElem hlt⟩
      have hlp : j < ps.length := by have := HLn.out; omega
      obtain ⟨p, hp⟩ : ∃ p, ps[j]? = some p := ⟨_, List.getElem?_eq_getElem hlp⟩
      obtain ⟨rfl, hb, c0⟩ := HO2.out j z hz
      obtain ⟨rfl, hb', gc, gl⟩ := HO1.out j p hp
      have d0 : w1.cell? ⟨b1, off1 + j * 2, none⟩ = some (E1 j 0) := gc 0 (by decide)
      rw [show E1 j 0 = .int .i64 p.loc from gl.1] at d0
      have HZ := Lib.hid (zip_get hz hp)
      obtain ⟨L, hL⟩ : ∃ L, L = p.loc := ⟨_, rfl⟩
      rw [← hL] at d0
      have HLp := Lib.hid hL
      clear hz hp gc gl hL
      by_cases hz0 : z < 0
      · go_wp2_with fail
        go_ret
        exact ⟨ret_bool (by rw [HF2.out, alls_false HZ.out (plcOk_neg hz0), Bool.and_false]), HB1.out⟩
      by_cases hz1 : L ≤ z
      · go_wp2_with fail
        go_ret
        exact ⟨ret_bool (by rw [HF2.out, alls_false HZ.out (plcOk_big (by rw [← HLp.out]; exact hz1)), Bool.and_false]), HB1.out⟩
      have HT2 : Hid (((locs.zip ps).take (j + 1)).all plcOk = true) := by show _ = _; rw [alls_take_succ HZ.out, HT.out, plcOk_of hz0 (by rw [← HLp.out]; exact hz1)]; rfl
      go_wp2_with fail
      go_roundw
      case rel => exact ⟨j + 1, by omega, by go_num, HT2, (by first | rfl | trivial)⟩
      case measure => simp [intOf]; omega
    · have hjj : j = locs.length := by omega
      subst hjj
      have HFt : Hid ((locs.zip ps).all plcOk = true) := by
        have := HT.out
        rw [show locs.length = (locs.zip ps).length by rw [List.length_zip, HLn.out, Nat.min_self], List.take_length] at this
        exact this
      go_wp2_with fail
      refine (implVals_any vals A3 cap3 b3 off3 w1 HL3.out HO3.out).mono ?_
      rintro e' w2 ⟨rfl, rfl⟩
      rw [← HVv.out]
      go_wp2_with fail
      go_ret
      exact ⟨ret_bool (by rw [HF2.out, HFt.out, Bool.and_true]), HB1.out⟩

end Go.Proofs.Ytefpdkfogfhniaa
