/- The walks of spec.SystemValid and impl.SystemValid. -/
import Derived.Test.YtcipnecdeipeaaaDoorVpQ
import Derived.Test.YtcipnecdeipeaaaDoorV1Q
namespace Go.Proofs.YtcipnecdeipeaaaDoor
open Go.RowKit

set_option maxHeartbeats 1000000 in
set_option maxRecDepth 100000 in
theorem specSy_any (s : Sy) (C : Nat → Value) (w : World) (hL : Lay.sy.lies w w.heap.size s C) (hd : Lay.sy.sz s ≤ 1048576) :
    Calls Tryd.prog 11 #[.agg #[C 0, C 1]] w fun e' w' => e' = .returned (.bool (syOk s)) ∧ Below w.heap.size w w' := by
  rw [sy_sz] at hd
  obtain ⟨ini, ps⟩ := s
  obtain ⟨⟨A, cap, b, off, E, e0, hl, hO⟩, B, cbp, c, pff, F, e1, hm, hP⟩ := sy_lies hL
  rw [e0, e1]
  clear e0 e1 hL
  have HLn := Lib.hid hl
  unfold maxLen at hl hm
  have hF : syOk ⟨ini, ps⟩ = (ps.all prOk && (valsOk ini && (decide (1 ≤ ps.length) && decide (ps.length ≤ 3)))) := rfl
  have HF := Lib.hid hF
  have HO := Lib.hid hO
  have HP := Lib.hid hP
  have HD := Lib.hid hd
  clear hO hP hF hd
  obtain ⟨vo, hvo⟩ : ∃ vo, vo = valsOk ini := ⟨_, rfl⟩
  have HVo := Lib.hid hvo
  clear hvo
  go_enter Tryd.func11, Tryd.ntmps11
  go_wp2_with fail
  go_loopw [3] (fun i wl => ∃ j : Nat, j ≤ ps.length ∧ i = .int .i64 j ∧ Hid ((ps.take j).all prOk = true) ∧ Hid (Row wl w.heap.size 30 #[.slice A ini.length cap, .slice B ps.length cbp]) ∧ Hid (Below w.heap.size w wl)) (fun i _ => ps.length - (intOf i).toNat)
  case atStart => exact ⟨0, Nat.zero_le _, rfl, rfl, Row.new _ _ _, (Below.refl _ _).alloc (Nat.le_refl _) _⟩
  case round =>
    obtain ⟨j, hj, rfl, HT, HR, HB⟩ := hrel
    obtain ⟨r0, r1⟩ := HR.out.two
    by_cases hlt : j < ps.length
    · obtain ⟨x, hx⟩ : ∃ x, ps[j]? = some x := ⟨_, List.getElem?_eq_getElem hlt⟩
      obtain ⟨rfl, hb, gc, gl⟩ := HP.out.below HB.out j x hx
      have g0 : wr.cell? ⟨c, pff + j * 2, none⟩ = some (F j 0) := gc 0 (by decide)
      have g1 : wr.cell? ⟨c, pff + j * 2 + 1, none⟩ = some (F j 1) := gc 1 (by decide)
      have hdx : Lay.pr.sz x ≤ 1048576 := by have := Lay.pr.szL_mem hx; have := HD.out; omega
      have HDX := Lib.hid hdx
      have HG := Lib.hid (Lay.pr.more gl HB.out.size)
      have HX := Lib.hid hx
      obtain ⟨o, ho⟩ : ∃ o, o = prOk x := ⟨_, rfl⟩
      have HOk := Lib.hid ho
      clear gl hx gc hdx ho
      go_wp2_with fail
      refine (specPr_any x (F j) wr HG.out HDX.out).mono ?_
      rintro e' w1 ⟨rfl, hb1⟩
      rw [← HOk.out]
      have HB1 : Hid (Below w.heap.size w w1) := HB.out.trans (hb1.mono HB.out.size)
      have HR1 := Lib.hid (HR.out.under hb1 HR.out.lt)
      clear hb1 HB HR g0 g1 HG r0 r1
      cases o
      · have HFf : Hid (syOk ⟨ini, ps⟩ = false) := by show _ = _; rw [HF.out, alls_false HX.out (f := prOk) HOk.out.symm]; rfl
        go_wp2_with fail
        go_ret
        exact ⟨ret_bool HFf.out.symm, HB1.out⟩
      · go_wp2_with fail
        go_roundw
        case rel => exact ⟨j + 1, by omega, by go_num, (by show _ = _; rw [alls_take_succ HX.out, HT.out, ← HOk.out]; rfl), HR1, HB1⟩
        case measure => simp [intOf]; omega
    · have hjj : j = ps.length := by omega
      subst hjj
      have HT2 : Hid (ps.all prOk = true) := by have := HT.out; rw [List.take_length] at this; exact this
      go_wp2_with fail
      refine (specVals_any ini A cap b off wr HLn.out (ints_of (HO.out.grow HB.out HB.out.size))).mono ?_
      rintro e' w1 ⟨rfl, rfl⟩
      rw [← HVo.out]
      cases vo
      · go_wp2_with fail
        go_ret
        exact ⟨ret_bool (by rw [HF.out, ← HVo.out]; simp), HB.out⟩
      · go_wp2
        all_goals go_ret
        all_goals (refine ⟨ret_bool ?_, HB.out⟩)
        all_goals (rw [HF.out, HT2.out, ← HVo.out, Bool.eq_iff_iff]; simp; try omega)

set_option maxHeartbeats 1000000 in
set_option maxRecDepth 100000 in
theorem implSy_any (s : Sy) (C : Nat → Value) (w : World) (hL : Lay.sy.lies w w.heap.size s C) (hd : Lay.sy.sz s ≤ 1048576) :
    Calls Tryd.prog 16 #[.agg #[C 0, C 1]] w fun e' w' => e' = .returned (.bool (syOk s)) ∧ Below w.heap.size w w' := by
  rw [sy_sz] at hd
  obtain ⟨ini, ps⟩ := s
  obtain ⟨⟨A, cap, b, off, E, e0, hl, hO⟩, B, cbp, c, pff, F, e1, hm, hP⟩ := sy_lies hL
  rw [e0, e1]
  clear e0 e1 hL
  have HLn := Lib.hid hl
  unfold maxLen at hl hm
  have hF : syOk ⟨ini, ps⟩ = (ps.all prOk && (valsOk ini && (decide (1 ≤ ps.length) && decide (ps.length ≤ 3)))) := rfl
  have HF := Lib.hid hF
  have HO := Lib.hid hO
  have HP := Lib.hid hP
  have HD := Lib.hid hd
  clear hO hP hF hd
  obtain ⟨vo, hvo⟩ : ∃ vo, vo = valsOk ini := ⟨_, rfl⟩
  have HVo := Lib.hid hvo
  clear hvo
  obtain ⟨W1, hW1⟩ : ∃ W1, W1 = w.alloc (.cells #[.slice A ini.length cap, .slice B ps.length cbp] 30) := ⟨_, rfl⟩
  have hb0 : Below w.heap.size w W1 := by rw [hW1]; exact (Below.refl _ _).alloc (Nat.le_refl _) _
  have HR0 : Hid (Row W1 w.heap.size 30 #[.slice A ini.length cap, .slice B ps.length cbp]) := by rw [hW1]; exact Row.new _ _ _
  have HI := Lib.hid (ints_of (HO.out.grow hb0 hb0.size))
  have HB0 := Lib.hid hb0
  have HW1 := Lib.hid hW1
  clear hb0 hW1
  go_enter Tryd.func16, Tryd.ntmps16
  go_wp2_with fail
  rw [← HW1.out]
  refine (implVals_any ini A cap b off W1 HLn.out HI.out).mono ?_
  rintro e' w1 ⟨rfl, rfl⟩
  rw [← HVo.out]
  obtain ⟨s0, s1⟩ := HR0.out.two
  cases vo
  · go_wp2_with fail
    go_ret
    exact ⟨ret_bool (by rw [HF.out, ← HVo.out]; simp), HB0.out⟩
  by_cases h1 : ps.length < 1
  · go_wp2_with fail
    go_ret
    exact ⟨ret_bool (by rw [HF.out, show decide (1 ≤ ps.length) = false from decide_eq_false (by omega)]; simp), HB0.out⟩
  by_cases h2 : 3 < ps.length
  · go_wp2_with fail
    go_ret
    exact ⟨ret_bool (by rw [HF.out, show decide (ps.length ≤ 3) = false from decide_eq_false (by omega)]; simp), HB0.out⟩
  have HF2 : Hid (syOk ⟨ini, ps⟩ = ps.all prOk) := by show _ = _; rw [HF.out, ← HVo.out, show decide (1 ≤ ps.length) = true from decide_eq_true (by omega), show decide (ps.length ≤ 3) = true from decide_eq_true (by omega)]; simp
  clear HF
  go_wp2_with fail
  go_loopw [24] (fun i wl => ∃ j : Nat, j ≤ ps.length ∧ i = .int .i64 j ∧ Hid ((ps.take j).all prOk = true) ∧ Hid (Row wl w.heap.size 30 #[.slice A ini.length cap, .slice B ps.length cbp]) ∧ Hid (Below w.heap.size w wl)) (fun i _ => ps.length - (intOf i).toNat)
  case atStart => exact ⟨0, Nat.zero_le _, rfl, rfl, HR0, HB0⟩
  case round =>
    clear s0 s1
    obtain ⟨j, hj, rfl, HT, HR, HB⟩ := hrel
    obtain ⟨r0, r1⟩ := HR.out.two
    have hwl : w.heap.size < wr.heap.size := HR.out.lt
    by_cases hlt : j < ps.length
    · obtain ⟨x, hx⟩ : ∃ x, ps[j]? = some x := ⟨_, List.getElem?_eq_getElem hlt⟩
      obtain ⟨rfl, hb, gc, gl⟩ := HP.out.below HB.out j x hx
      have g0 : wr.cell? ⟨c, pff + j * 2, none⟩ = some (F j 0) := gc 0 (by decide)
      have g1 : wr.cell? ⟨c, pff + j * 2 + 1, none⟩ = some (F j 1) := gc 1 (by decide)
      have hdx : Lay.pr.sz x ≤ 1048576 := by have := Lay.pr.szL_mem hx; have := HD.out; omega
      have HDX := Lib.hid hdx
      obtain ⟨xa, xl, xc, ⟨q0, q1⟩, hlit⟩ := pr_lit gl
      rw [q0] at g0
      rw [q1] at g1
      obtain ⟨W2, hW2⟩ : ∃ W2, W2 = wr.alloc (.cells #[.int .i64 x.loc, .slice xa xl xc] 40) := ⟨_, rfl⟩
      have hb2 : Below wr.heap.size wr W2 := by rw [hW2]; exact (Below.refl _ _).alloc (Nat.le_refl _) _
      have HG := Lib.hid (Lay.pr.later hlit (hb2.mono HB.out.size) (Nat.le_trans HB.out.size hb2.size))
      have HR2 := Lib.hid (HR.out.under hb2 HR.out.lt)
      have HB2 := Lib.hid (HB.out.trans (hb2.mono HB.out.size))
      have HW2 := Lib.hid hW2
      have HX := Lib.hid hx
      obtain ⟨o, ho⟩ : ∃ o, o = prOk x := ⟨_, rfl⟩
      have HOk := Lib.hid ho
      clear gl hx gc hdx ho hlit q0 q1 hb2 hW2
      go_wp2_with fail
      rw [← HW2.out]
      refine (implPr_any x (fun j => (#[.int .i64 x.loc, .slice xa xl xc] : Array Value).getD j undef) W2 HG.out HDX.out).mono ?_
      rintro e' w1 ⟨rfl, hb1⟩
      rw [← HOk.out]
      have HB1 : Hid (Below w.heap.size w w1) := HB2.out.trans (hb1.mono HB2.out.size)
      have HR1 := Lib.hid (HR2.out.under hb1 HR2.out.lt)
      clear hb1 HB HR g0 g1 HG r0 r1
      cases o
      · have HFf : Hid (syOk ⟨ini, ps⟩ = false) := by show _ = _; rw [HF2.out, alls_false HX.out (f := prOk) HOk.out.symm]
        go_wp2_with fail
        go_ret
        exact ⟨ret_bool HFf.out.symm, HB1.out⟩
      · go_wp2_with fail
        go_roundw
        case rel => exact ⟨j + 1, by omega, by go_num, (by show _ = _; rw [alls_take_succ HX.out, HT.out, ← HOk.out]; rfl), HR1, HB1⟩
        case measure => simp [intOf]; omega
    · have hjj : j = ps.length := by omega
      subst hjj
      have HT2 : Hid (ps.all prOk = true) := by have := HT.out; rw [List.take_length] at this; exact this
      go_wp2_with fail
      go_ret
      exact ⟨ret_bool (by rw [HF2.out, HT2.out]), HB.out⟩

end Go.Proofs.YtcipnecdeipeaaaDoor
