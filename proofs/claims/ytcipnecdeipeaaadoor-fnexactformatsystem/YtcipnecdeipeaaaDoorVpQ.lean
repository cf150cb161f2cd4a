/- The walks of spec.l2Process, impl.processValid, spec.SystemValid and impl.SystemValid. -/
import Derived.Test.YtcipnecdeipeaaaDoorJ03
import Derived.Test.YtcipnecdeipeaaaDoorJ07
import Derived.Test.YtcipnecdeipeaaaDoorEsQ
import Derived.StillTailTactics
namespace Go.Proofs.YtcipnecdeipeaaaDoor
open Go.RowKit

def prOk (p : Pr) : Bool := p.es.all (fun e => edOk e p.loc) && (decide (1 ≤ p.loc) && (decide (p.loc ≤ 4) && decide (p.es.length ≤ 6)))
def syOk (s : Sy) : Bool := s.ps.all prOk && (valsOk s.ini && (decide (1 ≤ s.ps.length) && decide (s.ps.length ≤ 3)))

set_option maxHeartbeats 1000000 in
set_option maxRecDepth 100000 in
theorem specPr_any (p : Pr) (C : Nat → Value) (w : World) (hL : Lay.pr.lies w w.heap.size p C) (hd : Lay.pr.sz p ≤ 1048576) :
    Calls Tryd.prog 23 #[.agg #[C 0, C 1]] w fun e' w' => e' = .returned (.bool (prOk p)) ∧ Below w.heap.size w w' := by
  rw [pr_sz] at hd
  obtain ⟨loc, es⟩ := p
  obtain ⟨e0, A, cap, b, off, D, e1, hl, hO⟩ := pr_lies hL
  rw [e0, e1]
  clear e0 e1 hL
  unfold maxLen at hl
  have hF : prOk ⟨loc, es⟩ = (es.all (fun e => edOk e loc) && (decide (1 ≤ loc) && (decide (loc ≤ 4) && decide (es.length ≤ 6)))) := rfl
  have HF := Lib.hid hF
  have HO := Lib.hid hO
  have HD := Lib.hid hd
  clear hO hF hd
  go_enter Tryd.func23, Tryd.ntmps23
  go_wp2_with fail
  go_loopw [3] (fun i wl => ∃ j : Nat, j ≤ es.length ∧ i = .int .i64 j ∧ Hid ((es.take j).all (fun e => edOk e loc) = true) ∧ Hid (Row wl w.heap.size 40 #[.int .i64 loc, .slice A es.length cap]) ∧ Hid (Below w.heap.size w wl)) (fun i _ => es.length - (intOf i).toNat)
  case atStart => exact ⟨0, Nat.zero_le _, rfl, rfl, Row.new _ _ _, (Below.refl _ _).alloc (Nat.le_refl _) _⟩
  case round =>
    obtain ⟨j, hj, rfl, HT, HR, HB⟩ := hrel
    obtain ⟨r0, r1⟩ := HR.out.two
    by_cases hlt : j < es.length
    · obtain ⟨x, hx⟩ : ∃ x, es[j]? = some x := ⟨_, List.getElem?_eq_getElem hlt⟩
      obtain ⟨rfl, hb, gc, gl⟩ := HO.out.below HB.out j x hx
      have g0 : wr.cell? ⟨b, off + j * 10, none⟩ = some (D j 0) := gc 0 (by decide)
      have g1 : wr.cell? ⟨b, off + j * 10 + 1, none⟩ = some (D j 1) := gc 1 (by decide)
      have g2 : wr.cell? ⟨b, off + j * 10 + 2, none⟩ = some (D j 2) := gc 2 (by decide)
      have g3 : wr.cell? ⟨b, off + j * 10 + 3, none⟩ = some (D j 3) := gc 3 (by decide)
      have g4 : wr.cell? ⟨b, off + j * 10 + 4, none⟩ = some (D j 4) := gc 4 (by decide)
      have g5 : wr.cell? ⟨b, off + j * 10 + 5, none⟩ = some (D j 5) := gc 5 (by decide)
      have g6 : wr.cell? ⟨b, off + j * 10 + 6, none⟩ = some (D j 6) := gc 6 (by decide)
      have g7 : wr.cell? ⟨b, off + j * 10 + 7, none⟩ = some (D j 7) := gc 7 (by decide)
      have g8 : wr.cell? ⟨b, off + j * 10 + 8, none⟩ = some (D j 8) := gc 8 (by decide)
      have g9 : wr.cell? ⟨b, off + j * 10 + 9, none⟩ = some (D j 9) := gc 9 (by decide)
      have hdx : Lay.ed.sz x ≤ 1048576 := by have := Lay.ed.szL_mem hx; have := HD.out; omega
      have HDX := Lib.hid hdx
      have HG := Lib.hid (Lay.ed.later gl (Below.refl _ _).drew HB.out.size)
      have HX := Lib.hid hx
      obtain ⟨o, ho⟩ : ∃ o, o = edOk x loc := ⟨_, rfl⟩
      have HOk := Lib.hid ho
      clear gl hx gc hdx ho
      go_wp2_with fail
      go_still_tail 7, (by kernel_rfl)
      go_wp2_with fail
      refine (specEd_any x (D j) loc wr.drew HG.out HDX.out).mono ?_
      rintro e' w1 ⟨rfl, hb1⟩
      rw [← HOk.out]
      have HB1 : Hid (Below w.heap.size w w1) := HB.out.drew.trans (hb1.mono HB.out.size)
      have HR1 : Hid (Row w1 w.heap.size 40 #[.int .i64 loc, .slice _ es.length cap]) := (HR.out.under (Below.refl _ _).drew HR.out.lt).under hb1 HR.out.lt
      clear hb1 HB HR g0 g1 g2 g3 g4 g5 g6 g7 g8 g9 HG r0 r1
      cases o
      · have HFf : Hid (prOk ⟨loc, es⟩ = false) := by show _ = _; rw [HF.out, alls_false HX.out (f := fun e => edOk e loc) HOk.out.symm]; rfl
        go_wp2_with fail
        go_ret
        exact ⟨ret_bool HFf.out.symm, HB1.out⟩
      · go_wp2_with fail
        go_roundw
        case rel => exact ⟨j + 1, by omega, by go_num, (by show _ = _; rw [alls_take_succ HX.out, HT.out, ← HOk.out]; rfl), HR1, HB1⟩
        case measure => simp [intOf]; omega
    · have hjj : j = es.length := by omega
      subst hjj
      have HT2 : Hid (es.all (fun e => edOk e loc) = true) := by have := HT.out; rw [List.take_length] at this; exact this
      go_wp2
      all_goals go_ret
      all_goals (refine ⟨ret_bool ?_, HB.out⟩)
      all_goals (rw [HF.out, HT2.out, Bool.eq_iff_iff]; simp; try omega)

set_option maxHeartbeats 1000000 in
set_option maxRecDepth 100000 in
theorem implPr_any (p : Pr) (C : Nat → Value) (w : World) (hL : Lay.pr.lies w w.heap.size p C) (hd : Lay.pr.sz p ≤ 1048576) :
    Calls Tryd.prog 28 #[.agg #[C 0, C 1]] w fun e' w' => e' = .returned (.bool (prOk p)) ∧ Below w.heap.size w w' := by
  rw [pr_sz] at hd
  obtain ⟨loc, es⟩ := p
  obtain ⟨e0, A, cap, b, off, D, e1, hl, hO⟩ := pr_lies hL
  rw [e0, e1]
  clear e0 e1 hL
  unfold maxLen at hl
  have hF : prOk ⟨loc, es⟩ = (es.all (fun e => edOk e loc) && (decide (1 ≤ loc) && (decide (loc ≤ 4) && decide (es.length ≤ 6)))) := rfl
  have HF := Lib.hid hF
  have HO := Lib.hid hO
  have HD := Lib.hid hd
  clear hO hF hd
  by_cases h1 : loc < 1
  · have HN : Hid (prOk ⟨loc, es⟩ = false) := by show _ = _; rw [HF.out, show decide (1 ≤ loc) = false from decide_eq_false (by omega)]; simp
    go_enter Tryd.func28, Tryd.ntmps28
    go_wp2_with fail
    go_ret
    exact ⟨ret_bool HN.out.symm, (Below.refl _ _).alloc (Nat.le_refl _) _⟩
  by_cases h2 : 4 < loc
  · have HN : Hid (prOk ⟨loc, es⟩ = false) := by show _ = _; rw [HF.out, show decide (loc ≤ 4) = false from decide_eq_false (by omega)]; simp
    go_enter Tryd.func28, Tryd.ntmps28
    go_wp2_with fail
    go_ret
    exact ⟨ret_bool HN.out.symm, (Below.refl _ _).alloc (Nat.le_refl _) _⟩
  by_cases h3 : 6 < es.length
  · have HN : Hid (prOk ⟨loc, es⟩ = false) := by show _ = _; rw [HF.out, show decide (es.length ≤ 6) = false from decide_eq_false (by omega)]; simp
    go_enter Tryd.func28, Tryd.ntmps28
    go_wp2_with fail
    go_ret
    exact ⟨ret_bool HN.out.symm, (Below.refl _ _).alloc (Nat.le_refl _) _⟩
  have HF2 : Hid (prOk ⟨loc, es⟩ = es.all (fun e => edOk e loc)) := by show _ = _; rw [HF.out, show decide (1 ≤ loc) = true from decide_eq_true (by omega), show decide (loc ≤ 4) = true from decide_eq_true (by omega), show decide (es.length ≤ 6) = true from decide_eq_true (by omega)]; simp
  clear HF
  go_enter Tryd.func28, Tryd.ntmps28
  go_wp2_with fail
  go_loopw [22] (fun i wl => ∃ j : Nat, j ≤ es.length ∧ i = .int .i64 j ∧ Hid ((es.take j).all (fun e => edOk e loc) = true) ∧ Hid (Row wl w.heap.size 40 #[.int .i64 loc, .slice A es.length cap]) ∧ Hid (Below w.heap.size w wl)) (fun i _ => es.length - (intOf i).toNat)
  case atStart => exact ⟨0, Nat.zero_le _, rfl, rfl, Row.new _ _ _, (Below.refl _ _).alloc (Nat.le_refl _) _⟩
  case round =>
    obtain ⟨j, hj, rfl, HT, HR, HB⟩ := hrel
    obtain ⟨r0, r1⟩ := HR.out.two
    have hwl : w.heap.size < wr.heap.size := HR.out.lt
    by_cases hlt : j < es.length
    · obtain ⟨x, hx⟩ : ∃ x, es[j]? = some x := ⟨_, List.getElem?_eq_getElem hlt⟩
      obtain ⟨rfl, hb, gc, gl⟩ := HO.out.below HB.out j x hx
      have g0 : wr.cell? ⟨b, off + j * 10, none⟩ = some (D j 0) := gc 0 (by decide)
      have g1 : wr.cell? ⟨b, off + j * 10 + 1, none⟩ = some (D j 1) := gc 1 (by decide)
      have g2 : wr.cell? ⟨b, off + j * 10 + 2, none⟩ = some (D j 2) := gc 2 (by decide)
      have g3 : wr.cell? ⟨b, off + j * 10 + 3, none⟩ = some (D j 3) := gc 3 (by decide)
      have g4 : wr.cell? ⟨b, off + j * 10 + 4, none⟩ = some (D j 4) := gc 4 (by decide)
      have g5 : wr.cell? ⟨b, off + j * 10 + 5, none⟩ = some (D j 5) := gc 5 (by decide)
      have g6 : wr.cell? ⟨b, off + j * 10 + 6, none⟩ = some (D j 6) := gc 6 (by decide)
      have g7 : wr.cell? ⟨b, off + j * 10 + 7, none⟩ = some (D j 7) := gc 7 (by decide)
      have g8 : wr.cell? ⟨b, off + j * 10 + 8, none⟩ = some (D j 8) := gc 8 (by decide)
      have g9 : wr.cell? ⟨b, off + j * 10 + 9, none⟩ = some (D j 9) := gc 9 (by decide)
      have hdx : Lay.ed.sz x ≤ 1048576 := by have := Lay.ed.szL_mem hx; have := HD.out; omega
      have HDX := Lib.hid hdx
      obtain ⟨x0, x1, xa, xl, xc, y0, y1, ya, yl, yc, ⟨q0, q1, q2, q3, q4, q5, q6, q7, q8, q9⟩, hlit⟩ := ed_lit gl
      rw [q0] at g0
      rw [q1] at g1
      rw [q2] at g2
      rw [q3] at g3
      rw [q4] at g4
      rw [q5] at g5
      rw [q6] at g6
      rw [q7] at g7
      rw [q8] at g8
      rw [q9] at g9
      obtain ⟨W2, hW2⟩ : ∃ W2, W2 = wr.alloc (.cells #[.int .i64 x.fr, .int .i64 x.to, .int .i64 x0, .int .i64 x1, .slice xa xl xc, .int .i64 x.vr, .int .i64 y0, .int .i64 y1, .slice ya yl yc, .int .i64 x.sy] 46) := ⟨_, rfl⟩
      have hb2 : Below wr.heap.size wr W2 := by rw [hW2]; exact (Below.refl _ _).alloc (Nat.le_refl _) _
      have HG := Lib.hid (Lay.ed.later hlit (hb2.mono HB.out.size) (Nat.le_trans HB.out.size hb2.size))
      have HR2 := Lib.hid (HR.out.under hb2 HR.out.lt)
      have HB2 := Lib.hid (HB.out.trans (hb2.mono HB.out.size))
      have HW2 := Lib.hid hW2
      have HX := Lib.hid hx
      obtain ⟨o, ho⟩ : ∃ o, o = edOk x loc := ⟨_, rfl⟩
      have HOk := Lib.hid ho
      clear gl hx gc hdx ho hlit q0 q1 q2 q3 q4 q5 q6 q7 q8 q9 hb2 hW2
      go_wp2_with fail
      rw [← HW2.out]
      refine (implEd_any x (fun j => (#[.int .i64 x.fr, .int .i64 x.to, .int .i64 x0, .int .i64 x1, .slice xa xl xc, .int .i64 x.vr, .int .i64 y0, .int .i64 y1, .slice ya yl yc, .int .i64 x.sy] : Array Value).getD j undef) loc W2 HG.out HDX.out).mono ?_
      rintro e' w1 ⟨rfl, hb1⟩
      rw [← HOk.out]
      have HB1 : Hid (Below w.heap.size w w1) := HB2.out.trans (hb1.mono HB2.out.size)
      have HR1 := Lib.hid (HR2.out.under hb1 HR2.out.lt)
      clear hb1 HB HR g0 g1 g2 g3 g4 g5 g6 g7 g8 g9 HG r0 r1
      cases o
      · have HFf : Hid (prOk ⟨loc, es⟩ = false) := by show _ = _; rw [HF2.out, alls_false HX.out (f := fun e => edOk e loc) HOk.out.symm]
        go_wp2_with fail
        go_ret
        exact ⟨ret_bool HFf.out.symm, HB1.out⟩
      · go_wp2_with fail
        go_roundw
        case rel => exact ⟨j + 1, by omega, by go_num, (by show _ = _; rw [alls_take_succ HX.out, HT.out, ← HOk.out]; rfl), HR1, HB1⟩
        case measure => simp [intOf]; omega
    · have hjj : j = es.length := by omega
      subst hjj
      have HT2 : Hid (es.all (fun e => edOk e loc) = true) := by have := HT.out; rw [List.take_length] at this; exact this
      go_wp2_with fail
      go_ret
      exact ⟨ret_bool (by rw [HF2.out, HT2.out]), HB.out⟩

end Go.Proofs.YtcipnecdeipeaaaDoor
