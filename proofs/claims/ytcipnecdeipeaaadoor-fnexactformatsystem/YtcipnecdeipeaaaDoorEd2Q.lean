/- The walk of laws.toEdge: a copy of an edge in rows of its own. -/
import Derived.Test.YtcipnecdeipeaaaDoorEdQ
import Derived.Test.YtcipnecdeipeaaaDoorTS
namespace Go.Proofs.YtcipnecdeipeaaaDoor
open Go.RowKit

def ToEdPost (e : Ed) (w : World) (e' : Ending) (w' : World) : Prop :=
  ∃ (x0 x1 : Int) (xa : Option Addr) (xl xc : Nat) (y0 y1 : Int) (ya : Option Addr) (yl yc : Nat), e' = .returned (.agg #[.int .i64 e.fr, .int .i64 e.to, .int .i64 x0, .int .i64 x1, .slice xa xl xc, .int .i64 e.vr, .int .i64 y0, .int .i64 y1, .slice ya yl yc, .int .i64 e.sy]) ∧ Lay.ed.sep w' w.heap.size w'.heap.size e (fun j => (#[.int .i64 e.fr, .int .i64 e.to, .int .i64 x0, .int .i64 x1, .slice xa xl xc, .int .i64 e.vr, .int .i64 y0, .int .i64 y1, .slice ya yl yc, .int .i64 e.sy] : Array Value).getD j undef) ∧ Below w.heap.size w w'

theorem ed_sep {w : World} {lo m hi : Nat} {fr to vr sy : Int} {g vl : Ex} {C : Nat → Value} (h1 : lo ≤ m) (h2 : m ≤ hi) (e0 : C 0 = .int .i64 fr) (e1 : C 1 = .int .i64 to) (hg : Sep w lo m g (C 2) (C 3) (C 4)) (e5 : C 5 = .int .i64 vr) (hv : Sep w m hi vl (C 6) (C 7) (C 8)) (e9 : C 9 = .int .i64 sy) :
    Lay.ed.sep w lo hi ⟨fr, to, g, vr, vl, sy⟩ C :=
  ⟨lo, Nat.le_refl _, by omega, e0, lo, Nat.le_refl _, by omega, e1, m, h1, h2, hg, m, Nat.le_refl _, h2, e5, hi, h2, Nat.le_refl _, hv, e9⟩

set_option maxHeartbeats 1000000 in
set_option maxRecDepth 100000 in
theorem toEd_any (e : Ed) (C : Nat → Value) (w : World) (hL : Lay.ed.lies w w.heap.size e C) (hd : Lay.ed.sz e ≤ 1048576) :
    Calls Tryd.prog 45 #[.agg #[C 0, C 1, C 2, C 3, C 4, C 5, C 6, C 7, C 8, C 9]] w (ToEdPost e w) := by
  rw [ed_sz] at hd
  obtain ⟨fr, to, g, vr, vl, sy⟩ := e
  obtain ⟨e0, e1, hg, e5, hv, e9⟩ := ed_lies hL
  obtain ⟨n0, n1, a2, l2, cp2, q2, q3, q4⟩ := hg.form
  obtain ⟨m0, m1, b2, k2, dp2, q6, q7, q8⟩ := hv.form
  rw [q2, q3, q4] at hg
  rw [q6, q7, q8] at hv
  rw [e0, e1, q2, q3, q4, e5, q6, q7, q8, e9]
  clear hL e0 e1 q2 q3 q4 e5 q6 q7 q8 e9
  dsimp only at hd
  have hdg : desc g ≤ 1048576 := by omega
  have hdv : desc vl ≤ 1048576 := by omega
  obtain ⟨W3, hW3⟩ : ∃ W3, W3 = ((w.alloc (.cells #[.int .i64 fr, .int .i64 to, .int .i64 n0, .int .i64 n1, .slice a2 l2 cp2, .int .i64 vr, .int .i64 m0, .int .i64 m1, .slice b2 k2 dp2, .int .i64 sy] 77)).alloc (.cells #[.int .i64 0, .int .i64 0, .int .i64 0, .int .i64 0, .slice none 0 0, .int .i64 0, .int .i64 0, .int .i64 0, .slice none 0 0, .int .i64 0] 46)).alloc (.cells #[.int .i64 fr, .int .i64 to, .int .i64 0, .int .i64 0, .slice none 0 0, .int .i64 0, .int .i64 0, .int .i64 0, .slice none 0 0, .int .i64 0] 46) := ⟨_, rfl⟩
  have hrows := three_boxes w 77 46 46 #[.int .i64 fr, .int .i64 to, .int .i64 n0, .int .i64 n1, .slice a2 l2 cp2, .int .i64 vr, .int .i64 m0, .int .i64 m1, .slice b2 k2 dp2, .int .i64 sy] #[.int .i64 0, .int .i64 0, .int .i64 0, .int .i64 0, .slice none 0 0, .int .i64 0, .int .i64 0, .int .i64 0, .slice none 0 0, .int .i64 0] #[.int .i64 fr, .int .i64 to, .int .i64 0, .int .i64 0, .slice none 0 0, .int .i64 0, .int .i64 0, .int .i64 0, .slice none 0 0, .int .i64 0]
  rw [← hW3] at hrows
  obtain ⟨ra, rb, rc, hb0, hz0⟩ := hrows
  have HRa := Lib.hid ra
  have HRb := Lib.hid rb
  have HRc := Lib.hid rc
  have HB0 := Lib.hid hb0
  have HZ0 := Lib.hid hz0
  have HG := Lib.hid (below_more hg hb0 hb0.size)
  have HV0 := Lib.hid hv
  have HW3 := Lib.hid hW3
  clear hg hv hb0 hz0 hW3 ra rb rc hd
  go_enter Tryd.func45, Tryd.ntmps45
  go_wp2_with fail
  rw [← HW3.out]
  refine (ts_any g _ _ _ _ HG.out hdg).mono ?_
  rintro e' w1 ⟨d0, d1, d2, rfl, hs1, hb1⟩
  obtain ⟨x0, x1, xa, xl, xc, rfl, rfl, rfl⟩ := hs1.form
  have HS1 := Lib.hid hs1
  have HB1 := Lib.hid hb1
  have hz1 : w.heap.size + 3 ≤ w1.heap.size := by rw [← HZ0.out]; exact hb1.size
  have hRc1 := HRc.out.under hb1 HRc.out.lt
  obtain ⟨g0, g1, g2, g3, g4, g5, g6, g7, g8, g9⟩ := (HRa.out.under hb1 HRa.out.lt).ten
  obtain ⟨c0, c1, c2, c3, c4, c5, c6, c7, c8, c9⟩ := hRc1.ten
  have z2 := hRc1.frozen 2
  have z3 := hRc1.frozen 3
  have z4 := hRc1.frozen 4
  have z5 := hRc1.frozen 5
  obtain ⟨W4, hW4⟩ : ∃ W4, W4 = (((w1.setCell ⟨w.heap.size + 1 + 1, 2, none⟩ (.int .i64 x0)).setCell ⟨w.heap.size + 1 + 1, 3, none⟩ (.int .i64 x1)).setCell ⟨w.heap.size + 1 + 1, 4, none⟩ (.slice xa xl xc)).setCell ⟨w.heap.size + 1 + 1, 5, none⟩ (.int .i64 vr) := ⟨_, rfl⟩
  have hRc4 : Row W4 (w.heap.size + 1 + 1) 46 #[.int .i64 fr, .int .i64 to, .int .i64 x0, .int .i64 x1, .slice xa xl xc, .int .i64 vr, .int .i64 0, .int .i64 0, .slice none 0 0, .int .i64 0] := by
    rw [hW4]
    exact (((hRc1.set_ 2 (.int .i64 x0)).set_ 3 (.int .i64 x1)).set_ 4 (.slice xa xl xc)).set_ 5 (.int .i64 vr)
  have hk4 : ∀ q, q ≠ w.heap.size + 1 + 1 → W4.heap[q]? = w1.heap[q]? := fun q hq => by
    rw [hW4, Below.heap_setCell _ _ _ _ (by simpa using hq), Below.heap_setCell _ _ _ _ (by simpa using hq), Below.heap_setCell _ _ _ _ (by simpa using hq), Below.heap_setCell _ _ _ _ (by simpa using hq)]
  have hz4 : W4.heap.size = w1.heap.size := by rw [hW4]; simp
  have hb4 : Below w.heap.size w W4 := by
    rw [hW4]
    exact ((((HB0.out.trans (hb1.mono HB0.out.size)).setCell (by simp; omega) _).setCell (by simp; omega) _).setCell (by simp; omega) _).setCell (by simp; omega) _
  have HRa4 : Hid (Row W4 w.heap.size 77 #[.int .i64 fr, .int .i64 to, .int .i64 n0, .int .i64 n1, .slice a2 l2 cp2, .int .i64 vr, .int .i64 m0, .int .i64 m1, .slice b2 k2 dp2, .int .i64 sy]) := (hk4 _ (by omega)).trans (HRa.out.under hb1 HRa.out.lt)
  have HRb4 : Hid (Row W4 (w.heap.size + 1) 46 #[.int .i64 0, .int .i64 0, .int .i64 0, .int .i64 0, .slice none 0 0, .int .i64 0, .int .i64 0, .int .i64 0, .slice none 0 0, .int .i64 0]) := (hk4 _ (by omega)).trans (HRb.out.under hb1 HRb.out.lt)
  have HRc4 := Lib.hid hRc4
  have HS4 : Hid (Sep W4 W3.heap.size w1.heap.size g (.int .i64 x0) (.int .i64 x1) (.slice xa xl xc)) := hs1.keep fun q q1 _ => hk4 q (by have := HZ0.out; omega)
  have HV4 : Hid (Lies W4 W4.heap.size vl (.int .i64 m0) (.int .i64 m1) (.slice b2 k2 dp2)) := below_more HV0.out hb4 hb4.size
  have HB4 := Lib.hid hb4
  have HZ4 := Lib.hid hz4
  have HW4 := Lib.hid hW4
  clear hs1 hb1 hRc1 hRc4 hk4 hz4 hb4 hW4
  go_wp2_with fail
  rw [← HW4.out]
  refine (ts_any vl _ _ _ _ HV4.out hdv).mono ?_
  rintro e' w2 ⟨d0, d1, d2, rfl, hs2, hb2⟩
  obtain ⟨y0, y1, ya, yl, yc, rfl, rfl, rfl⟩ := hs2.form
  have hRb2 := HRb4.out.under hb2 HRb4.out.lt
  have hRc2 := HRc4.out.under hb2 HRc4.out.lt
  clear g0 g1 g2 g3 g4 g5 g6 g7 g8 g9 c0 c1 c2 c3 c4 c5 c6 c7 c8 c9 z2 z3 z4 z5
  obtain ⟨g0, g1, g2, g3, g4, g5, g6, g7, g8, g9⟩ := (HRa4.out.under hb2 HRa4.out.lt).ten
  obtain ⟨p0, p1, p2, p3, p4, p5, p6, p7, p8, p9⟩ := hRb2.ten
  obtain ⟨c0, c1, c2, c3, c4, c5, c6, c7, c8, c9⟩ := hRc2.ten
  have z6 := hRc2.frozen 6
  have z7 := hRc2.frozen 7
  have z8 := hRc2.frozen 8
  have z9 := hRc2.frozen 9
  have y0' := hRb2.frozen 0
  have y1' := hRb2.frozen 1
  have y2' := hRb2.frozen 2
  have y3' := hRb2.frozen 3
  have y4' := hRb2.frozen 4
  have y5' := hRb2.frozen 5
  have y6' := hRb2.frozen 6
  have y7' := hRb2.frozen 7
  have y8' := hRb2.frozen 8
  have y9' := hRb2.frozen 9
  have HS2 := Lib.hid hs2
  have HS1' := Lib.hid (HS4.out.under hb2 (by rw [HZ4.out]; exact Nat.le_refl _))
  have HB2 := Lib.hid (HB4.out.trans (hb2.mono HB4.out.size))
  have hz2 : W4.heap.size ≤ w2.heap.size := hb2.size
  clear hb2 hs2 hRb2 hRc2 g0 g1 g2 g3 g4 g5 g6 g7 g8
  have KEY : Hid (∀ W, Tw (w.heap.size + 1) (w.heap.size + 1 + 1) w2 W → Lay.ed.sep W w.heap.size W.heap.size ⟨fr, to, g, vr, vl, sy⟩ (fun j => (#[.int .i64 fr, .int .i64 to, .int .i64 x0, .int .i64 x1, .slice xa xl xc, .int .i64 vr, .int .i64 y0, .int .i64 y1, .slice ya yl yc, .int .i64 sy] : Array Value).getD j undef) ∧ Below w.heap.size w W) := fun W hT => by
    have hZ0 := HZ0.out
    have hZ4 := HZ4.out
    refine ⟨ed_sep (m := w1.heap.size) (by omega) (by rw [hT.size]; omega) rfl rfl ?_ rfl ?_ rfl, hT.below HB2.out (by omega) (by omega)⟩
    · exact (HS1'.out.keep fun q q1 q2 => hT.other q (by omega) (by omega)).more (by omega) (Nat.le_refl _)
    · exact (HS2.out.keep fun q q1 q2 => hT.other q (by omega) (by omega)).more (by omega) (by rw [hT.size]; exact Nat.le_refl _)
  clear HS1' HS2 HB2
  go_wp2_with fail
  refine bodyPost_ret (v := .agg #[.int .i64 fr, .int .i64 to, .int .i64 x0, .int .i64 x1, .slice xa xl xc, .int .i64 vr, .int .i64 y0, .int .i64 y1, .slice ya yl yc, .int .i64 sy]) (by simp [results, Tryd.results45, go_sem, p0, p1, p2, p3, p4, p5, p6, p7, p8, p9]) rfl ⟨x0, x1, xa, xl, xc, y0, y1, ya, yl, yc, rfl, ?_⟩
  exact KEY.out _ (((((((((((((((Tw.refl _ _ _).sb _ _).sb _ _).sb _ _).sb _ _).sa _ _).sa _ _).sa _ _).sa _ _).sa _ _).sa _ _).sa _ _).sa _ _).sa _ _).sa _ _)

end Go.Proofs.YtcipnecdeipeaaaDoor
