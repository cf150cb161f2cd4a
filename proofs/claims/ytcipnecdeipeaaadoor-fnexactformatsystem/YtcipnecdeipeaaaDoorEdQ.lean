/- Edges: as plain data and in memory; the walks of laws.szEdge and laws.eqEdge. -/
import Derived.Test.YtcipnecdeipeaaaDoorJ01
import Derived.Test.YtcipnecdeipeaaaDoorW6
namespace Go.Proofs.YtcipnecdeipeaaaDoor
open Go.RowKit

/-- An edge as plain data. -/
structure Ed where
  fr : Int
  to : Int
  g : Ex
  vr : Int
  vl : Ex
  sy : Int

def Lay.ed : Lay Ed := (Lay.int.prod (Lay.int.prod (Lay.ex.prod (Lay.int.prod (Lay.ex.prod Lay.int))))).map fun e => (e.fr, e.to, e.g, e.vr, e.vl, e.sy)

theorem ed_lies {w : World} {B : Nat} {fr to vr sy : Int} {g vl : Ex} {C : Nat → Value} (h : Lay.ed.lies w B ⟨fr, to, g, vr, vl, sy⟩ C) :
    C 0 = .int .i64 fr ∧ C 1 = .int .i64 to ∧ Lies w B g (C 2) (C 3) (C 4) ∧ C 5 = .int .i64 vr ∧ Lies w B vl (C 6) (C 7) (C 8) ∧ C 9 = .int .i64 sy := h

theorem ed_sz (e : Ed) : Lay.ed.sz e = desc e.g + desc e.vl := by
  show 0 + (0 + (desc e.g + (0 + (desc e.vl + 0)))) = _
  omega

theorem Row.ten {w : World} {g : Nat} {t : TypeId} {a0 a1 a2 a3 a4 a5 a6 a7 a8 a9 : Value} (h : Row w g t #[a0, a1, a2, a3, a4, a5, a6, a7, a8, a9]) :
    w.cell? ⟨g, 0, none⟩ = some a0 ∧ w.cell? ⟨g, 1, none⟩ = some a1 ∧ w.cell? ⟨g, 2, none⟩ = some a2 ∧ w.cell? ⟨g, 3, none⟩ = some a3 ∧ w.cell? ⟨g, 4, none⟩ = some a4 ∧ w.cell? ⟨g, 5, none⟩ = some a5 ∧ w.cell? ⟨g, 6, none⟩ = some a6 ∧ w.cell? ⟨g, 7, none⟩ = some a7 ∧ w.cell? ⟨g, 8, none⟩ = some a8 ∧ w.cell? ⟨g, 9, none⟩ = some a9 :=
  ⟨h.cell 0, h.cell 1, h.cell 2, h.cell 3, h.cell 4, h.cell 5, h.cell 6, h.cell 7, h.cell 8, h.cell 9⟩

set_option maxHeartbeats 400000 in
theorem szEd_any (e : Ed) (C : Nat → Value) (left : Int) (w : World) (hL : Lay.ed.lies w w.heap.size e C) (h0 : 0 ≤ left) (h1 : left ≤ 1048576) :
    Calls Tryd.prog 42 #[.agg #[C 0, C 1, C 2, C 3, C 4, C 5, C 6, C 7, C 8, C 9], .int .i64 left] w fun e' w' => e' = .returned (.int .i64 (room left (Lay.ed.sz e))) ∧ Below w.heap.size w w' := by
  rw [ed_sz]
  obtain ⟨fr, to, g, vr, vl, sy⟩ := e
  obtain ⟨e0, e1, hg, e5, hv, e9⟩ := ed_lies hL
  obtain ⟨n0, n1, a2, l2, cp2, q2, q3, q4⟩ := hg.form
  obtain ⟨m0, m1, b2, k2, dp2, q6, q7, q8⟩ := hv.form
  rw [q2, q3, q4] at hg
  rw [q6, q7, q8] at hv
  rw [e0, e1, q2, q3, q4, e5, q6, q7, q8, e9]
  clear hL e0 e1 q2 q3 q4 e5 q6 q7 q8 e9
  dsimp only
  obtain ⟨W1, hW1⟩ : ∃ W1, W1 = w.alloc (.cells #[.int .i64 fr, .int .i64 to, .int .i64 n0, .int .i64 n1, .slice a2 l2 cp2, .int .i64 vr, .int .i64 m0, .int .i64 m1, .slice b2 k2 dp2, .int .i64 sy] 77) := ⟨_, rfl⟩
  have HR : Hid (Row W1 w.heap.size 77 #[.int .i64 fr, .int .i64 to, .int .i64 n0, .int .i64 n1, .slice a2 l2 cp2, .int .i64 vr, .int .i64 m0, .int .i64 m1, .slice b2 k2 dp2, .int .i64 sy]) := by rw [hW1]; exact Row.new _ _ _
  have hb0 : Below w.heap.size w W1 := by rw [hW1]; exact (Below.refl _ _).alloc (Nat.le_refl _) _
  have HG := Lib.hid (below_more hg hb0 hb0.size)
  have HV := Lib.hid (below_more hv hb0 hb0.size)
  have HB0 := Lib.hid hb0
  have HW1 := Lib.hid hW1
  have HD := Lib.hid (room_add (left := left) (a := desc g) (b := desc vl))
  have HN := Lib.hid (room_neg (left := left) (a := desc g) (b := desc vl))
  have hle : room left (desc g) ≤ left := room_le h0
  have hcs := room_cases left (desc g)
  obtain ⟨r, hr⟩ : ∃ r, r = room left (desc g) := ⟨_, rfl⟩
  rw [← hr] at hle hcs
  have HRr := Lib.hid hr
  clear hg hv hb0 hW1 hr
  go_enter Tryd.func42, Tryd.ntmps42
  go_wp2_with fail
  rw [← HW1.out]
  refine (sz_any g left _ _ _ _ HG.out h0 h1).mono ?_
  rintro e' w1 ⟨rfl, hb1⟩
  rw [← HRr.out]
  have HB1 := Lib.hid hb1
  by_cases hn : r < 0
  · have HBf := Lib.hid (HB0.out.trans (hb1.mono HB0.out.size))
    clear hb1
    go_wp2_with fail
    go_ret
    exact ⟨ret_int (by rw [HN.out (by rw [← HRr.out]; exact hn) h0]), HBf.out⟩
  · have hr0 : 0 ≤ r := by omega
    obtain ⟨g0, g1, g2, g3, g4, g5, g6, g7, g8, g9⟩ := (HR.out.under hb1 HR.out.lt).ten
    obtain ⟨s, hs⟩ : ∃ s, s = room r (desc vl) := ⟨_, rfl⟩
    have hs2 := room_cases r (desc vl)
    rw [← hs] at hs2
    have HS := Lib.hid hs
    clear hb1 hs g0 g1 g2 g3 g4 g5 g9
    go_wp2_with fail
    refine (sz_any vl r _ _ _ _ (below_more HV.out HB1.out HB1.out.size) hr0 (by omega)).mono ?_
    rintro e' w2 ⟨rfl, hb2⟩
    rw [← HS.out]
    have HBf := Lib.hid (HB0.out.trans ((HB1.out.trans (hb2.mono HB1.out.size)).mono HB0.out.size))
    have HE : Hid (room left (desc g + desc vl) = s) := by
      show _ = _
      rw [← HD.out (by rw [← HRr.out]; exact hr0), ← HRr.out, ← HS.out]
    clear hb2 g6 g7 g8
    by_cases hn2 : s < 0
    · have : s = -1 := by omega
      subst this
      go_wp2_with fail
      go_ret
      exact ⟨ret_int HE.out.symm, HBf.out⟩
    · go_wp2_with fail
      go_ret
      exact ⟨ret_int HE.out.symm, HBf.out⟩

set_option maxHeartbeats 400000 in
theorem eqEd_any (e : Ed) (C D : Nat → Value) (w : World) (hL : Lay.ed.lies w w.heap.size e C) (hL' : Lay.ed.lies w w.heap.size e D) :
    Calls Tryd.prog 52 #[.agg #[C 0, C 1, C 2, C 3, C 4, C 5, C 6, C 7, C 8, C 9], .agg #[D 0, D 1, D 2, D 3, D 4, D 5, D 6, D 7, D 8, D 9]] w fun e' w' => e' = .returned (.bool true) ∧ Below w.heap.size w w' := by
  obtain ⟨fr, to, g, vr, vl, sy⟩ := e
  obtain ⟨e0, e1, hg, e5, hv, e9⟩ := ed_lies hL
  obtain ⟨d0, d1, hg', d5, hv', d9⟩ := ed_lies hL'
  obtain ⟨n0, n1, a2, l2, cp2, q2, q3, q4⟩ := hg.form
  obtain ⟨m0, m1, b2, k2, dp2, q6, q7, q8⟩ := hv.form
  obtain ⟨n0', n1', a2', l2', cp2', p2, p3, p4⟩ := hg'.form
  obtain ⟨m0', m1', b2', k2', dp2', p6, p7, p8⟩ := hv'.form
  rw [q2, q3, q4] at hg
  rw [q6, q7, q8] at hv
  rw [p2, p3, p4] at hg'
  rw [p6, p7, p8] at hv'
  rw [e0, e1, q2, q3, q4, e5, q6, q7, q8, e9, d0, d1, p2, p3, p4, d5, p6, p7, p8, d9]
  clear hL hL' e0 e1 q2 q3 q4 e5 q6 q7 q8 e9 d0 d1 p2 p3 p4 d5 p6 p7 p8 d9
  obtain ⟨W1, hW1⟩ : ∃ W1, W1 = (w.alloc (.cells #[.int .i64 fr, .int .i64 to, .int .i64 n0, .int .i64 n1, .slice a2 l2 cp2, .int .i64 vr, .int .i64 m0, .int .i64 m1, .slice b2 k2 dp2, .int .i64 sy] 46)).alloc (.cells #[.int .i64 fr, .int .i64 to, .int .i64 n0', .int .i64 n1', .slice a2' l2' cp2', .int .i64 vr, .int .i64 m0', .int .i64 m1', .slice b2' k2' dp2', .int .i64 sy] 46) := ⟨_, rfl⟩
  have hrows := two_boxes w 46 #[.int .i64 fr, .int .i64 to, .int .i64 n0, .int .i64 n1, .slice a2 l2 cp2, .int .i64 vr, .int .i64 m0, .int .i64 m1, .slice b2 k2 dp2, .int .i64 sy] #[.int .i64 fr, .int .i64 to, .int .i64 n0', .int .i64 n1', .slice a2' l2' cp2', .int .i64 vr, .int .i64 m0', .int .i64 m1', .slice b2' k2' dp2', .int .i64 sy]
  rw [← hW1] at hrows
  obtain ⟨ra, rb, hb0⟩ := hrows
  have HRa := Lib.hid ra
  have HRb := Lib.hid rb
  have HG := Lib.hid (below_more hg hb0 hb0.size)
  have HV := Lib.hid (below_more hv hb0 hb0.size)
  have HG' := Lib.hid (below_more hg' hb0 hb0.size)
  have HV' := Lib.hid (below_more hv' hb0 hb0.size)
  have HB0 := Lib.hid hb0
  have HW1 := Lib.hid hW1
  clear hg hv hg' hv' hb0 hW1 ra rb
  go_enter Tryd.func52, Tryd.ntmps52
  go_wp2_with fail
  rw [← HW1.out]
  refine (eq_any g _ _ _ _ _ _ _ HG.out HG'.out).mono ?_
  rintro e' w1 ⟨rfl, hb1⟩
  have HB1 := Lib.hid hb1
  obtain ⟨g0, g1, g2, g3, g4, g5, g6, g7, g8, g9⟩ := (HRa.out.under hb1 HRa.out.lt).ten
  obtain ⟨f0, f1, f2, f3, f4, f5, f6, f7, f8, f9⟩ := (HRb.out.under hb1 HRb.out.lt).ten
  clear hb1 g0 g1 g2 g3 g4 g9 f0 f1 f2 f3 f4 f9
  go_wp2_with fail
  refine (eq_any vl _ _ _ _ _ _ _ (below_more HV.out HB1.out HB1.out.size) (below_more HV'.out HB1.out HB1.out.size)).mono ?_
  rintro e' w2 ⟨rfl, hb2⟩
  have HB2 := Lib.hid (HB1.out.trans (hb2.mono HB1.out.size))
  have g9' := (HRa.out.under HB2.out HRa.out.lt).cell 9
  have f9' := (HRb.out.under HB2.out HRb.out.lt).cell 9
  have g9 : w2.cell? ⟨w.heap.size, 9, none⟩ = some (.int .i64 sy) := g9'
  have f9 : w2.cell? ⟨w.heap.size + 1, 9, none⟩ = some (.int .i64 sy) := f9'
  have HBf := Lib.hid (HB0.out.trans (HB2.out.mono HB0.out.size))
  clear hb2 g9' f9' g5 g6 g7 g8 f5 f6 f7 f8
  go_wp2_with fail
  go_ret
  exact ⟨rfl, HBf.out⟩

end Go.Proofs.YtcipnecdeipeaaaDoor
