/- The walk of spec.EdgeValid. -/
import Derived.Test.YtcipnecdeipeaaaDoorEvQ
namespace Go.Proofs.YtcipnecdeipeaaaDoor
open Go.RowKit

theorem edOk_no {fr to n vr sy : Int} {g vl : Ex} (h : ¬ (0 ≤ fr ∧ fr < n ∧ 0 ≤ to ∧ to < n ∧ n ≤ 4)) : edOk ⟨fr, to, g, vr, vl, sy⟩ n = false := by
  unfold edOk locOk
  cases h1 : decide (0 ≤ fr) <;> cases h2 : decide (fr < n) <;> cases h3 : decide (0 ≤ to) <;> cases h4 : decide (to < n) <;> cases h5 : decide (n ≤ 4) <;> simp
  exact absurd ⟨of_decide_eq_true h1, of_decide_eq_true h2, of_decide_eq_true h3, of_decide_eq_true h4, of_decide_eq_true h5⟩ h
theorem edOk_yes {fr to n vr sy : Int} {g vl : Ex} (h : 0 ≤ fr ∧ fr < n ∧ 0 ≤ to ∧ to < n ∧ n ≤ 4) : edOk ⟨fr, to, g, vr, vl, sy⟩ n = actOk g vr vl sy := by
  unfold edOk locOk
  simp [h]
theorem actOk_no {vr sy : Int} {g vl : Ex} (h : ¬ (-2 ≤ sy ∧ sy ≤ 2 ∧ -1 ≤ vr ∧ vr < 3)) : actOk g vr vl sy = false := by
  unfold actOk asgOk
  by_cases h1 : vr = -1
  · subst h1
    rw [if_pos rfl]
    cases h2 : decide (-2 ≤ sy) <;> cases h3 : decide (sy ≤ 2) <;> simp
    exact absurd ⟨of_decide_eq_true h2, of_decide_eq_true h3, by omega, by omega⟩ h
  · rw [if_neg h1]
    cases h2 : decide (-2 ≤ sy) <;> cases h3 : decide (sy ≤ 2) <;> cases h4 : decide (0 ≤ vr) <;> cases h5 : decide (vr < 3) <;> simp
    have := of_decide_eq_true h4
    exact absurd ⟨of_decide_eq_true h2, of_decide_eq_true h3, by omega, of_decide_eq_true h5⟩ h
theorem actOk_none {sy : Int} {g vl : Ex} (h : -2 ≤ sy ∧ sy ≤ 2) : actOk g (-1) vl sy = (valid g && noneB vl) := by
  unfold actOk asgOk
  simp [h]
theorem actOk_some {vr sy : Int} {g vl : Ex} (h : -2 ≤ sy ∧ sy ≤ 2 ∧ 0 ≤ vr ∧ vr < 3) : actOk g vr vl sy = (valid g && valid vl) := by
  unfold actOk asgOk
  rw [if_neg (by omega)]
  simp [h]

set_option maxHeartbeats 1000000 in
theorem specEd_any (e : Ed) (C : Nat → Value) (n : Int) (w : World) (hL : Lay.ed.lies w w.heap.size e C) (hd : Lay.ed.sz e ≤ 1048576) :
    Calls Tryd.prog 33 #[.agg #[C 0, C 1, C 2, C 3, C 4, C 5, C 6, C 7, C 8, C 9], .int .i64 n] w fun e' w' => e' = .returned (.bool (edOk e n)) ∧ Below w.heap.size w w' := by
  rw [ed_sz] at hd
  obtain ⟨fr, to, g, vr, vl, sy⟩ := e
  obtain ⟨e0, e1, hg, e5, hv, e9⟩ := ed_lies hL
  obtain ⟨n0, n1, a2, l2, cp2, q2, q3, q4⟩ := hg.form
  obtain ⟨m0, m1, b2, k2, dp2, q6, q7, q8⟩ := hv.form
  rw [q2, q3, q4] at hg
  rw [q6, q7, q8] at hv
  rw [e0, e1, q2, q3, q4, e5, q6, q7, q8, e9]
  clear hL e0 e1 q2 q3 q4 e5 q6 q7 q8 e9
  dsimp only at hd
  have hdg : desc g ≤ 1048576 := by omega
  have hdv : desc vl ≤ 1048576 := by omega
  clear hd
  by_cases h1 : fr < 0
  · have HE : Hid (edOk ⟨fr, to, g, vr, vl, sy⟩ n = false) := edOk_no (by omega)
    clear hg hv
    go_enter Tryd.func33, Tryd.ntmps33
    go_wp2_with fail
    go_ret
    exact ⟨ret_bool HE.out.symm, (Below.refl _ _).alloc (Nat.le_refl _) _⟩
  by_cases h2 : n ≤ fr
  · have HE : Hid (edOk ⟨fr, to, g, vr, vl, sy⟩ n = false) := edOk_no (by omega)
    clear hg hv
    go_enter Tryd.func33, Tryd.ntmps33
    go_wp2_with fail
    go_ret
    exact ⟨ret_bool HE.out.symm, (Below.refl _ _).alloc (Nat.le_refl _) _⟩
  by_cases h3 : to < 0
  · have HE : Hid (edOk ⟨fr, to, g, vr, vl, sy⟩ n = false) := edOk_no (by omega)
    clear hg hv
    go_enter Tryd.func33, Tryd.ntmps33
    go_wp2_with fail
    go_ret
    exact ⟨ret_bool HE.out.symm, (Below.refl _ _).alloc (Nat.le_refl _) _⟩
  by_cases h4 : n ≤ to
  · have HE : Hid (edOk ⟨fr, to, g, vr, vl, sy⟩ n = false) := edOk_no (by omega)
    clear hg hv
    go_enter Tryd.func33, Tryd.ntmps33
    go_wp2_with fail
    go_ret
    exact ⟨ret_bool HE.out.symm, (Below.refl _ _).alloc (Nat.le_refl _) _⟩
  by_cases h5 : 4 < n
  · have HE : Hid (edOk ⟨fr, to, g, vr, vl, sy⟩ n = false) := edOk_no (by omega)
    clear hg hv
    go_enter Tryd.func33, Tryd.ntmps33
    go_wp2_with fail
    go_ret
    exact ⟨ret_bool HE.out.symm, (Below.refl _ _).alloc (Nat.le_refl _) _⟩
  have HY : Hid (edOk ⟨fr, to, g, vr, vl, sy⟩ n = actOk g vr vl sy) := edOk_yes (by omega)
  obtain ⟨W1, hW1⟩ : ∃ W1, W1 = w.alloc (.cells #[.int .i64 fr, .int .i64 to, .int .i64 n0, .int .i64 n1, .slice a2 l2 cp2, .int .i64 vr, .int .i64 m0, .int .i64 m1, .slice b2 k2 dp2, .int .i64 sy] 46) := ⟨_, rfl⟩
  have hb0 : Below w.heap.size w W1 := by rw [hW1]; exact (Below.refl _ _).alloc (Nat.le_refl _) _
  have HR : Hid (Row W1 w.heap.size 46 #[.int .i64 fr, .int .i64 to, .int .i64 n0, .int .i64 n1, .slice a2 l2 cp2, .int .i64 vr, .int .i64 m0, .int .i64 m1, .slice b2 k2 dp2, .int .i64 sy]) := by rw [hW1]; exact Row.new _ _ _
  have HG := Lib.hid (below_more hg hb0 hb0.size)
  have HV := Lib.hid (below_more hv hb0 hb0.size)
  have HB0 := Lib.hid hb0
  have HW1 := Lib.hid hW1
  obtain ⟨x, hx⟩ : ∃ x, x = valid g := ⟨_, rfl⟩
  have HX := Lib.hid hx
  clear hg hv hb0 hW1 hx
  go_enter Tryd.func33, Tryd.ntmps33
  go_wp2_with fail
  rw [← HW1.out]
  refine (specValid_any g _ _ _ _ HG.out hdg).mono ?_
  rintro e' w1 ⟨rfl, hb1⟩
  rw [← HX.out]
  have HB1 := Lib.hid (HB0.out.trans (hb1.mono HB0.out.size))
  have HR1 := Lib.hid (HR.out.under hb1 HR.out.lt)
  have HV1 := Lib.hid (below_more HV.out hb1 hb1.size)
  clear hb1
  cases x
  · go_wp2_with fail
    go_ret
    exact ⟨ret_bool (by rw [HY.out]; unfold actOk; rw [← HX.out]; rfl), HB1.out⟩
  obtain ⟨g0, g1, g2, g3, g4, g5, g6, g7, g8, g9⟩ := HR1.out.ten
  by_cases s1 : sy < -2
  · have HE := Lib.hid (actOk_no (g := g) (vl := vl) (vr := vr) (sy := sy) (by omega))
    go_wp2_with fail
    go_ret
    exact ⟨ret_bool (by rw [HY.out, HE.out]), HB1.out⟩
  by_cases s2 : 2 < sy
  · have HE := Lib.hid (actOk_no (g := g) (vl := vl) (vr := vr) (sy := sy) (by omega))
    go_wp2_with fail
    go_ret
    exact ⟨ret_bool (by rw [HY.out, HE.out]), HB1.out⟩
  by_cases s3 : vr < -1
  · have HE := Lib.hid (actOk_no (g := g) (vl := vl) (vr := vr) (sy := sy) (by omega))
    go_wp2_with fail
    go_ret
    exact ⟨ret_bool (by rw [HY.out, HE.out]), HB1.out⟩
  by_cases s4 : 3 ≤ vr
  · have HE := Lib.hid (actOk_no (g := g) (vl := vl) (vr := vr) (sy := sy) (by omega))
    go_wp2_with fail
    go_ret
    exact ⟨ret_bool (by rw [HY.out, HE.out]), HB1.out⟩
  by_cases s5 : vr < 0
  · obtain rfl : vr = -1 := by omega
    have HE := Lib.hid (actOk_none (g := g) (vl := vl) (sy := sy) (by omega))
    obtain ⟨y, hy⟩ : ∃ y, y = noneB vl := ⟨_, rfl⟩
    have HYv := Lib.hid hy
    clear hy
    go_wp2_with fail
    refine (specNone_any vl _ _ _ _ _ HV1.out).mono ?_
    rintro e' w2 ⟨rfl, hb2⟩
    rw [← HYv.out]
    have HB2 := Lib.hid (HB1.out.trans (hb2.mono HB1.out.size))
    have q5 := (HR1.out.under hb2 HR1.out.lt).ten.2.2.2.2.2.1
    clear hb2 g0 g1 g2 g3 g4 g5 g6 g7 g8 g9
    cases y
    all_goals
      (go_wp2_with fail
       go_ret
       exact ⟨ret_bool (by rw [HY.out, HE.out, ← HX.out, ← HYv.out]; rfl), HB2.out⟩)
  · have HE := Lib.hid (actOk_some (g := g) (vl := vl) (vr := vr) (sy := sy) (by omega))
    go_wp2_with fail
    refine (specValid_any vl _ _ _ _ HV1.out hdv).mono ?_
    rintro e' w2 ⟨rfl, hb2⟩
    have HB2 := Lib.hid (HB1.out.trans (hb2.mono HB1.out.size))
    clear hb2 g0 g1 g2 g3 g4 g5 g6 g7 g8 g9
    go_wp2_with fail
    go_ret
    exact ⟨ret_bool (by rw [HY.out, HE.out, ← HX.out]; rfl), HB2.out⟩

end Go.Proofs.YtcipnecdeipeaaaDoor
