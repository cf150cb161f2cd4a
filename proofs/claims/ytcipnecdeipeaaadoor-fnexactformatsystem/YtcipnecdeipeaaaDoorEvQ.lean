/- The walks of spec.EdgeValid and impl.EdgeValid with what they call. -/
import Derived.Test.YtcipnecdeipeaaaDoorEdQ
import Derived.Test.YtcipnecdeipeaaaDoorJ06
namespace Go.Proofs.YtcipnecdeipeaaaDoor
open Go.RowKit

/-- Whether a tree is the zero value. -/
def noneB : Ex → Bool
  | .node k v kids => decide (k = 0) && (decide (v = 0) && decide (kids.length = 0))
def asgOk (vr : Int) (vl : Ex) : Bool := if vr = -1 then noneB vl else decide (0 ≤ vr) && (decide (vr < 3) && valid vl)
def actOk (g : Ex) (vr : Int) (vl : Ex) (sy : Int) : Bool := valid g && (asgOk vr vl && (decide (-2 ≤ sy) && decide (sy ≤ 2)))
def locOk (fr to n : Int) : Bool := decide (0 ≤ fr) && (decide (fr < n) && (decide (0 ≤ to) && decide (to < n)))
def edOk (e : Ed) (n : Int) : Bool := decide (n ≤ 4) && (locOk e.fr e.to n && actOk e.g e.vr e.vl e.sy)

theorem one_box (w : World) (t : TypeId) (a : Array Value) : Row (w.alloc (.cells a t)) w.heap.size t a ∧ Below w.heap.size w (w.alloc (.cells a t)) := ⟨Row.new _ _ _, (Below.refl _ _).alloc (Nat.le_refl _) _⟩

set_option maxHeartbeats 400000 in
theorem specNone_any (e : Ex) (c0 c1 c2 : Value) (B : Nat) (w : World) (hL : Lies w B e c0 c1 c2) :
    Calls Tryd.prog 44 #[.agg #[c0, c1, c2]] w fun e' w' => e' = .returned (.bool (noneB e)) ∧ Below w.heap.size w w' := by
  obtain ⟨k, v, kids⟩ := e
  obtain ⟨K, cap, b, off, C0, C1, C2, rfl, rfl, rfl, hl, hO⟩ := hL.open_
  clear hL hO hl
  by_cases h1 : k = 0
  · by_cases h2 : v = 0
    · subst h1 h2
      go_enter Tryd.func44, Tryd.ntmps44
      go_wp2
      all_goals go_ret
      all_goals (refine ⟨ret_bool ?_, (Below.refl _ _).alloc (Nat.le_refl _) _⟩)
      all_goals (rw [Bool.eq_iff_iff]; simp [noneB])
    · subst h1
      go_enter Tryd.func44, Tryd.ntmps44
      go_wp2
      all_goals go_ret
      all_goals (refine ⟨ret_bool ?_, (Below.refl _ _).alloc (Nat.le_refl _) _⟩)
      all_goals (rw [Bool.eq_iff_iff]; simp [noneB, h2])
  · go_enter Tryd.func44, Tryd.ntmps44
    go_wp2
    all_goals go_ret
    all_goals (refine ⟨ret_bool ?_, (Below.refl _ _).alloc (Nat.le_refl _) _⟩)
    all_goals (rw [Bool.eq_iff_iff]; simp [noneB, h1])

set_option maxHeartbeats 400000 in
theorem asg_any (vl : Ex) (vr sy : Int) (n0 n1 m0 m1 : Int) (a2 b2 : Option Addr) (l2 cp2 k2 dp2 : Nat) (w : World) (hv : Lies w w.heap.size vl (.int .i64 m0) (.int .i64 m1) (.slice b2 k2 dp2)) (hd : desc vl ≤ 1048576) :
    Calls Tryd.prog 57 #[.agg #[.int .i64 n0, .int .i64 n1, .slice a2 l2 cp2, .int .i64 vr, .int .i64 m0, .int .i64 m1, .slice b2 k2 dp2, .int .i64 sy]] w fun e' w' => e' = .returned (.bool (asgOk vr vl)) ∧ Below w.heap.size w w' := by
  by_cases h1 : vr = -1
  · subst h1
    obtain ⟨k, v, kids⟩ := vl
    obtain ⟨K, cap, b, off, C0, C1, C2, e1, e2, e3, hl, hO⟩ := hv.open_
    injection e1 with _ e1
    injection e2 with _ e2
    injection e3 with e3 e4 e5
    subst e1 e2 e3 e4 e5
    clear hv hO hl hd
    have HF : Hid (asgOk (-1) (.node m0 m1 kids) = (decide (m0 = 0) && (decide (m1 = 0) && decide (kids.length = 0)))) := rfl
    by_cases h2 : m0 = 0
    · by_cases h3 : m1 = 0
      · subst h2 h3
        go_enter Tryd.func57, Tryd.ntmps57
        go_wp2
        all_goals go_ret
        all_goals (refine ⟨ret_bool ?_, (Below.refl _ _).alloc (Nat.le_refl _) _⟩)
        all_goals (rw [HF.out, Bool.eq_iff_iff]; simp)
      · subst h2
        go_enter Tryd.func57, Tryd.ntmps57
        go_wp2
        all_goals go_ret
        all_goals (refine ⟨ret_bool ?_, (Below.refl _ _).alloc (Nat.le_refl _) _⟩)
        all_goals (rw [HF.out, Bool.eq_iff_iff]; simp [h3])
    · go_enter Tryd.func57, Tryd.ntmps57
      go_wp2
      all_goals go_ret
      all_goals (refine ⟨ret_bool ?_, (Below.refl _ _).alloc (Nat.le_refl _) _⟩)
      all_goals (rw [HF.out, Bool.eq_iff_iff]; simp [h2])
  · have HF : Hid (asgOk vr vl = (decide (0 ≤ vr) && (decide (vr < 3) && valid vl))) := by show _ = _; unfold asgOk; rw [if_neg h1]
    by_cases h2 : 0 ≤ vr
    · by_cases h3 : vr < 3
      · obtain ⟨W1, hW1⟩ : ∃ W1, W1 = w.alloc (.cells #[.int .i64 n0, .int .i64 n1, .slice a2 l2 cp2, .int .i64 vr, .int .i64 m0, .int .i64 m1, .slice b2 k2 dp2, .int .i64 sy] 51) := ⟨_, rfl⟩
        have hb0 : Below w.heap.size w W1 := by rw [hW1]; exact (Below.refl _ _).alloc (Nat.le_refl _) _
        have HV := Lib.hid (below_more hv hb0 hb0.size)
        have HB0 := Lib.hid hb0
        have HW1 := Lib.hid hW1
        clear hv hb0 hW1
        go_enter Tryd.func57, Tryd.ntmps57
        go_wp2_with fail
        rw [← HW1.out]
        refine (implValid_any vl _ _ _ _ HV.out hd).mono ?_
        rintro e' w1 ⟨rfl, hb1⟩
        have HB1 := Lib.hid (HB0.out.trans (hb1.mono HB0.out.size))
        clear hb1
        go_wp2_with fail
        go_ret
        exact ⟨ret_bool (by rw [HF.out]; simp [h2, h3]), HB1.out⟩
      · clear hv
        go_enter Tryd.func57, Tryd.ntmps57
        go_wp2_with fail
        go_ret
        exact ⟨ret_bool (by rw [HF.out, show decide (vr < 3) = false from decide_eq_false (by omega)]; simp), (Below.refl _ _).alloc (Nat.le_refl _) _⟩
    · clear hv
      go_enter Tryd.func57, Tryd.ntmps57
      go_wp2_with fail
      go_ret
      exact ⟨ret_bool (by rw [HF.out, show decide (0 ≤ vr) = false from decide_eq_false (by omega)]; simp), (Below.refl _ _).alloc (Nat.le_refl _) _⟩

theorem Row.eight {w : World} {g : Nat} {t : TypeId} {a0 a1 a2 a3 a4 a5 a6 a7 : Value} (h : Row w g t #[a0, a1, a2, a3, a4, a5, a6, a7]) :
    w.cell? ⟨g, 0, none⟩ = some a0 ∧ w.cell? ⟨g, 1, none⟩ = some a1 ∧ w.cell? ⟨g, 2, none⟩ = some a2 ∧ w.cell? ⟨g, 3, none⟩ = some a3 ∧ w.cell? ⟨g, 4, none⟩ = some a4 ∧ w.cell? ⟨g, 5, none⟩ = some a5 ∧ w.cell? ⟨g, 6, none⟩ = some a6 ∧ w.cell? ⟨g, 7, none⟩ = some a7 :=
  ⟨h.cell 0, h.cell 1, h.cell 2, h.cell 3, h.cell 4, h.cell 5, h.cell 6, h.cell 7⟩

set_option maxHeartbeats 400000 in
theorem act_any (g vl : Ex) (vr sy : Int) (n0 n1 m0 m1 : Int) (a2 b2 : Option Addr) (l2 cp2 k2 dp2 : Nat) (w : World) (hg : Lies w w.heap.size g (.int .i64 n0) (.int .i64 n1) (.slice a2 l2 cp2)) (hv : Lies w w.heap.size vl (.int .i64 m0) (.int .i64 m1) (.slice b2 k2 dp2)) (hdg : desc g ≤ 1048576) (hd : desc vl ≤ 1048576) :
    Calls Tryd.prog 47 #[.agg #[.int .i64 n0, .int .i64 n1, .slice a2 l2 cp2, .int .i64 vr, .int .i64 m0, .int .i64 m1, .slice b2 k2 dp2, .int .i64 sy]] w fun e' w' => e' = .returned (.bool (actOk g vr vl sy)) ∧ Below w.heap.size w w' := by
  obtain ⟨W1, hW1⟩ : ∃ W1, W1 = w.alloc (.cells #[.int .i64 n0, .int .i64 n1, .slice a2 l2 cp2, .int .i64 vr, .int .i64 m0, .int .i64 m1, .slice b2 k2 dp2, .int .i64 sy] 51) := ⟨_, rfl⟩
  have hb0 : Below w.heap.size w W1 := by rw [hW1]; exact (Below.refl _ _).alloc (Nat.le_refl _) _
  have HR : Hid (Row W1 w.heap.size 51 #[.int .i64 n0, .int .i64 n1, .slice a2 l2 cp2, .int .i64 vr, .int .i64 m0, .int .i64 m1, .slice b2 k2 dp2, .int .i64 sy]) := by rw [hW1]; exact Row.new _ _ _
  have HG := Lib.hid (below_more hg hb0 hb0.size)
  have HV := Lib.hid (below_more hv hb0 hb0.size)
  have HB0 := Lib.hid hb0
  have HW1 := Lib.hid hW1
  obtain ⟨x, hx⟩ : ∃ x, x = valid g := ⟨_, rfl⟩
  obtain ⟨y, hy⟩ : ∃ y, y = asgOk vr vl := ⟨_, rfl⟩
  have HF : Hid (actOk g vr vl sy = (x && (y && (decide (-2 ≤ sy) && decide (sy ≤ 2))))) := by show _ = _; unfold actOk; rw [← hx, ← hy]
  have HX := Lib.hid hx
  have HY := Lib.hid hy
  clear hg hv hb0 hW1 hx hy
  cases x
  · go_enter Tryd.func47, Tryd.ntmps47
    go_wp2_with fail
    rw [← HW1.out]
    refine (implValid_any g _ _ _ _ HG.out hdg).mono ?_
    rintro e' w1 ⟨rfl, hb1⟩
    rw [← HX.out]
    have HB1 := Lib.hid (HB0.out.trans (hb1.mono HB0.out.size))
    clear hb1
    go_wp2_with fail
    go_ret
    exact ⟨ret_bool (by rw [HF.out]; rfl), HB1.out⟩
  · go_enter Tryd.func47, Tryd.ntmps47
    go_wp2_with fail
    rw [← HW1.out]
    refine (implValid_any g _ _ _ _ HG.out hdg).mono ?_
    rintro e' w1 ⟨rfl, hb1⟩
    rw [← HX.out]
    obtain ⟨g0, g1, g2, g3, g4, g5, g6, g7⟩ := (HR.out.under hb1 HR.out.lt).eight
    have HV1 := Lib.hid (below_more HV.out hb1 hb1.size)
    have HB1 := Lib.hid (HB0.out.trans (hb1.mono HB0.out.size))
    have HR1 := Lib.hid (HR.out.under hb1 HR.out.lt)
    clear hb1
    go_wp2_with fail
    refine (asg_any vl vr sy _ _ _ _ _ _ _ _ _ _ _ HV1.out hd).mono ?_
    rintro e' w2 ⟨rfl, hb2⟩
    rw [← HY.out]
    have HB2 := Lib.hid (HB1.out.trans (hb2.mono HB1.out.size))
    have q7 := (HR1.out.under hb2 HR1.out.lt).eight.2.2.2.2.2.2.2
    clear hb2 g0 g1 g2 g3 g4 g5 g6 g7
    cases y
    · go_wp2_with fail
      go_ret
      exact ⟨ret_bool (by rw [HF.out]; rfl), HB2.out⟩
    · by_cases h1 : -2 ≤ sy
      · by_cases h2 : sy ≤ 2
        · go_wp2_with fail
          go_ret
          exact ⟨ret_bool (by rw [HF.out]; simp [h1, h2]), HB2.out⟩
        · go_wp2_with fail
          go_ret
          exact ⟨ret_bool (by rw [HF.out, show decide (sy ≤ 2) = false from decide_eq_false (by omega)]; simp), HB2.out⟩
      · go_wp2_with fail
        go_ret
        exact ⟨ret_bool (by rw [HF.out, show decide (-2 ≤ sy) = false from decide_eq_false (by omega)]; simp), HB2.out⟩

theorem below_set10 {B n : Nat} {w0 w : World} (h : Below B w0 w) (hn : B ≤ n) (u0 u1 u2 u3 u4 u5 u6 u7 u8 u9 : Value) : Below B w0 ((((((((((w.setCell ⟨n, 0, none⟩ u0).setCell ⟨n, 1, none⟩ u1).setCell ⟨n, 2, none⟩ u2).setCell ⟨n, 3, none⟩ u3).setCell ⟨n, 4, none⟩ u4).setCell ⟨n, 5, none⟩ u5).setCell ⟨n, 6, none⟩ u6).setCell ⟨n, 7, none⟩ u7).setCell ⟨n, 8, none⟩ u8).setCell ⟨n, 9, none⟩ u9) :=
  (((((((((h.setCell (p := ⟨n, 0, none⟩) hn _).setCell (p := ⟨n, 1, none⟩) hn _).setCell (p := ⟨n, 2, none⟩) hn _).setCell (p := ⟨n, 3, none⟩) hn _).setCell (p := ⟨n, 4, none⟩) hn _).setCell (p := ⟨n, 5, none⟩) hn _).setCell (p := ⟨n, 6, none⟩) hn _).setCell (p := ⟨n, 7, none⟩) hn _).setCell (p := ⟨n, 8, none⟩) hn _).setCell (p := ⟨n, 9, none⟩) hn _

set_option maxHeartbeats 400000 in
theorem arc_any (fr to vr sy n0 n1 m0 m1 : Int) (a2 b2 : Option Addr) (l2 cp2 k2 dp2 : Nat) (w : World) :
    Calls Tryd.prog 18 #[.agg #[.int .i64 fr, .int .i64 to, .int .i64 n0, .int .i64 n1, .slice a2 l2 cp2, .int .i64 vr, .int .i64 m0, .int .i64 m1, .slice b2 k2 dp2, .int .i64 sy]] w fun e' w' => e' = .returned (.agg #[.int .i64 fr, .int .i64 to, .int .i64 n0, .int .i64 n1, .slice a2 l2 cp2, .int .i64 vr, .int .i64 m0, .int .i64 m1, .slice b2 k2 dp2, .int .i64 sy]) ∧ Below w.heap.size w w' := by
  go_enter Tryd.func18, Tryd.ntmps18
  go_wp2_with fail
  refine bodyPost_ret (v := .agg #[.int .i64 fr, .int .i64 to, .int .i64 n0, .int .i64 n1, .slice a2 l2 cp2, .int .i64 vr, .int .i64 m0, .int .i64 m1, .slice b2 k2 dp2, .int .i64 sy]) (by simp [results, Tryd.results18, go_sem]) rfl ⟨rfl, ?_⟩
  exact ((Below.refl _ _).alloc (Nat.le_refl _) _).alloc (by simp) _

set_option maxHeartbeats 400000 in
theorem within_any (fr to vr sy n0 n1 m0 m1 n : Int) (a2 b2 : Option Addr) (l2 cp2 k2 dp2 : Nat) (w : World) :
    Calls Tryd.prog 46 #[.agg #[.int .i64 fr, .int .i64 to, .int .i64 n0, .int .i64 n1, .slice a2 l2 cp2, .int .i64 vr, .int .i64 m0, .int .i64 m1, .slice b2 k2 dp2, .int .i64 sy], .int .i64 n] w fun e' w' => e' = .returned (.bool (locOk fr to n)) ∧ Below w.heap.size w w' := by
  obtain ⟨r, hr⟩ : ∃ r, r = locOk fr to n := ⟨_, rfl⟩
  have HR := Lib.hid hr
  clear hr
  go_enter Tryd.func46, Tryd.ntmps46
  go_wp2
  all_goals go_ret
  all_goals (refine ⟨ret_bool ?_, (Below.refl _ _).alloc (Nat.le_refl _) _⟩)
  all_goals (unfold locOk; rw [Bool.eq_iff_iff]; simp; try omega)

set_option maxHeartbeats 400000 in
theorem implEd_any (e : Ed) (C : Nat → Value) (n : Int) (w : World) (hL : Lay.ed.lies w w.heap.size e C) (hd : Lay.ed.sz e ≤ 1048576) :
    Calls Tryd.prog 36 #[.agg #[C 0, C 1, C 2, C 3, C 4, C 5, C 6, C 7, C 8, C 9], .int .i64 n] w fun e' w' => e' = .returned (.bool (edOk e n)) ∧ Below w.heap.size w w' := by
  rw [ed_sz] at hd
  obtain ⟨fr, to, g, vr, vl, sy⟩ := e
  obtain ⟨e0, e1, hg, e5, hv, e9⟩ := ed_lies hL
  obtain ⟨n0, n1, a2, l2, cp2, q2, q3, q4⟩ := hg.form
  obtain ⟨m0, m1, b2, k2, dp2, q6, q7, q8⟩ := hv.form
  rw [q2, q3, q4] at hg
  rw [q6, q7, q8] at hv
  rw [e0, e1, q2, q3, q4, e5, q6, q7, q8, e9]
  clear hL e0 e1 q2 q3 q4 e5 q6 q7 q8 e9
  dsimp only at hd
  have hdg : desc g ≤ 1048576 := by omega
  have hdv : desc vl ≤ 1048576 := by omega
  have HF : Hid (edOk ⟨fr, to, g, vr, vl, sy⟩ n = (decide (n ≤ 4) && (locOk fr to n && actOk g vr vl sy))) := rfl
  obtain ⟨W1, hW1⟩ : ∃ W1, W1 = w.alloc (.cells #[.int .i64 fr, .int .i64 to, .int .i64 n0, .int .i64 n1, .slice a2 l2 cp2, .int .i64 vr, .int .i64 m0, .int .i64 m1, .slice b2 k2 dp2, .int .i64 sy] 46) := ⟨_, rfl⟩
  have hb0 : Below w.heap.size w W1 := by rw [hW1]; exact (Below.refl _ _).alloc (Nat.le_refl _) _
  have HG := Lib.hid hg
  have HV := Lib.hid hv
  have HB0 := Lib.hid hb0
  have HW1 := Lib.hid hW1
  obtain ⟨x, hx⟩ : ∃ x, x = locOk fr to n := ⟨_, rfl⟩
  have HX := Lib.hid hx
  clear hg hv hb0 hW1 hd hx
  go_enter Tryd.func36, Tryd.ntmps36
  go_wp2_with fail
  rw [← HW1.out]
  refine (arc_any fr to vr sy n0 n1 m0 m1 a2 b2 l2 cp2 k2 dp2 _).mono ?_
  rintro e' w1 ⟨rfl, hb1⟩
  obtain ⟨W2, hW2⟩ : ∃ W2, W2 = w1.alloc (.cells #[.int .i64 fr, .int .i64 to, .int .i64 n0, .int .i64 n1, .slice a2 l2 cp2, .int .i64 vr, .int .i64 m0, .int .i64 m1, .slice b2 k2 dp2, .int .i64 sy] 53) := ⟨_, rfl⟩
  have HR2 : Hid (Row W2 w1.heap.size 53 #[.int .i64 fr, .int .i64 to, .int .i64 n0, .int .i64 n1, .slice a2 l2 cp2, .int .i64 vr, .int .i64 m0, .int .i64 m1, .slice b2 k2 dp2, .int .i64 sy]) := by rw [hW2]; exact Row.new _ _ _
  have hb2 : Below w1.heap.size w1 W2 := by rw [hW2]; exact (Below.refl _ _).alloc (Nat.le_refl _) _
  have hb02 : Below w.heap.size w W2 := (HB0.out.trans (hb1.mono HB0.out.size)).trans (hb2.mono (HB0.out.trans (hb1.mono HB0.out.size)).size)
  have HB2 := Lib.hid hb02
  have HW2 := Lib.hid hW2
  clear hb1 hb2 hb02 hW2
  by_cases h1 : n ≤ 4
  · go_wp2_with fail
    rw [← HW2.out]
    refine (within_any fr to vr sy n0 n1 m0 m1 n a2 b2 l2 cp2 k2 dp2 _).mono ?_
    rintro e' w3 ⟨rfl, hb3⟩
    rw [← HX.out]
    have HB3 := Lib.hid (HB2.out.trans (hb3.mono HB2.out.size))
    obtain ⟨g0, g1, g2, g3, g4, g5, g6, g7, g8, g9⟩ := (HR2.out.under hb3 HR2.out.lt).ten
    clear hb3
    cases x
    · go_wp2_with fail
      go_ret
      exact ⟨ret_bool (by rw [HF.out, ← HX.out]; simp), HB3.out⟩
    · go_wp2_with fail
      refine (act_any g vl vr sy n0 n1 m0 m1 a2 b2 l2 cp2 k2 dp2 _ (below_more HG.out HB3.out HB3.out.size) (below_more HV.out HB3.out HB3.out.size) hdg hdv).mono ?_
      rintro e' w4 ⟨rfl, hb4⟩
      have HB4 := Lib.hid (HB3.out.trans (hb4.mono HB3.out.size))
      clear hb4 g0 g1 g2 g3 g4 g5 g6 g7 g8 g9
      go_wp2_with fail
      go_ret
      exact ⟨ret_bool (by rw [HF.out, ← HX.out, decide_eq_true h1]; simp), HB4.out⟩
  · go_wp2_with fail
    rw [← HW2.out]
    go_ret
    exact ⟨ret_bool (by rw [HF.out, show decide (n ≤ 4) = false from decide_eq_false (by omega)]; rfl), HB2.out⟩

end Go.Proofs.YtcipnecdeipeaaaDoor
