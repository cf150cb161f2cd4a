/- The walks of spec.l2Edge and impl.edgeSame. -/
import Derived.Test.YtgdhmdhbpakahaaSeP
namespace Go.Proofs.Ytgdhmdhbpakahaa
open Go.RowKit

set_option maxHeartbeats 2000000 in
set_option maxRecDepth 100000 in
theorem specEdS_any (x : Ed) (C : Nat → Value) (y : Ed) (D : Nat → Value) (w : World) (hA : Lay.ed.lies w w.heap.size x C) (hB : Lay.ed.lies w w.heap.size y D) :
    Calls Try.prog 12 #[.agg #[C 0, C 1, C 2, C 3, C 4, C 5, C 6, C 7, C 8, C 9], .agg #[D 0, D 1, D 2, D 3, D 4, D 5, D 6, D 7, D 8, D 9]] w fun e' w' => e' = .returned (.bool (edSame x y)) ∧ Below w.heap.size w w' := by
  have hLA := hA
  obtain ⟨x0, x1, xa, xl, xc, u0, u1, ua, ul, uc, ⟨c0, c1, c2, c3, c4, c5, c6, c7, c8, c9⟩, _⟩ := ed_lit hLA
  obtain ⟨z0, z1, za, zl, zc, v0, v1, va, vl, vc, ⟨d0, d1, d2, d3, d4, d5, d6, d7, d8, d9⟩, _⟩ := ed_lit hB
  obtain ⟨f0, f1, gx, f3, ex, f5⟩ := x
  obtain ⟨k0, k1, gy, k3, ey, k5⟩ := y
  obtain ⟨_, _, hgx, _, hex, _⟩ := ed_lies hLA
  obtain ⟨_, _, hgy, _, hey, _⟩ := ed_lies hB
  rw [c2, c3, c4] at hgx
  rw [c6, c7, c8] at hex
  rw [d2, d3, d4] at hgy
  rw [d6, d7, d8] at hey
  rw [c0, c1, c2, c3, c4, c5, c6, c7, c8, c9, d0, d1, d2, d3, d4, d5, d6, d7, d8, d9]
  dsimp only
  obtain ⟨W1, hW1⟩ : ∃ W1, W1 = (w.alloc (.cells #[.int .i64 f0, .int .i64 f1, .int .i64 x0, .int .i64 x1, .slice xa xl xc, .int .i64 f3, .int .i64 u0, .int .i64 u1, .slice ua ul uc, .int .i64 f5] 44)).alloc (.cells #[.int .i64 k0, .int .i64 k1, .int .i64 z0, .int .i64 z1, .slice za zl zc, .int .i64 k3, .int .i64 v0, .int .i64 v1, .slice va vl vc, .int .i64 k5] 44) := ⟨_, rfl⟩
  have hrows := two_boxes w 44 #[.int .i64 f0, .int .i64 f1, .int .i64 x0, .int .i64 x1, .slice xa xl xc, .int .i64 f3, .int .i64 u0, .int .i64 u1, .slice ua ul uc, .int .i64 f5] #[.int .i64 k0, .int .i64 k1, .int .i64 z0, .int .i64 z1, .slice za zl zc, .int .i64 k3, .int .i64 v0, .int .i64 v1, .slice va vl vc, .int .i64 k5]
  rw [← hW1] at hrows
  obtain ⟨hra, hrb, hb0⟩ := hrows
  have HW1 := Lib.hid hW1
  have HB0 := Lib.hid hb0
  have HRa := Lib.hid hra
  have HRb := Lib.hid hrb
  have HGx := Lib.hid (below_more hgx hb0 hb0.size)
  have HGy := Lib.hid (below_more hgy hb0 hb0.size)
  have HEx := Lib.hid (below_more hex hb0 hb0.size)
  have HEy := Lib.hid (below_more hey hb0 hb0.size)
  have HF : Hid (edSame ⟨f0, f1, gx, f3, ex, f5⟩ ⟨k0, k1, gy, k3, ey, k5⟩ = (decide (f0 = k0) && (decide (f1 = k1) && (decide (f3 = k3) && (decide (f5 = k5) && (sameE gx gy && sameE ex ey)))))) := rfl
  obtain ⟨vv, hvv⟩ : ∃ v, v = edSame ⟨f0, f1, gx, f3, ex, f5⟩ ⟨k0, k1, gy, k3, ey, k5⟩ := ⟨_, rfl⟩
  rw [← hvv] at HF ⊢
  clear hvv hA hLA hB c0 c1 c2 c3 c4 c5 c6 c7 c8 c9 d0 d1 d2 d3 d4 d5 d6 d7 d8 d9 hgx hgy hex hey hW1 hra hrb hb0
  by_cases h0 : f0 = k0
  case neg =>
    have HN : Hid (vv = false) := by show _ = _; rw [HF.out, decide_eq_false h0]; simp
    have cN : (f0 == k0) = false := by rw [beq_eq_false_iff_ne]; exact h0
    clear HF
    go_enter Try.func12, Try.ntmps12
    go_wp2_with fail
    rw [← HW1.out]
    go_ret
    exact ⟨ret_bool HN.out.symm, HB0.out⟩
  subst h0
  by_cases h1 : f1 = k1
  case neg =>
    have HN : Hid (vv = false) := by show _ = _; rw [HF.out, decide_eq_false h1]; simp
    have cN : (f1 == k1) = false := by rw [beq_eq_false_iff_ne]; exact h1
    clear HF
    go_enter Try.func12, Try.ntmps12
    go_wp2_with fail
    rw [← HW1.out]
    go_ret
    exact ⟨ret_bool HN.out.symm, HB0.out⟩
  subst h1
  by_cases h3 : f3 = k3
  case neg =>
    have HN : Hid (vv = false) := by show _ = _; rw [HF.out, decide_eq_false h3]; simp
    have cN : (f3 == k3) = false := by rw [beq_eq_false_iff_ne]; exact h3
    clear HF
    go_enter Try.func12, Try.ntmps12
    go_wp2_with fail
    rw [← HW1.out]
    go_ret
    exact ⟨ret_bool HN.out.symm, HB0.out⟩
  subst h3
  by_cases h5 : f5 = k5
  case neg =>
    have HN : Hid (vv = false) := by show _ = _; rw [HF.out, decide_eq_false h5]; simp
    have cN : (f5 == k5) = false := by rw [beq_eq_false_iff_ne]; exact h5
    clear HF
    go_enter Try.func12, Try.ntmps12
    go_wp2_with fail
    rw [← HW1.out]
    go_ret
    exact ⟨ret_bool HN.out.symm, HB0.out⟩
  subst h5
  have HF2 : Hid (vv = (sameE gx gy && sameE ex ey)) := by show _ = _; rw [HF.out]; simp
  obtain ⟨o1, ho1⟩ : ∃ o, o = sameE gx gy := ⟨_, rfl⟩
  obtain ⟨o2, ho2⟩ : ∃ o, o = sameE ex ey := ⟨_, rfl⟩
  have HO1 := Lib.hid ho1
  have HO2 := Lib.hid ho2
  rw [← ho1, ← ho2] at HF2
  clear HF ho1 ho2
  go_enter Try.func12, Try.ntmps12
  go_wp2_with fail
  rw [← HW1.out]
  refine (smS_any gx gy _ _ _ _ _ _ W1 HGx.out HGy.out).mono ?_
  rintro e' w1 ⟨rfl, hb1⟩
  rw [← HO1.out]
  have HB1 := Lib.hid (HB0.out.trans (hb1.mono HB0.out.size))
  have HEx1 := Lib.hid (below_more HEx.out hb1 hb1.size)
  have HEy1 := Lib.hid (below_more HEy.out hb1 hb1.size)
  have hra1 := HRa.out.under hb1 HRa.out.lt
  have hrb1 := HRb.out.under hb1 HRb.out.lt
  have g6 : w1.cell? ⟨w.heap.size, 6, none⟩ = some _ := hra1.cell 6
  have g7 : w1.cell? ⟨w.heap.size, 7, none⟩ = some _ := hra1.cell 7
  have g8 : w1.cell? ⟨w.heap.size, 8, none⟩ = some _ := hra1.cell 8
  have j6 : w1.cell? ⟨w.heap.size + 1, 6, none⟩ = some _ := hrb1.cell 6
  have j7 : w1.cell? ⟨w.heap.size + 1, 7, none⟩ = some _ := hrb1.cell 7
  have j8 : w1.cell? ⟨w.heap.size + 1, 8, none⟩ = some _ := hrb1.cell 8
  clear hb1 hra1 hrb1
  cases o1
  · go_wp2_with fail
    go_ret
    exact ⟨ret_bool (by rw [HF2.out]; rfl), HB1.out⟩
  go_wp2_with fail
  refine (smS_any ex ey _ _ _ _ _ _ w1 HEx1.out HEy1.out).mono ?_
  rintro e' w2 ⟨rfl, hb2⟩
  rw [← HO2.out]
  have HB2 := Lib.hid (HB1.out.trans (hb2.mono HB1.out.size))
  clear hb2
  go_wp2_with fail
  go_ret
  exact ⟨ret_bool (by rw [HF2.out]; rfl), HB2.out⟩

set_option maxHeartbeats 2000000 in
set_option maxRecDepth 100000 in
theorem implEdS_any (x : Ed) (C : Nat → Value) (y : Ed) (D : Nat → Value) (lo hi : Nat) (w : World) (hA : Lay.ed.sep w lo hi x C) (hlo : lo ≤ w.heap.size) (hhi : hi ≤ w.heap.size) (hB : Lay.ed.lies w w.heap.size y D) (hd : Lay.ed.sz x ≤ 1048576) :
    Calls Try.prog 24 #[.agg #[C 0, C 1, C 2, C 3, C 4, C 5, C 6, C 7, C 8, C 9], .agg #[D 0, D 1, D 2, D 3, D 4, D 5, D 6, D 7, D 8, D 9]] w fun e' w' => e' = .returned (.bool (edSame x y)) ∧ Below w.heap.size w w' := by
  obtain ⟨hsg, hsv⟩ := ed_seps hA
  rw [ed_sz] at hd
  have hLA := Lay.ed.more (Lay.ed.sep_lies hA) hhi
  obtain ⟨x0, x1, xa, xl, xc, u0, u1, ua, ul, uc, ⟨c0, c1, c2, c3, c4, c5, c6, c7, c8, c9⟩, _⟩ := ed_lit hLA
  obtain ⟨z0, z1, za, zl, zc, v0, v1, va, vl, vc, ⟨d0, d1, d2, d3, d4, d5, d6, d7, d8, d9⟩, _⟩ := ed_lit hB
  obtain ⟨f0, f1, gx, f3, ex, f5⟩ := x
  obtain ⟨k0, k1, gy, k3, ey, k5⟩ := y
  obtain ⟨_, _, hgx, _, hex, _⟩ := ed_lies hLA
  obtain ⟨_, _, hgy, _, hey, _⟩ := ed_lies hB
  rw [c2, c3, c4] at hgx
  rw [c6, c7, c8] at hex
  rw [d2, d3, d4] at hgy
  rw [d6, d7, d8] at hey
  rw [c2, c3, c4] at hsg
  rw [c6, c7, c8] at hsv
  rw [c0, c1, c2, c3, c4, c5, c6, c7, c8, c9, d0, d1, d2, d3, d4, d5, d6, d7, d8, d9]
  dsimp only at hd hsg hsv ⊢
  obtain ⟨W1, hW1⟩ : ∃ W1, W1 = (w.alloc (.cells #[.int .i64 f0, .int .i64 f1, .int .i64 x0, .int .i64 x1, .slice xa xl xc, .int .i64 f3, .int .i64 u0, .int .i64 u1, .slice ua ul uc, .int .i64 f5] 44)).alloc (.cells #[.int .i64 k0, .int .i64 k1, .int .i64 z0, .int .i64 z1, .slice za zl zc, .int .i64 k3, .int .i64 v0, .int .i64 v1, .slice va vl vc, .int .i64 k5] 44) := ⟨_, rfl⟩
  have hrows := two_boxes w 44 #[.int .i64 f0, .int .i64 f1, .int .i64 x0, .int .i64 x1, .slice xa xl xc, .int .i64 f3, .int .i64 u0, .int .i64 u1, .slice ua ul uc, .int .i64 f5] #[.int .i64 k0, .int .i64 k1, .int .i64 z0, .int .i64 z1, .slice za zl zc, .int .i64 k3, .int .i64 v0, .int .i64 v1, .slice va vl vc, .int .i64 k5]
  rw [← hW1] at hrows
  obtain ⟨hra, hrb, hb0⟩ := hrows
  have HW1 := Lib.hid hW1
  have HB0 := Lib.hid hb0
  have HRa := Lib.hid hra
  have HRb := Lib.hid hrb
  have HGx := Lib.hid (below_more hgx hb0 hb0.size)
  have HGy := Lib.hid (below_more hgy hb0 hb0.size)
  have HEx := Lib.hid (below_more hex hb0 hb0.size)
  have HEy := Lib.hid (below_more hey hb0 hb0.size)
  have HSg := Lib.hid (hsg.under hb0 hhi)
  have HSv := Lib.hid (hsv.under hb0 hhi)
  have HLo : Hid (lo ≤ W1.heap.size ∧ hi ≤ W1.heap.size) := by have := hb0.size; exact ⟨by omega, by omega⟩
  have HD : Hid (desc gx ≤ 1048576 ∧ desc ex ≤ 1048576) := ⟨by omega, by omega⟩
  have HF : Hid (edSame ⟨f0, f1, gx, f3, ex, f5⟩ ⟨k0, k1, gy, k3, ey, k5⟩ = (decide (f0 = k0) && (decide (f1 = k1) && (decide (f3 = k3) && (decide (f5 = k5) && (sameE gx gy && sameE ex ey)))))) := rfl
  obtain ⟨vv, hvv⟩ : ∃ v, v = edSame ⟨f0, f1, gx, f3, ex, f5⟩ ⟨k0, k1, gy, k3, ey, k5⟩ := ⟨_, rfl⟩
  rw [← hvv] at HF ⊢
  clear hvv hA hLA hB c0 c1 c2 c3 c4 c5 c6 c7 c8 c9 d0 d1 d2 d3 d4 d5 d6 d7 d8 d9 hgx hgy hex hey hW1 hra hrb hb0 hsg hsv hlo hhi hd
  by_cases h0 : f0 = k0
  case neg =>
    have HN : Hid (vv = false) := by show _ = _; rw [HF.out, decide_eq_false h0]; simp
    have cN : (f0 == k0) = false := by rw [beq_eq_false_iff_ne]; exact h0
    clear HF
    go_enter Try.func24, Try.ntmps24
    go_wp2_with fail
    rw [← HW1.out]
    go_ret
    exact ⟨ret_bool HN.out.symm, HB0.out⟩
  subst h0
  by_cases h1 : f1 = k1
  case neg =>
    have HN : Hid (vv = false) := by show _ = _; rw [HF.out, decide_eq_false h1]; simp
    have cN : (f1 == k1) = false := by rw [beq_eq_false_iff_ne]; exact h1
    clear HF
    go_enter Try.func24, Try.ntmps24
    go_wp2_with fail
    rw [← HW1.out]
    go_ret
    exact ⟨ret_bool HN.out.symm, HB0.out⟩
  subst h1
  by_cases h3 : f3 = k3
  case neg =>
    have HN : Hid (vv = false) := by show _ = _; rw [HF.out, decide_eq_false h3]; simp
    have cN : (f3 == k3) = false := by rw [beq_eq_false_iff_ne]; exact h3
    clear HF
    go_enter Try.func24, Try.ntmps24
    go_wp2_with fail
    rw [← HW1.out]
    go_ret
    exact ⟨ret_bool HN.out.symm, HB0.out⟩
  subst h3
  by_cases h5 : f5 = k5
  case neg =>
    have HN : Hid (vv = false) := by show _ = _; rw [HF.out, decide_eq_false h5]; simp
    have cN : (f5 == k5) = false := by rw [beq_eq_false_iff_ne]; exact h5
    clear HF
    go_enter Try.func24, Try.ntmps24
    go_wp2_with fail
    rw [← HW1.out]
    go_ret
    exact ⟨ret_bool HN.out.symm, HB0.out⟩
  subst h5
  have HF2 : Hid (vv = (sameE gx gy && sameE ex ey)) := by show _ = _; rw [HF.out]; simp
  obtain ⟨o1, ho1⟩ : ∃ o, o = sameE gx gy := ⟨_, rfl⟩
  obtain ⟨o2, ho2⟩ : ∃ o, o = sameE ex ey := ⟨_, rfl⟩
  have HO1 := Lib.hid ho1
  have HO2 := Lib.hid ho2
  rw [← ho1, ← ho2] at HF2
  clear HF ho1 ho2
  go_enter Try.func24, Try.ntmps24
  go_wp2_with fail
  rw [← HW1.out]
  refine (implSm_any gx gy _ _ _ _ _ _ lo hi W1 HSg.out HLo.out.1 HLo.out.2 HGy.out HD.out.1).mono ?_
  rintro e' w1 ⟨rfl, hb1⟩
  rw [← HO1.out]
  have HB1 := Lib.hid (HB0.out.trans (hb1.mono HB0.out.size))
  have HEx1 := Lib.hid (below_more HEx.out hb1 hb1.size)
  have HEy1 := Lib.hid (below_more HEy.out hb1 hb1.size)
  have HSv1 := Lib.hid (HSv.out.under hb1 HLo.out.2)
  have HLo1 : Hid (lo ≤ w1.heap.size ∧ hi ≤ w1.heap.size) := by have := hb1.size; have := HLo.out; exact ⟨by omega, by omega⟩
  have hra1 := HRa.out.under hb1 HRa.out.lt
  have hrb1 := HRb.out.under hb1 HRb.out.lt
  have g6 : w1.cell? ⟨w.heap.size, 6, none⟩ = some _ := hra1.cell 6
  have g7 : w1.cell? ⟨w.heap.size, 7, none⟩ = some _ := hra1.cell 7
  have g8 : w1.cell? ⟨w.heap.size, 8, none⟩ = some _ := hra1.cell 8
  have j6 : w1.cell? ⟨w.heap.size + 1, 6, none⟩ = some _ := hrb1.cell 6
  have j7 : w1.cell? ⟨w.heap.size + 1, 7, none⟩ = some _ := hrb1.cell 7
  have j8 : w1.cell? ⟨w.heap.size + 1, 8, none⟩ = some _ := hrb1.cell 8
  clear hb1 hra1 hrb1
  cases o1
  · go_wp2_with fail
    go_ret
    exact ⟨ret_bool (by rw [HF2.out]; rfl), HB1.out⟩
  go_wp2_with fail
  refine (implSm_any ex ey _ _ _ _ _ _ lo hi w1 HSv1.out HLo1.out.1 HLo1.out.2 HEy1.out HD.out.2).mono ?_
  rintro e' w2 ⟨rfl, hb2⟩
  rw [← HO2.out]
  have HB2 := Lib.hid (HB1.out.trans (hb2.mono HB1.out.size))
  clear hb2
  go_wp2_with fail
  go_ret
  exact ⟨ret_bool (by rw [HF2.out]; rfl), HB2.out⟩

end Go.Proofs.Ytgdhmdhbpakahaa
