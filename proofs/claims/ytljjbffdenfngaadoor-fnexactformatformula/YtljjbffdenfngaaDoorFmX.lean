/- The walks of spec.FormatFormula and impl.FormatFormula. -/
import Derived.Test.YtljjbffdenfngaaDoorFmS
import Derived.Test.YtljjbffdenfngaaDoorFmW
import Derived.Test.YtljjbffdenfngaaDoorFvW
import Derived.Test.YtljjbffdenfngaaDoorLyF
namespace Go.Proofs.YtljjbffdenfngaaDoor
open Go.RowKit

set_option maxHeartbeats 400000 in
set_option maxRecDepth 100000 in
theorem specFm_any (e : Ex) (c0 c1 c2 : Value) (w : World) (hL : Lies w w.heap.size e c0 c1 c2) (hd : desc e ≤ 1048576) :
    Calls Tryd.prog 14 #[.agg #[c0, c1, c2]] w (FmPost (fmtFX e) w) := by
  obtain ⟨n0, n1, a2, l2, cp2, rfl, rfl, rfl⟩ := hL.form
  obtain ⟨W1, hW1⟩ : ∃ W1, W1 = w.alloc (.cells #[.int .i64 n0, .int .i64 n1, .slice a2 l2 cp2] 29) := ⟨_, rfl⟩
  have hb0 : Below w.heap.size w W1 := by rw [hW1]; exact (Below.refl _ _).alloc (Nat.le_refl _) _
  have HR : Hid (Row W1 w.heap.size 29 #[.int .i64 n0, .int .i64 n1, .slice a2 l2 cp2]) := by rw [hW1]; exact Row.new _ _ _
  have HW1 := Lib.hid hW1
  have HL := Lib.hid (below_more hL hb0 hb0.size)
  have HB0 := Lib.hid hb0
  clear hL hW1 hb0
  obtain ⟨vb, hvb⟩ : ∃ vb, vb = fValid e := ⟨_, rfl⟩
  have HV := Lib.hid hvb
  clear hvb
  go_enter Tryd.func14, Tryd.ntmps14
  go_wp2_with fail
  rw [← HW1.out]
  refine (specFv_any e _ _ _ _ HL.out hd).mono ?_
  rintro e' w1 ⟨rfl, hb1⟩
  rw [← HV.out]
  have HL1 := Lib.hid (below_more HL.out hb1 hb1.size)
  have HB1 := Lib.hid (HB0.out.trans (hb1.mono HB0.out.size))
  obtain ⟨g0, g1, g2⟩ := (HR.out.under hb1 HR.out.lt).threeF
  clear hb1
  cases vb
  · have HN : Hid (fmtFX e = ⟨#[]⟩) := by show _ = _; unfold fmtFX; rw [← HV.out]; rfl
    go_wp2_with fail
    go_ret
    exact ⟨ret_str HN.out.symm, HB1.out⟩
  · have HN : Hid (fmtFX e = fmtF 6 e) := by show _ = _; unfold fmtFX; rw [← HV.out]; rfl
    go_wp2_with fail
    refine (fmtS_any 6 (by omega) e _ _ _ _ (fShape_of_valid HV.out) HL1.out).mono ?_
    rintro e' w2 ⟨rfl, hb2⟩
    rw [← HN.out]
    have HB2 := Lib.hid (HB1.out.trans (hb2.mono HB1.out.size))
    obtain ⟨F, hF⟩ : ∃ F, F = fmtFX e := ⟨_, rfl⟩
    rw [← hF]
    have HF := Lib.hid hF
    clear hb2 hF
    go_wp2_with fail
    go_ret
    exact ⟨ret_str HF.out, HB2.out⟩

set_option maxHeartbeats 400000 in
set_option maxRecDepth 100000 in
theorem implFm_any (e : Ex) (c0 c1 c2 : Value) (w : World) (hF : Forms w) (hL : Lies w w.heap.size e c0 c1 c2) (hd : desc e ≤ 1048576) :
    Calls Tryd.prog 15 #[.agg #[c0, c1, c2]] w (FmPost (fmtFX e) w) := by
  obtain ⟨n0, n1, a2, l2, cp2, rfl, rfl, rfl⟩ := hL.form
  obtain ⟨W1, hW1⟩ : ∃ W1, W1 = w.alloc (.cells #[.int .i64 n0, .int .i64 n1, .slice a2 l2 cp2] 29) := ⟨_, rfl⟩
  have hb0 : Below w.heap.size w W1 := by rw [hW1]; exact (Below.refl _ _).alloc (Nat.le_refl _) _
  have HR : Hid (Row W1 w.heap.size 29 #[.int .i64 n0, .int .i64 n1, .slice a2 l2 cp2]) := by rw [hW1]; exact Row.new _ _ _
  have HW1 := Lib.hid hW1
  have HF1 := Lib.hid (hF.later hb0)
  have HL := Lib.hid (below_more hL hb0 hb0.size)
  have HB0 := Lib.hid hb0
  clear hL hW1 hb0 hF
  obtain ⟨vb, hvb⟩ : ∃ vb, vb = fValid e := ⟨_, rfl⟩
  have HV := Lib.hid hvb
  clear hvb
  go_enter Tryd.func15, Tryd.ntmps15
  go_wp2_with fail
  rw [← HW1.out]
  refine (implFv_any e _ _ _ _ HF1.out HL.out hd).mono ?_
  rintro e' w1 ⟨rfl, hb1⟩
  rw [← HV.out]
  have HL1 := Lib.hid (below_more HL.out hb1 hb1.size)
  have HB11 := Lib.hid hb1
  have HB1 := Lib.hid (HB0.out.trans (hb1.mono HB0.out.size))
  obtain ⟨g0, g1, g2⟩ := (HR.out.under hb1 HR.out.lt).threeF
  clear hb1
  cases vb
  · have HN : Hid (fmtFX e = ⟨#[]⟩) := by show _ = _; unfold fmtFX; rw [← HV.out]; rfl
    go_wp2_with fail
    go_ret
    exact ⟨ret_str HN.out.symm, HB1.out⟩
  · have HN : Hid (fmtFX e = fmtF 6 e) := by show _ = _; unfold fmtFX; rw [← HV.out]; rfl
    go_wp2_with fail
    refine (foldT_any 6 (by omega) e _ _ _ _ (HF1.out.later HB11.out) (fShape_of_valid HV.out) HL1.out).mono ?_
    rintro e' w2 ⟨rfl, hb2⟩
    rw [← HN.out]
    have HB2 := Lib.hid (HB1.out.trans (hb2.mono HB1.out.size))
    obtain ⟨F, hF⟩ : ∃ F, F = fmtFX e := ⟨_, rfl⟩
    rw [← hF]
    have HF := Lib.hid hF
    clear hb2 hF
    go_wp2_with fail
    go_ret
    exact ⟨ret_str HF.out, HB2.out⟩

theorem specFmC_any (e : Ex) (C : Nat → Value) (w : World) (hL : Lay.fo.lies w w.heap.size e C) (hd : Lay.fo.sz e ≤ 1048576) :
    Calls Tryd.prog 14 #[.agg #[C 0, C 1, C 2]] w (FmPost (fmtFX e) w) := specFm_any e _ _ _ w hL hd
theorem implFmC_any (e : Ex) (C : Nat → Value) (w : World) (hF : Forms w) (hL : Lay.fo.lies w w.heap.size e C) (hd : Lay.fo.sz e ≤ 1048576) :
    Calls Tryd.prog 15 #[.agg #[C 0, C 1, C 2]] w (FmPost (fmtFX e) w) := implFm_any e _ _ _ w hF hL hd

end Go.Proofs.YtljjbffdenfngaaDoor
