/- The walk of impl.onlyValid. -/
import Derived.Test.YthcohnceehndfaaDoorNgP
import Derived.Test.YthcohnceehndfaaDoorFvN
import Derived.Test.YthcohnceehndfaaDoorW7F
namespace Go.Proofs.YthcohnceehndfaaDoor
open Go.RowKit

/-- The world behind the three stores of a result, and what is kept. -/
theorem sets3 {w wl : World} {n : Nat} (hb : Below w.heap.size w wl) (hn : w.heap.size ≤ n) (u0 u1 u2 : Value) :
    Below w.heap.size w (((wl.setCell ⟨n, 0, none⟩ u0).setCell ⟨n, 1, none⟩ u1).setCell ⟨n, 2, none⟩ u2) ∧ (((wl.setCell ⟨n, 0, none⟩ u0).setCell ⟨n, 1, none⟩ u1).setCell ⟨n, 2, none⟩ u2).heap.size = wl.heap.size ∧ ∀ q, q ≠ n → (((wl.setCell ⟨n, 0, none⟩ u0).setCell ⟨n, 1, none⟩ u1).setCell ⟨n, 2, none⟩ u2).heap[q]? = wl.heap[q]? :=
  ⟨((hb.setCell hn _).setCell hn _).setCell hn _, by simp, fun q hq => by rw [Below.heap_setCell _ _ _ _ (by simpa using hq), Below.heap_setCell _ _ _ _ (by simpa using hq), Below.heap_setCell _ _ _ _ (by simpa using hq)]⟩

set_option maxHeartbeats 1000000 in
set_option maxRecDepth 100000 in
theorem only_any (e : Ex) (c0 c1 c2 : Value) (lo : Nat) (w : World) (hF : Forms w) (hS : SepF w lo w.heap.size e c0 c1 c2) (hd : desc e ≤ 1048576) :
    Calls Tryd.prog 33 #[.agg #[c0, c1, c2]] w (FbPost lo (onlyOut e) (fValid e) w) := by
  obtain ⟨n0, n1, a2, l2, cp2, rfl, rfl, rfl⟩ := hS.form
  obtain ⟨W2, hW2⟩ : ∃ W2, W2 = (w.alloc (.cells #[.int .i64 n0, .int .i64 n1, .slice a2 l2 cp2] 25)).alloc (.cells #[.int .i64 0, .int .i64 0, .slice none 0 0] 25) := ⟨_, rfl⟩
  have hrows := two_boxes w 25 #[.int .i64 n0, .int .i64 n1, .slice a2 l2 cp2] #[.int .i64 0, .int .i64 0, .slice none 0 0]
  rw [← hW2] at hrows
  obtain ⟨hr0, hr1, hb2⟩ := hrows
  have HW2 := Lib.hid hW2
  have HR0 := Lib.hid hr0
  have HR1 := Lib.hid hr1
  have HB2 := Lib.hid hb2
  have HS2 := Lib.hid (hS.under hb2 (Nat.le_refl _))
  have HF2 := Lib.hid (hF.later hb2)
  have hs2 : W2.heap.size = w.heap.size + 2 := by rw [hW2]; simp
  clear hW2 hr0 hr1 hb2 hS hF
  obtain ⟨vb, hvb⟩ : ∃ vb, vb = fValid e := ⟨_, rfl⟩
  have HV := Lib.hid hvb
  clear hvb
  go_enter Tryd.func33, Tryd.ntmps33
  go_wp2_with fail
  rw [← HW2.out]
  refine (implFv_any e _ _ _ _ HF2.out (HS2.out.own.lies.more (by omega)) hd).mono ?_
  rintro e' w1 ⟨rfl, hb1⟩
  rw [← HV.out]
  have h0 := HR0.out.under hb1 HR0.out.lt
  have h1 := HR1.out.under hb1 HR1.out.lt
  have p0 : w1.cell? ⟨w.heap.size, 0, none⟩ = some (.int .i64 n0) := h0.cell 0
  have p1 : w1.cell? ⟨w.heap.size, 1, none⟩ = some (.int .i64 n1) := h0.cell 1
  have p2 : w1.cell? ⟨w.heap.size, 2, none⟩ = some (.slice a2 l2 cp2) := h0.cell 2
  have y0 : w1.cell? ⟨w.heap.size + 1, 0, none⟩ = some (.int .i64 0) := h1.cell 0
  have y1 : w1.cell? ⟨w.heap.size + 1, 1, none⟩ = some (.int .i64 0) := h1.cell 1
  have y2 : w1.cell? ⟨w.heap.size + 1, 2, none⟩ = some (.slice none 0 0) := h1.cell 2
  have z0 := h1.frozen 0
  have z1 := h1.frozen 1
  have z2 := h1.frozen 2
  have HS1 := Lib.hid (HS2.out.under hb1 (by omega))
  have HB1 := Lib.hid (HB2.out.trans (hb1.mono HB2.out.size))
  have hsz : w.heap.size + 2 ≤ w1.heap.size := by have := hb1.size; omega
  clear hb1 h0 h1 HR0 HR1 HB2 HS2 HF2 HW2
  cases vb
  · have HO : Hid (onlyOut e = zeroE) := by show _ = _; unfold onlyOut; rw [← HV.out]; rfl
    go_wp2_with fail
    refine bodyPost_ret (v := .tuple #[.agg #[.int .i64 0, .int .i64 0, .slice none 0 0], .bool false]) (by simp [results, Tryd.results33, go_sem, y0, y1, y2]) rfl ?_
    have hf := sets3 HB1.out (n := w.heap.size + 1) (by omega) (.int .i64 0) (.int .i64 0) (.slice none 0 0)
    exact ⟨_, _, _, _, _, by rw [← HV.out], by rw [HO.out]; exact SepF.zero _ _ _, hf.1⟩
  · have HO : Hid (onlyOut e = e) := by show _ = _; unfold onlyOut; rw [← HV.out]; rfl
    go_wp2_with fail
    refine bodyPost_ret (v := .tuple #[.agg #[.int .i64 n0, .int .i64 n1, .slice a2 l2 cp2], .bool true]) (by simp [results, Tryd.results33, go_sem, y0, y1, y2]) rfl ?_
    have hf := sets3 HB1.out (n := w.heap.size + 1) (by omega) (.int .i64 n0) (.int .i64 n1) (.slice a2 l2 cp2)
    exact ⟨_, _, _, _, _, by rw [← HV.out], by rw [HO.out]; exact (HS1.out.keep fun q _ q2 => hf.2.2 q (by omega)).more (Nat.le_refl _) (by rw [hf.2.1]; omega), hf.1⟩

end Go.Proofs.YthcohnceehndfaaDoor
