/- The walks of impl.onlyValid and impl.NegateFormula. -/
import Derived.Test.YtgigngpogbkpoaaDoorNgP
import Derived.Test.YtgigngpogbkpoaaDoorCpI
import Derived.Test.YtgigngpogbkpoaaDoorFvN
namespace Go.Proofs.YtgigngpogbkpoaaDoor
open Go.RowKit

/-- The world behind the three stores of a result, and what is kept. -/
theorem sets3 {w wl : World} {n : Nat} (hb : Below w.heap.size w wl) (hn : w.heap.size ≤ n) (u0 u1 u2 : Value) :
    Below w.heap.size w (((wl.setCell ⟨n, 0, none⟩ u0).setCell ⟨n, 1, none⟩ u1).setCell ⟨n, 2, none⟩ u2) ∧ (((wl.setCell ⟨n, 0, none⟩ u0).setCell ⟨n, 1, none⟩ u1).setCell ⟨n, 2, none⟩ u2).heap.size = wl.heap.size ∧ ∀ q, q ≠ n → (((wl.setCell ⟨n, 0, none⟩ u0).setCell ⟨n, 1, none⟩ u1).setCell ⟨n, 2, none⟩ u2).heap[q]? = wl.heap[q]? :=
  ⟨((hb.setCell hn _).setCell hn _).setCell hn _, by simp, fun q hq => by rw [Below.heap_setCell _ _ _ _ (by simpa using hq), Below.heap_setCell _ _ _ _ (by simpa using hq), Below.heap_setCell _ _ _ _ (by simpa using hq)]⟩

set_option maxHeartbeats 1000000 in
set_option maxRecDepth 100000 in
theorem only_any (e : Ex) (c0 c1 c2 : Value) (lo : Nat) (w : World) (hF : Forms w) (hS : SepF w lo w.heap.size e c0 c1 c2) (hd : desc e ≤ 1048576) :
    Calls Tryd.prog 30 #[.agg #[c0, c1, c2]] w (FbPost lo (onlyOut e) (fValid e) w) := by
  obtain ⟨n0, n1, a2, l2, cp2, rfl, rfl, rfl⟩ := hS.form
  obtain ⟨W2, hW2⟩ : ∃ W2, W2 = (w.alloc (.cells #[.int .i64 n0, .int .i64 n1, .slice a2 l2 cp2] 29)).alloc (.cells #[.int .i64 0, .int .i64 0, .slice none 0 0] 29) := ⟨_, rfl⟩
  have hrows := two_boxes w 29 #[.int .i64 n0, .int .i64 n1, .slice a2 l2 cp2] #[.int .i64 0, .int .i64 0, .slice none 0 0]
  rw [← hW2] at hrows
  obtain ⟨hr0, hr1, hb2⟩ := hrows
  have HW2 := Lib.hid hW2
  have HR0 := Lib.hid hr0
  have HR1 := Lib.hid hr1
  have HB2 := Lib.hid hb2
  have HS2 := Lib.hid (hS.under hb2 (Nat.le_refl _))
  have HF2 := Lib.hid (hF.later hb2)
  have hs2 : W2.heap.size = w.heap.size + 2 := by rw [hW2]; simp
  clear hW2 hr0 hr1 hb2 hS hF
  obtain ⟨vb, hvb⟩ : ∃ vb, vb = fValid e := ⟨_, rfl⟩
  have HV := Lib.hid hvb
  clear hvb
  go_enter Tryd.func30, Tryd.ntmps30
  go_wp2_with fail
  rw [← HW2.out]
  refine (implFv_any e _ _ _ _ HF2.out (HS2.out.own.lies.more (by omega)) hd).mono ?_
  rintro e' w1 ⟨rfl, hb1⟩
  rw [← HV.out]
  have h0 := HR0.out.under hb1 HR0.out.lt
  have h1 := HR1.out.under hb1 HR1.out.lt
  have p0 : w1.cell? ⟨w.heap.size, 0, none⟩ = some (.int .i64 n0) := h0.cell 0
  have p1 : w1.cell? ⟨w.heap.size, 1, none⟩ = some (.int .i64 n1) := h0.cell 1
  have p2 : w1.cell? ⟨w.heap.size, 2, none⟩ = some (.slice a2 l2 cp2) := h0.cell 2
  have y0 : w1.cell? ⟨w.heap.size + 1, 0, none⟩ = some (.int .i64 0) := h1.cell 0
  have y1 : w1.cell? ⟨w.heap.size + 1, 1, none⟩ = some (.int .i64 0) := h1.cell 1
  have y2 : w1.cell? ⟨w.heap.size + 1, 2, none⟩ = some (.slice none 0 0) := h1.cell 2
  have z0 := h1.frozen 0
  have z1 := h1.frozen 1
  have z2 := h1.frozen 2
  have HS1 := Lib.hid (HS2.out.under hb1 (by omega))
  have HB1 := Lib.hid (HB2.out.trans (hb1.mono HB2.out.size))
  have hsz : w.heap.size + 2 ≤ w1.heap.size := by have := hb1.size; omega
  clear hb1 h0 h1 HR0 HR1 HB2 HS2 HF2 HW2
  cases vb
  · have HO : Hid (onlyOut e = zeroE) := by show _ = _; unfold onlyOut; rw [← HV.out]; rfl
    go_wp2_with fail
    refine bodyPost_ret (v := .tuple #[.agg #[.int .i64 0, .int .i64 0, .slice none 0 0], .bool false]) (by simp [results, Tryd.results30, go_sem, y0, y1, y2]) rfl ?_
    have hf := sets3 HB1.out (n := w.heap.size + 1) (by omega) (.int .i64 0) (.int .i64 0) (.slice none 0 0)
    exact ⟨_, _, _, _, _, by rw [← HV.out], by rw [HO.out]; exact SepF.zero _ _ _, hf.1⟩
  · have HO : Hid (onlyOut e = e) := by show _ = _; unfold onlyOut; rw [← HV.out]; rfl
    go_wp2_with fail
    refine bodyPost_ret (v := .tuple #[.agg #[.int .i64 n0, .int .i64 n1, .slice a2 l2 cp2], .bool true]) (by simp [results, Tryd.results30, go_sem, y0, y1, y2]) rfl ?_
    have hf := sets3 HB1.out (n := w.heap.size + 1) (by omega) (.int .i64 n0) (.int .i64 n1) (.slice a2 l2 cp2)
    exact ⟨_, _, _, _, _, by rw [← HV.out], by rw [HO.out]; exact (HS1.out.keep fun q _ q2 => hf.2.2 q (by omega)).more (Nat.le_refl _) (by rw [hf.2.1]; omega), hf.1⟩

set_option maxHeartbeats 2000000 in
set_option maxRecDepth 100000 in
theorem implNg_any (e : Ex) (c0 c1 c2 : Value) (w : World) (hF : Forms w) (hL : Lies w w.heap.size e c0 c1 c2) (hd : desc e ≤ 1048576) :
    Calls Tryd.prog 15 #[.agg #[c0, c1, c2]] w (FbPost w.heap.size (negOut e) (negOk e) w) := by
  obtain ⟨k, v, kids⟩ := e
  obtain ⟨A, cap, b, off, C0, C1, C2, rfl, rfl, rfl, hl, hO⟩ := hL.open_
  obtain ⟨W2, hW2⟩ : ∃ W2, W2 = (w.alloc (.cells #[.int .i64 k, .int .i64 v, .slice A kids.length cap] 29)).alloc (.cells #[.int .i64 0, .int .i64 0, .slice none 0 0] 29) := ⟨_, rfl⟩
  have hrows := two_boxes w 29 #[.int .i64 k, .int .i64 v, .slice A kids.length cap] #[.int .i64 0, .int .i64 0, .slice none 0 0]
  rw [← hW2] at hrows
  obtain ⟨hr0, hr1, hb2⟩ := hrows
  have HW2 := Lib.hid hW2
  have HR0 := Lib.hid hr0
  have HR1 := Lib.hid hr1
  have HB2 := Lib.hid hb2
  have HL2 := Lib.hid (below_more hL hb2 hb2.size)
  have HO2 := Lib.hid (hO.grow hb2 hb2.size)
  have HF2 := Lib.hid (hF.later hb2)
  have hs2 : W2.heap.size = w.heap.size + 2 := by rw [hW2]; simp
  clear hW2 hr0 hr1 hb2 hL hF hO hl
  obtain ⟨vb, hvb⟩ : ∃ vb, vb = fValid (.node k v kids) := ⟨_, rfl⟩
  have HV := Lib.hid hvb
  clear hvb
  have HD := Lib.hid hd
  go_enter Tryd.func15, Tryd.ntmps15
  go_wp2_with fail
  rw [← HW2.out]
  refine (implFv_any _ _ _ _ _ HF2.out HL2.out hd).mono ?_
  rintro e' w1 ⟨rfl, hb1⟩
  rw [← HV.out]
  have h0 := HR0.out.under hb1 HR0.out.lt
  have h1 := HR1.out.under hb1 HR1.out.lt
  have HR01 := Lib.hid h0
  have HR11 := Lib.hid h1
  have p0 : w1.cell? ⟨w.heap.size, 0, none⟩ = some (.int .i64 k) := h0.cell 0
  have p1 : w1.cell? ⟨w.heap.size, 1, none⟩ = some (.int .i64 v) := h0.cell 1
  have p2 : w1.cell? ⟨w.heap.size, 2, none⟩ = some (.slice A kids.length cap) := h0.cell 2
  have HL1 := Lib.hid (below_more HL2.out hb1 hb1.size)
  have HO1 := Lib.hid (HO2.out.grow hb1 hb1.size)
  have HF1 := Lib.hid (HF2.out.later hb1)
  have HB1 := Lib.hid (HB2.out.trans (hb1.mono HB2.out.size))
  have hsz : w.heap.size + 2 ≤ w1.heap.size := by have := hb1.size; omega
  cases vb
  · have HO : Hid (negOut (.node k v kids) = zeroE) := by show _ = _; simp only [negOut]; rw [← HV.out]; rfl
    have HK : Hid (negOk (.node k v kids) = false) := by show _ = _; simp only [negOk]; rw [← HV.out]; rfl
    have y0 : w1.cell? ⟨w.heap.size + 1, 0, none⟩ = some (.int .i64 0) := h1.cell 0
    have y1 : w1.cell? ⟨w.heap.size + 1, 1, none⟩ = some (.int .i64 0) := h1.cell 1
    have y2 : w1.cell? ⟨w.heap.size + 1, 2, none⟩ = some (.slice none 0 0) := h1.cell 2
    have z0 := h1.frozen 0
    have z1 := h1.frozen 1
    have z2 := h1.frozen 2
    clear hb1 h0 h1 HR0 HR1 HB2 HF2 HW2 HL2 HO2
    go_wp2_with fail
    refine bodyPost_ret (v := .tuple #[.agg #[.int .i64 0, .int .i64 0, .slice none 0 0], .bool false]) (by simp [results, Tryd.results15, go_sem, y0, y1, y2]) rfl ?_
    have hf := sets3 HB1.out (n := w.heap.size + 1) (by omega) (.int .i64 0) (.int .i64 0) (.slice none 0 0)
    exact ⟨_, _, _, _, _, by rw [HK.out], by rw [HO.out]; exact SepF.zero _ _ _, hf.1⟩
  · clear hb1 h0 h1 HR0 HR1 HB2 HF2 HW2 HL2 HO2
    by_cases h3 : k = 3
    · subst h3
      obtain ⟨x, rfl⟩ := fValid_three HV.out
      have HO : Hid (negOut (.node 3 v [x]) = x) := by show _ = _; simp only [negOut]; rw [← HV.out]; rfl
      have HK : Hid (negOk (.node 3 v [x]) = true) := by show _ = _; simp only [negOk]; rw [← HV.out]; rfl
      obtain ⟨rfl, hbl, g0, g1, g2, gl⟩ := HO1.out 0 x rfl
      simp only [Nat.zero_mul, Nat.add_zero] at g0 g1 g2
      have HG := Lib.hid gl
      have hdx : desc x ≤ 1048576 := by have := HD.out; simp only [desc, descL] at this; omega
      clear gl
      go_wp2_with fail
      refine (cpI_any x _ _ _ _ HG.out hdx).mono ?_
      rintro e' w3 ⟨d0, d1, d2, rfl, hsp, hb3⟩
      obtain ⟨i0, i1, ia, il, ic, rfl, rfl, rfl⟩ := hsp.form
      have HSp := Lib.hid hsp
      have h1 := HR11.out.under hb3 HR11.out.lt
      have y0 : w3.cell? ⟨w.heap.size + 1, 0, none⟩ = some (.int .i64 0) := h1.cell 0
      have y1 : w3.cell? ⟨w.heap.size + 1, 1, none⟩ = some (.int .i64 0) := h1.cell 1
      have y2 : w3.cell? ⟨w.heap.size + 1, 2, none⟩ = some (.slice none 0 0) := h1.cell 2
      have z0 := h1.frozen 0
      have z1 := h1.frozen 1
      have z2 := h1.frozen 2
      have HB3 := Lib.hid (HB1.out.trans (hb3.mono HB1.out.size))
      clear hb3 h1 hsp HR01 HR11 HB1
      go_wp2_with fail
      refine bodyPost_ret (v := .tuple #[.agg #[.int .i64 i0, .int .i64 i1, .slice ia il ic], .bool true]) (by simp [results, Tryd.results15, go_sem, y0, y1, y2]) rfl ?_
      have hf := sets3 HB3.out (n := w.heap.size + 1) (by omega) (.int .i64 i0) (.int .i64 i1) (.slice ia il ic)
      exact ⟨_, _, _, _, _, by rw [HK.out], by rw [HO.out]; exact (HSp.out.keep fun q q1 _ => hf.2.2 q (by omega)).more (by omega) (by rw [hf.2.1]; exact Nat.le_refl _), hf.1⟩
    · have HO : Hid (negOut (.node k v kids) = onlyOut (fNot (.node k v kids))) := by show _ = _; simp only [negOut]; rw [← HV.out, if_neg h3]; rfl
      have HK : Hid (negOk (.node k v kids) = fValid (fNot (.node k v kids))) := by show _ = _; simp only [negOk]; rw [← HV.out, decide_eq_false h3]; rfl
      have h3b : (k == 3) = false := by simpa using h3
      go_wp2_with fail
      refine (cpI_any _ _ _ _ _ HL1.out hd).mono ?_
      rintro e' w3 ⟨d0, d1, d2, rfl, hsp, hb3⟩
      obtain ⟨i0, i1, ia, il, ic, rfl, rfl, rfl⟩ := hsp.form
      obtain ⟨W4, hW4⟩ : ∃ W4, W4 = w3.alloc (.cells #[.int .i64 i0, .int .i64 i1, .slice ia il ic] 29) := ⟨_, rfl⟩
      have hb4 : Below w3.heap.size w3 W4 := by rw [hW4]; exact (Below.refl _ _).alloc (Nat.le_refl _) _
      have hr4 : Row W4 w3.heap.size 29 #[.int .i64 i0, .int .i64 i1, .slice ia il ic] := by rw [hW4]; exact Row.new _ _ _
      have hs13 := hb3.size
      have hs34 := hb4.size
      have HS4 := Lib.hid ((hsp.under hb4 (Nat.le_refl _)).above (by omega) hr4 3 0 1)
      have HF4 := Lib.hid ((HF1.out.later hb3).later hb4)
      have HR14 := Lib.hid ((HR11.out.under hb3 HR11.out.lt).under hb4 (by have := HR11.out.lt; omega))
      have HB4 := Lib.hid ((HB1.out.trans (hb3.mono HB1.out.size)).trans (hb4.mono (by omega)))
      have HW4 := Lib.hid hW4
      have HDn : Hid (desc (fNot (.node k v kids)) ≤ 12) := by show _ ≤ _; rw [desc_fNot]; have := desc_valid HV.out; omega
      clear hb3 hsp hb4 hr4 hW4 HR01 HR11 HB1 HF1 p0 p1 p2
      go_wp2_with fail
      rw [← HW4.out]
      refine (only_any (fNot (.node k v kids)) _ _ _ w1.heap.size _ HF4.out HS4.out (by have := HDn.out; omega)).mono ?_
      rintro e' w5 ⟨x0, x1, xa, xl, xc, rfl, hs5, hb5⟩
      have HS5 := Lib.hid hs5
      have h1 := HR14.out.under hb5 HR14.out.lt
      have y0 : w5.cell? ⟨w.heap.size + 1, 0, none⟩ = some (.int .i64 0) := h1.cell 0
      have y1 : w5.cell? ⟨w.heap.size + 1, 1, none⟩ = some (.int .i64 0) := h1.cell 1
      have y2 : w5.cell? ⟨w.heap.size + 1, 2, none⟩ = some (.slice none 0 0) := h1.cell 2
      have z0 := h1.frozen 0
      have z1 := h1.frozen 1
      have z2 := h1.frozen 2
      have HB5 := Lib.hid (HB4.out.trans (hb5.mono HB4.out.size))
      rw [← HK.out]
      obtain ⟨ok, hok⟩ : ∃ ok, ok = negOk (.node k v kids) := ⟨_, rfl⟩
      rw [← hok]
      have HOk := Lib.hid hok
      clear hb5 h1 hs5 HB4 hok
      go_wp2_with fail
      refine bodyPost_ret (v := .tuple #[.agg #[.int .i64 x0, .int .i64 x1, .slice xa xl xc], .bool ok]) (by simp [results, Tryd.results15, go_sem, y0, y1, y2]) rfl ?_
      have hf := sets3 HB5.out (n := w.heap.size + 1) (by omega) (.int .i64 x0) (.int .i64 x1) (.slice xa xl xc)
      exact ⟨_, _, _, _, _, by rw [HOk.out], by rw [HO.out]; exact (HS5.out.keep fun q q1 _ => hf.2.2 q (by omega)).more (by omega) (by rw [hf.2.1]; exact Nat.le_refl _), hf.1⟩

end Go.Proofs.YtgigngpogbkpoaaDoor
