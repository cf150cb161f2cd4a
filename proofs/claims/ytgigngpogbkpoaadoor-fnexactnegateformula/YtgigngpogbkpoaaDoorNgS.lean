/- The walks of spec.l5Not and spec.NegateFormula. -/
import Derived.Test.YtgigngpogbkpoaaDoorNgP
import Derived.Test.YtgigngpogbkpoaaDoorCpS
import Derived.Test.YtgigngpogbkpoaaDoorFvS
namespace Go.Proofs.YtgigngpogbkpoaaDoor
open Go.RowKit

theorem sets3S {w wl : World} {n : Nat} (hb : Below w.heap.size w wl) (hn : w.heap.size ≤ n) (u0 u1 u2 : Value) :
    Below w.heap.size w (((wl.setCell ⟨n, 0, none⟩ u0).setCell ⟨n, 1, none⟩ u1).setCell ⟨n, 2, none⟩ u2) ∧ (((wl.setCell ⟨n, 0, none⟩ u0).setCell ⟨n, 1, none⟩ u1).setCell ⟨n, 2, none⟩ u2).heap.size = wl.heap.size ∧ ∀ q, q ≠ n → (((wl.setCell ⟨n, 0, none⟩ u0).setCell ⟨n, 1, none⟩ u1).setCell ⟨n, 2, none⟩ u2).heap[q]? = wl.heap[q]? :=
  ⟨((hb.setCell hn _).setCell hn _).setCell hn _, by simp, fun q hq => by rw [Below.heap_setCell _ _ _ _ (by simpa using hq), Below.heap_setCell _ _ _ _ (by simpa using hq), Below.heap_setCell _ _ _ _ (by simpa using hq)]⟩

theorem Own.zeroF (w : World) (t : TypeId) (lo hi : Nat) : Own w t lo hi zeroE (.int .i64 0) (.int .i64 0) (.slice none 0 0) :=
  .mk 0 0 [] none 0 0 #[] (fun _ => undef) (fun _ => undef) (fun _ => undef) (Nat.zero_le _) (fun i x hx => by simp at hx) (fun i x hx => by simp at hx) (fun i x hx => by simp at hx) (fun i x hx => by simp at hx) (fun i x hx => by simp at hx)

/-- What a function leaves that answers a formula of the call's own, from block lo on. -/
def OwPost (lo : Nat) (T : Ex) (w : World) (e' : Ending) (w' : World) : Prop :=
  ∃ (x0 x1 : Int) (xa : Option Addr) (xl xc : Nat), e' = .returned (.agg #[.int .i64 x0, .int .i64 x1, .slice xa xl xc]) ∧ Own w' 29 lo w'.heap.size T (.int .i64 x0) (.int .i64 x1) (.slice xa xl xc) ∧ Below w.heap.size w w'

set_option maxHeartbeats 1000000 in
set_option maxRecDepth 100000 in
theorem notS_any (e : Ex) (c0 c1 c2 : Value) (lo : Nat) (w : World) (hO : Own w 29 lo w.heap.size e c0 c1 c2) (hlo : lo ≤ w.heap.size) :
    Calls Tryd.prog 28 #[.agg #[c0, c1, c2]] w (OwPost lo (fNot e) w) := by
  obtain ⟨n0, n1, a2, l2, cp2, rfl, rfl, rfl⟩ := hO.form
  obtain ⟨W3, hW3⟩ : ∃ W3, W3 = ((w.alloc (.cells #[.int .i64 n0, .int .i64 n1, .slice a2 l2 cp2] 29)).alloc (.cells #[.int .i64 3, .int .i64 0, .slice (some ⟨w.heap.size + 1 + 1, 0, none⟩) 1 1] 29)).alloc (.cells #[.int .i64 n0, .int .i64 n1, .slice a2 l2 cp2] 29) := ⟨_, rfl⟩
  have hrows := three_boxes w 29 29 29 #[.int .i64 n0, .int .i64 n1, .slice a2 l2 cp2] #[.int .i64 3, .int .i64 0, .slice (some ⟨w.heap.size + 1 + 1, 0, none⟩) 1 1] #[.int .i64 n0, .int .i64 n1, .slice a2 l2 cp2]
  rw [← hW3] at hrows
  obtain ⟨_, hr1, hr2, hb3, hz3⟩ := hrows
  have h3 := ((hO.under hb3 (Nat.le_refl _)).more (Nat.le_refl lo) hb3.size).aboveF (g := w.heap.size + 1 + 1) (by omega) hr2 3 0 1
  have y0 : W3.cell? ⟨w.heap.size + 1, 0, none⟩ = some (.int .i64 3) := hr1.cell 0
  have y1 : W3.cell? ⟨w.heap.size + 1, 1, none⟩ = some (.int .i64 0) := hr1.cell 1
  have y2 : W3.cell? ⟨w.heap.size + 1, 2, none⟩ = some (.slice (some ⟨w.heap.size + 1 + 1, 0, none⟩) 1 1) := hr1.cell 2
  have HO := Lib.hid h3
  have HB := Lib.hid hb3
  have HW3 := Lib.hid hW3
  clear hW3 hr1 hr2 hb3 h3 hO
  go_enter Tryd.func28, Tryd.ntmps28
  go_wp2_with fail
  rw [← HW3.out]
  refine bodyPost_ret (v := .agg #[.int .i64 3, .int .i64 0, .slice (some ⟨w.heap.size + 1 + 1, 0, none⟩) 1 1]) (by simp [results, Tryd.results28, go_sem, y0, y1, y2]) rfl ?_
  exact ⟨_, _, _, _, _, rfl, HO.out, HB.out⟩

set_option maxHeartbeats 2000000 in
set_option maxRecDepth 100000 in
theorem specNg_any (e : Ex) (c0 c1 c2 : Value) (w : World) (hL : Lies w w.heap.size e c0 c1 c2) (hd : desc e ≤ 1048576) :
    Calls Tryd.prog 14 #[.agg #[c0, c1, c2]] w (ObPost (negOut e) (negOk e) w) := by
  obtain ⟨k, v, kids⟩ := e
  obtain ⟨A, cap, b, off, C0, C1, C2, rfl, rfl, rfl, hl, hO⟩ := hL.open_
  obtain ⟨W2, hW2⟩ : ∃ W2, W2 = (w.alloc (.cells #[.int .i64 k, .int .i64 v, .slice A kids.length cap] 29)).alloc (.cells #[.int .i64 0, .int .i64 0, .slice none 0 0] 29) := ⟨_, rfl⟩
  have hrows := two_boxes w 29 #[.int .i64 k, .int .i64 v, .slice A kids.length cap] #[.int .i64 0, .int .i64 0, .slice none 0 0]
  rw [← hW2] at hrows
  obtain ⟨hr0, hr1, hb2⟩ := hrows
  have HW2 := Lib.hid hW2
  have HR0 := Lib.hid hr0
  have HR1 := Lib.hid hr1
  have HB2 := Lib.hid hb2
  have HL2 := Lib.hid (below_more hL hb2 hb2.size)
  have HO2 := Lib.hid (hO.grow hb2 hb2.size)
  have hs2 : W2.heap.size = w.heap.size + 2 := by rw [hW2]; simp
  clear hW2 hr0 hr1 hb2 hL hO hl
  obtain ⟨vb, hvb⟩ : ∃ vb, vb = fValid (.node k v kids) := ⟨_, rfl⟩
  have HV := Lib.hid hvb
  clear hvb
  have HD := Lib.hid hd
  go_enter Tryd.func14, Tryd.ntmps14
  go_wp2_with fail
  rw [← HW2.out]
  refine (specFv_any _ _ _ _ _ HL2.out hd).mono ?_
  rintro e' w1 ⟨rfl, hb1⟩
  rw [← HV.out]
  have h0 := HR0.out.under hb1 HR0.out.lt
  have h1 := HR1.out.under hb1 HR1.out.lt
  have HR11 := Lib.hid h1
  have p0 : w1.cell? ⟨w.heap.size, 0, none⟩ = some (.int .i64 k) := h0.cell 0
  have p1 : w1.cell? ⟨w.heap.size, 1, none⟩ = some (.int .i64 v) := h0.cell 1
  have p2 : w1.cell? ⟨w.heap.size, 2, none⟩ = some (.slice A kids.length cap) := h0.cell 2
  have HL1 := Lib.hid (below_more HL2.out hb1 hb1.size)
  have HO1 := Lib.hid (HO2.out.grow hb1 hb1.size)
  have HB1 := Lib.hid (HB2.out.trans (hb1.mono HB2.out.size))
  have hsz : w.heap.size + 2 ≤ w1.heap.size := by have := hb1.size; omega
  cases vb
  · have HO : Hid (negOut (.node k v kids) = zeroE) := by show _ = _; simp only [negOut]; rw [← HV.out]; rfl
    have HK : Hid (negOk (.node k v kids) = false) := by show _ = _; simp only [negOk]; rw [← HV.out]; rfl
    have y0 : w1.cell? ⟨w.heap.size + 1, 0, none⟩ = some (.int .i64 0) := h1.cell 0
    have y1 : w1.cell? ⟨w.heap.size + 1, 1, none⟩ = some (.int .i64 0) := h1.cell 1
    have y2 : w1.cell? ⟨w.heap.size + 1, 2, none⟩ = some (.slice none 0 0) := h1.cell 2
    have z0 := h1.frozen 0
    have z1 := h1.frozen 1
    have z2 := h1.frozen 2
    clear hb1 h0 h1 HR0 HR1 HB2 HW2 HL2 HO2
    go_wp2_with fail
    refine bodyPost_ret (v := .tuple #[.agg #[.int .i64 0, .int .i64 0, .slice none 0 0], .bool false]) (by simp [results, Tryd.results14, go_sem, y0, y1, y2]) rfl ?_
    have hf := sets3S HB1.out (n := w.heap.size + 1) (by omega) (.int .i64 0) (.int .i64 0) (.slice none 0 0)
    exact ⟨_, _, _, _, _, by rw [HK.out], by rw [HO.out]; exact Own.zeroF _ _ _ _, hf.1⟩
  · clear hb1 h0 h1 HR0 HR1 HB2 HW2 HL2 HO2
    by_cases h3 : k = 3
    · subst h3
      obtain ⟨x, rfl⟩ := fValid_three HV.out
      have HO : Hid (negOut (.node 3 v [x]) = x) := by show _ = _; simp only [negOut]; rw [← HV.out]; rfl
      have HK : Hid (negOk (.node 3 v [x]) = true) := by show _ = _; simp only [negOk]; rw [← HV.out]; rfl
      obtain ⟨rfl, hbl, g0, g1, g2, gl⟩ := HO1.out 0 x rfl
      simp only [Nat.zero_mul, Nat.add_zero] at g0 g1 g2
      have HG := Lib.hid gl
      have hdx : desc x ≤ 1048576 := by have := HD.out; simp only [desc, descL] at this; omega
      clear gl
      go_wp2_with fail
      refine (cpS_any x _ _ _ _ HG.out hdx).mono ?_
      intro e' w3 hpost
      obtain ⟨d0, d1, d2, rfl, hsp, hb3⟩ := hpost.to
      obtain ⟨i0, i1, ia, il, ic, rfl, rfl, rfl⟩ := hsp.form
      have HSp := Lib.hid hsp
      have h1 := HR11.out.under hb3 HR11.out.lt
      have y0 : w3.cell? ⟨w.heap.size + 1, 0, none⟩ = some (.int .i64 0) := h1.cell 0
      have y1 : w3.cell? ⟨w.heap.size + 1, 1, none⟩ = some (.int .i64 0) := h1.cell 1
      have y2 : w3.cell? ⟨w.heap.size + 1, 2, none⟩ = some (.slice none 0 0) := h1.cell 2
      have z0 := h1.frozen 0
      have z1 := h1.frozen 1
      have z2 := h1.frozen 2
      have HB3 := Lib.hid (HB1.out.trans (hb3.mono HB1.out.size))
      clear hb3 h1 hsp HR11 HB1 hpost
      go_wp2_with fail
      refine bodyPost_ret (v := .tuple #[.agg #[.int .i64 i0, .int .i64 i1, .slice ia il ic], .bool true]) (by simp [results, Tryd.results14, go_sem, y0, y1, y2]) rfl ?_
      have hf := sets3S HB3.out (n := w.heap.size + 1) (by omega) (.int .i64 i0) (.int .i64 i1) (.slice ia il ic)
      exact ⟨_, _, _, _, _, by rw [HK.out], by rw [HO.out]; exact HSp.out.keep (by omega) (by rw [hf.2.1]; exact Nat.le_refl _) fun q q1 _ => hf.2.2 q (by omega), hf.1⟩
    · have HO : Hid (negOut (.node k v kids) = onlyOut (fNot (.node k v kids))) := by show _ = _; simp only [negOut]; rw [← HV.out, if_neg h3]; rfl
      have HK : Hid (negOk (.node k v kids) = fValid (fNot (.node k v kids))) := by show _ = _; simp only [negOk]; rw [← HV.out, decide_eq_false h3]; rfl
      have h3b : (k == 3) = false := by simpa using h3
      go_wp2_with fail
      refine (cpS_any _ _ _ _ _ HL1.out hd).mono ?_
      intro e' w3 hpost
      obtain ⟨d0, d1, d2, rfl, hsp, hb3⟩ := hpost.to
      obtain ⟨i0, i1, ia, il, ic, rfl, rfl, rfl⟩ := hsp.form
      have HSp := Lib.hid hsp
      have hs13 := hb3.size
      have HR13 := Lib.hid (HR11.out.under hb3 HR11.out.lt)
      have HB3 := Lib.hid (HB1.out.trans (hb3.mono HB1.out.size))
      clear hb3 hsp HR11 HB1 p0 p1 p2 hpost
      go_wp2_with fail
      refine (notS_any _ _ _ _ w1.heap.size _ HSp.out hs13).mono ?_
      rintro e' w4 ⟨x0, x1, xa, xl, xc, rfl, ho4, hb4⟩
      obtain ⟨W5, hW5⟩ : ∃ W5, W5 = w4.alloc (.cells #[.int .i64 x0, .int .i64 x1, .slice xa xl xc] 29) := ⟨_, rfl⟩
      have hb5 : Below w4.heap.size w4 W5 := by rw [hW5]; exact (Below.refl _ _).alloc (Nat.le_refl _) _
      have hr5 : Row W5 w4.heap.size 29 #[.int .i64 x0, .int .i64 x1, .slice xa xl xc] := by rw [hW5]; exact Row.new _ _ _
      have hs34 := hb4.size
      have hs45 := hb5.size
      have HR5 := Lib.hid hr5
      have HO5 := Lib.hid (ho4.under hb5 (Nat.le_refl _))
      have HR15 := Lib.hid ((HR13.out.under hb4 HR13.out.lt).under hb5 (by have := HR13.out.lt; omega))
      have HB5 := Lib.hid ((HB3.out.trans (hb4.mono HB3.out.size)).trans (hb5.mono (by omega)))
      have HW5 := Lib.hid hW5
      have HDn : Hid (desc (fNot (.node k v kids)) ≤ 12) := by show _ ≤ _; rw [desc_fNot]; have := desc_valid HV.out; omega
      obtain ⟨ok, hok⟩ : ∃ ok, ok = fValid (fNot (.node k v kids)) := ⟨_, rfl⟩
      have HOk := Lib.hid hok
      clear hb4 hb5 hr5 hW5 ho4 HR13 HB3 hok
      go_wp2_with fail
      rw [← HW5.out]
      refine (specFv_any (fNot (.node k v kids)) _ _ _ _ (HO5.out.lies.more hs45) (by have := HDn.out; omega)).mono ?_
      rintro e' w6 ⟨rfl, hb6⟩
      rw [← HOk.out]
      have h1 := HR15.out.under hb6 HR15.out.lt
      have h5 := HR5.out.under hb6 HR5.out.lt
      have y0 : w6.cell? ⟨w.heap.size + 1, 0, none⟩ = some (.int .i64 0) := h1.cell 0
      have y1 : w6.cell? ⟨w.heap.size + 1, 1, none⟩ = some (.int .i64 0) := h1.cell 1
      have y2 : w6.cell? ⟨w.heap.size + 1, 2, none⟩ = some (.slice none 0 0) := h1.cell 2
      have z0 := h1.frozen 0
      have z1 := h1.frozen 1
      have z2 := h1.frozen 2
      have q0 : w6.cell? ⟨w4.heap.size, 0, none⟩ = some (.int .i64 x0) := h5.cell 0
      have q1 : w6.cell? ⟨w4.heap.size, 1, none⟩ = some (.int .i64 x1) := h5.cell 1
      have q2 : w6.cell? ⟨w4.heap.size, 2, none⟩ = some (.slice xa xl xc) := h5.cell 2
      have HO6 := Lib.hid (HO5.out.under hb6 hs45)
      have HB6 := Lib.hid (HB5.out.trans (hb6.mono HB5.out.size))
      have hs56 := hb6.size
      clear hb6 h1 h5 HR15 HR5 HB5 HO5
      cases ok
      · have HO2 : Hid (onlyOut (fNot (.node k v kids)) = zeroE) := by show _ = _; unfold onlyOut; rw [← HOk.out]; rfl
        go_wp2_with fail
        refine bodyPost_ret (v := .tuple #[.agg #[.int .i64 0, .int .i64 0, .slice none 0 0], .bool false]) (by simp [results, Tryd.results14, go_sem, y0, y1, y2]) rfl ?_
        have hf := sets3S HB6.out (n := w.heap.size + 1) (by omega) (.int .i64 0) (.int .i64 0) (.slice none 0 0)
        exact ⟨_, _, _, _, _, by rw [HK.out, ← HOk.out], by rw [HO.out, HO2.out]; exact Own.zeroF _ _ _ _, hf.1⟩
      · have HO2 : Hid (onlyOut (fNot (.node k v kids)) = fNot (.node k v kids)) := by show _ = _; unfold onlyOut; rw [← HOk.out]; rfl
        go_wp2_with fail
        refine bodyPost_ret (v := .tuple #[.agg #[.int .i64 x0, .int .i64 x1, .slice xa xl xc], .bool true]) (by simp [results, Tryd.results14, go_sem, y0, y1, y2]) rfl ?_
        have hf := sets3S HB6.out (n := w.heap.size + 1) (by omega) (.int .i64 x0) (.int .i64 x1) (.slice xa xl xc)
        exact ⟨_, _, _, _, _, by rw [HK.out, ← HOk.out], by rw [HO.out, HO2.out]; exact HO6.out.keep (by omega) (by rw [hf.2.1]; omega) fun q q1 _ => hf.2.2 q (by omega), hf.1⟩

end Go.Proofs.YtgigngpogbkpoaaDoor
