/- The walk of impl.NormalForm. -/
import Derived.Test.YthcohnceehndfaaDoorNfJ
import Derived.Test.YthcohnceehndfaaDoorOnI
namespace Go.Proofs.YthcohnceehndfaaDoor
open Go.RowKit

set_option maxHeartbeats 2000000 in
set_option maxRecDepth 100000 in
theorem implNf_any (e : Ex) (c0 c1 c2 : Value) (w : World) (hF : Forms w) (hL : Lies w w.heap.size e c0 c1 c2) (hd : desc e ≤ 1048576) :
    Calls Tryd.prog 19 #[.agg #[c0, c1, c2]] w (FbPost w.heap.size (nfOut e) (nfOk e) w) := by
  obtain ⟨n0, n1, a2, l2, cp2, rfl, rfl, rfl⟩ := hL.form
  obtain ⟨W2, hW2⟩ : ∃ W2, W2 = (w.alloc (.cells #[.int .i64 n0, .int .i64 n1, .slice a2 l2 cp2] 25)).alloc (.cells #[.int .i64 0, .int .i64 0, .slice none 0 0] 25) := ⟨_, rfl⟩
  have hrows := two_boxes w 25 #[.int .i64 n0, .int .i64 n1, .slice a2 l2 cp2] #[.int .i64 0, .int .i64 0, .slice none 0 0]
  rw [← hW2] at hrows
  obtain ⟨hr0, hr1, hb2⟩ := hrows
  have HW2 := Lib.hid hW2
  have HR0 := Lib.hid hr0
  have HR1 := Lib.hid hr1
  have HB2 := Lib.hid hb2
  have HL2 := Lib.hid (below_more hL hb2 hb2.size)
  have HF2 := Lib.hid (hF.later hb2)
  have hs2 : W2.heap.size = w.heap.size + 2 := by rw [hW2]; simp
  clear hW2 hr0 hr1 hb2 hL hF
  obtain ⟨vb, hvb⟩ : ∃ vb, vb = fValid e := ⟨_, rfl⟩
  have HV := Lib.hid hvb
  clear hvb
  have HD := Lib.hid hd
  go_enter Tryd.func19, Tryd.ntmps19
  go_wp2_with fail
  rw [← HW2.out]
  refine (implFv_any _ _ _ _ _ HF2.out HL2.out hd).mono ?_
  rintro e' w1 ⟨rfl, hb1⟩
  rw [← HV.out]
  have h0 := HR0.out.under hb1 HR0.out.lt
  have h1 := HR1.out.under hb1 HR1.out.lt
  have HR11 := Lib.hid h1
  have p0 : w1.cell? ⟨w.heap.size, 0, none⟩ = some (.int .i64 n0) := h0.cell 0
  have p1 : w1.cell? ⟨w.heap.size, 1, none⟩ = some (.int .i64 n1) := h0.cell 1
  have p2 : w1.cell? ⟨w.heap.size, 2, none⟩ = some (.slice a2 l2 cp2) := h0.cell 2
  have HL1 := Lib.hid (below_more HL2.out hb1 hb1.size)
  have HF1 := Lib.hid (HF2.out.later hb1)
  have HB1 := Lib.hid (HB2.out.trans (hb1.mono HB2.out.size))
  have hsz : w.heap.size + 2 ≤ w1.heap.size := by have := hb1.size; omega
  cases vb
  · have HO : Hid (nfOut e = zeroE) := by show _ = _; unfold nfOut; rw [← HV.out]; rfl
    have HK : Hid (nfOk e = false) := by show _ = _; unfold nfOk; rw [← HV.out]; rfl
    have y0 : w1.cell? ⟨w.heap.size + 1, 0, none⟩ = some (.int .i64 0) := h1.cell 0
    have y1 : w1.cell? ⟨w.heap.size + 1, 1, none⟩ = some (.int .i64 0) := h1.cell 1
    have y2 : w1.cell? ⟨w.heap.size + 1, 2, none⟩ = some (.slice none 0 0) := h1.cell 2
    have z0 := h1.frozen 0
    have z1 := h1.frozen 1
    have z2 := h1.frozen 2
    clear hb1 h0 h1 HR0 HR1 HB2 HF2 HW2 HL2
    go_wp2_with fail
    refine bodyPost_ret (v := .tuple #[.agg #[.int .i64 0, .int .i64 0, .slice none 0 0], .bool false]) (by simp [results, Tryd.results19, go_sem, y0, y1, y2]) rfl ?_
    have hf := sets3 HB1.out (n := w.heap.size + 1) (by omega) (.int .i64 0) (.int .i64 0) (.slice none 0 0)
    exact ⟨_, _, _, _, _, by rw [HK.out], by rw [HO.out]; exact SepF.zero _ _ _, hf.1⟩
  · clear hb1 h0 h1 HR0 HR1 HB2 HF2 HW2 HL2
    obtain ⟨T, hT⟩ : ∃ T, T = nf 6 true e := ⟨_, rfl⟩
    have HO : Hid (nfOut e = onlyOut T) := by show _ = _; unfold nfOut; rw [← HV.out, hT]; rfl
    have HK : Hid (nfOk e = fValid T) := by show _ = _; unfold nfOk; rw [← HV.out, hT]; rfl
    have HDT : Hid (desc T ≤ 1048576) := by show _ ≤ _; rw [hT]; have := nf_small (Nat.le_refl 6) true e; omega
    have HFo := Lib.hid (fun (W : World) (h : Lies W W.heap.size e (.int .i64 n0) (.int .i64 n1) (.slice a2 l2 cp2)) => foldN_any 6 e _ _ _ W (fShape_of_valid HV.out) h)
    have HTt := Lib.hid hT
    clear hT
    obtain ⟨Q, hQ⟩ : ∃ Q : Bool → Ex, Q = (fun p => nf 6 p e) := ⟨_, rfl⟩
    have HTQ : Hid (Q true = T) := by show _ = _; rw [hQ, HTt.out]
    rw [← hQ] at HFo
    clear hQ
    go_wp2_with fail
    refine (HFo.out _ HL1.out).mono ?_
    rintro e' w3 ⟨nv, rfl, hn, hb3⟩
    obtain ⟨U, x, f, rfl, hm, hc, he⟩ := hn
    have HM := Lib.hid hm
    have HC := Lib.hid hc
    have hE := he true
    rw [HTQ.out] at hE
    have HE := Lib.hid hE
    have hs13 := hb3.size
    have HR13 := Lib.hid (HR11.out.under hb3 HR11.out.lt)
    have HF3 := Lib.hid (HF1.out.later hb3)
    have HB3 := Lib.hid (HB1.out.trans (hb3.mono HB1.out.size))
    clear hm hc he hE hb3 HR11 HB1 HF1 p0 p1 p2
    go_wp2_with fail
    rw [upon_methodN _ HM.out]
    rotate_left
    · kernel_rfl
    go_wp2_with fail
    rw [HC.out]
    go_wp2_with fail
    refine (HE.out w3).mono ?_
    rintro e' w4 ⟨d0, d1, d2, rfl, hsp, hb4⟩
    obtain ⟨i0, i1, ia, il, ic, rfl, rfl, rfl⟩ := hsp.form
    have HS4 := Lib.hid hsp
    have hs34 := hb4.size
    have HR14 := Lib.hid (HR13.out.under hb4 HR13.out.lt)
    have HF4 := Lib.hid (HF3.out.later hb4)
    have HB4 := Lib.hid (HB3.out.trans (hb4.mono HB3.out.size))
    clear hsp hb4 HR13 HF3 HB3
    go_wp2_with fail
    refine (only_any T _ _ _ w3.heap.size _ HF4.out HS4.out HDT.out).mono ?_
    rintro e' w5 ⟨x0, x1, xa, xl, xc, rfl, hs5, hb5⟩
    have HS5 := Lib.hid hs5
    have h1 := HR14.out.under hb5 HR14.out.lt
    have y0 : w5.cell? ⟨w.heap.size + 1, 0, none⟩ = some (.int .i64 0) := h1.cell 0
    have y1 : w5.cell? ⟨w.heap.size + 1, 1, none⟩ = some (.int .i64 0) := h1.cell 1
    have y2 : w5.cell? ⟨w.heap.size + 1, 2, none⟩ = some (.slice none 0 0) := h1.cell 2
    have z0 := h1.frozen 0
    have z1 := h1.frozen 1
    have z2 := h1.frozen 2
    have HB5 := Lib.hid (HB4.out.trans (hb5.mono HB4.out.size))
    rw [← HK.out]
    obtain ⟨ok, hok⟩ : ∃ ok, ok = nfOk e := ⟨_, rfl⟩
    rw [← hok]
    have HOk := Lib.hid hok
    clear hb5 h1 hs5 HB4 hok
    go_wp2_with fail
    refine bodyPost_ret (v := .tuple #[.agg #[.int .i64 x0, .int .i64 x1, .slice xa xl xc], .bool ok]) (by simp [results, Tryd.results19, go_sem, y0, y1, y2]) rfl ?_
    have hf := sets3 HB5.out (n := w.heap.size + 1) (by omega) (.int .i64 x0) (.int .i64 x1) (.slice xa xl xc)
    exact ⟨_, _, _, _, _, by rw [HOk.out], by rw [HO.out]; exact (HS5.out.keep fun q q1 _ => hf.2.2 q (by omega)).more (by omega) (by rw [hf.2.1]; exact Nat.le_refl _), hf.1⟩

end Go.Proofs.YthcohnceehndfaaDoor
