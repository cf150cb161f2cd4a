/- The walks of normal: the leaves, negations and next. -/
import Derived.Test.YthcohnceehndfaaDoorNfA
namespace Go.Proofs.YthcohnceehndfaaDoor
open Go.RowKit

set_option maxHeartbeats 1000000 in
set_option maxRecDepth 100000 in
theorem true_is : NIs (fun p => fLit p (.node 1 0 [])) (.iface 98 (.agg #[])) := by
  refine ⟨98, _, 103, rfl, fun _ => by kernel_rfl, fun _ _ => by kernel_rfl, ?_⟩
  intro p w
  dsimp only
  have HN := Lib.hid (fun W : World => lit_any p 1 0 W)
  obtain ⟨TT, hTT⟩ : ∃ TT : Ex, TT = fLit p (.node 1 0 []) := ⟨_, rfl⟩
  rw [← hTT] at HN ⊢
  clear hTT
  obtain ⟨W2, hW2⟩ : ∃ W2, W2 = (w.alloc (.cells #[] 98)).alloc (.cells #[.int .i64 0, .int .i64 0, .slice none 0 0] 25) := ⟨_, rfl⟩
  have hrows := boxes2 w 98 25 #[] #[.int .i64 0, .int .i64 0, .slice none 0 0]
  rw [← hW2] at hrows
  obtain ⟨hr0, hr1, hb2⟩ := hrows
  have HW2 := Lib.hid hW2
  have HR1 := Lib.hid hr1
  have HB2 := Lib.hid hb2
  have hs2 : W2.heap.size = w.heap.size + 2 := by rw [hW2]; simp
  clear hW2 hr0 hr1 hb2
  go_enter Tryd.func103, Tryd.ntmps103
  go_wp2_with fail
  rw [← HW2.out]
  refine (HN.out W2).mono ?_
  rintro e' w3 ⟨d0, d1, d2, rfl, hsp, hb3⟩
  obtain ⟨i0, i1, ia, il, ic, rfl, rfl, rfl⟩ := hsp.form
  have HSp := Lib.hid hsp
  have h1 := HR1.out.under hb3 HR1.out.lt
  have y0 : w3.cell? ⟨w.heap.size + 1, 0, none⟩ = some (.int .i64 0) := h1.cell 0
  have y1 : w3.cell? ⟨w.heap.size + 1, 1, none⟩ = some (.int .i64 0) := h1.cell 1
  have y2 : w3.cell? ⟨w.heap.size + 1, 2, none⟩ = some (.slice none 0 0) := h1.cell 2
  have z0 := h1.frozen 0
  have z1 := h1.frozen 1
  have z2 := h1.frozen 2
  have HB3 := Lib.hid (HB2.out.trans (hb3.mono HB2.out.size))
  have HS2 := Lib.hid hs2
  clear hb3 h1 HR1 HB2 hsp hs2
  go_wp2_with fail
  refine bodyPost_ret (v := .agg #[.int .i64 i0, .int .i64 i1, .slice ia il ic]) (by simp [results, Tryd.results103, go_sem, y0, y1, y2]) rfl ?_
  have hfin := sep_endF HB3.out (n := w.heap.size + 1) (by omega) (by have := HS2.out; omega) (.int .i64 i0) (.int .i64 i1) (.slice ia il ic) HSp.out
  exact ⟨_, _, _, rfl, hfin.1.more (by have := HS2.out; omega) (Nat.le_refl _), hfin.2⟩

set_option maxHeartbeats 1000000 in
set_option maxRecDepth 100000 in
theorem atom_is (v : Int) : NIs (fun p => fLit p (.node 2 v [])) (.iface 86 (.agg #[.int .i64 v])) := by
  refine ⟨86, _, 93, rfl, fun _ => by kernel_rfl, fun _ _ => by kernel_rfl, ?_⟩
  intro p w
  dsimp only
  have HN := Lib.hid (fun W : World => lit_any p 2 v W)
  obtain ⟨TT, hTT⟩ : ∃ TT : Ex, TT = fLit p (.node 2 v []) := ⟨_, rfl⟩
  rw [← hTT] at HN ⊢
  clear hTT
  obtain ⟨W2, hW2⟩ : ∃ W2, W2 = (w.alloc (.cells #[.int .i64 v] 86)).alloc (.cells #[.int .i64 0, .int .i64 0, .slice none 0 0] 25) := ⟨_, rfl⟩
  have hrows := boxes2 w 86 25 #[.int .i64 v] #[.int .i64 0, .int .i64 0, .slice none 0 0]
  rw [← hW2] at hrows
  obtain ⟨hr0, hr1, hb2⟩ := hrows
  have HW2 := Lib.hid hW2
  have HR1 := Lib.hid hr1
  have HB2 := Lib.hid hb2
  have hs2 : W2.heap.size = w.heap.size + 2 := by rw [hW2]; simp
  clear hW2 hr0 hr1 hb2
  go_enter Tryd.func93, Tryd.ntmps93
  go_wp2_with fail
  rw [← HW2.out]
  refine (HN.out W2).mono ?_
  rintro e' w3 ⟨d0, d1, d2, rfl, hsp, hb3⟩
  obtain ⟨i0, i1, ia, il, ic, rfl, rfl, rfl⟩ := hsp.form
  have HSp := Lib.hid hsp
  have h1 := HR1.out.under hb3 HR1.out.lt
  have y0 : w3.cell? ⟨w.heap.size + 1, 0, none⟩ = some (.int .i64 0) := h1.cell 0
  have y1 : w3.cell? ⟨w.heap.size + 1, 1, none⟩ = some (.int .i64 0) := h1.cell 1
  have y2 : w3.cell? ⟨w.heap.size + 1, 2, none⟩ = some (.slice none 0 0) := h1.cell 2
  have z0 := h1.frozen 0
  have z1 := h1.frozen 1
  have z2 := h1.frozen 2
  have HB3 := Lib.hid (HB2.out.trans (hb3.mono HB2.out.size))
  have HS2 := Lib.hid hs2
  clear hb3 h1 HR1 HB2 hsp hs2
  go_wp2_with fail
  refine bodyPost_ret (v := .agg #[.int .i64 i0, .int .i64 i1, .slice ia il ic]) (by simp [results, Tryd.results93, go_sem, y0, y1, y2]) rfl ?_
  have hfin := sep_endF HB3.out (n := w.heap.size + 1) (by omega) (by have := HS2.out; omega) (.int .i64 i0) (.int .i64 i1) (.slice ia il ic) HSp.out
  exact ⟨_, _, _, rfl, hfin.1.more (by have := HS2.out; omega) (Nat.le_refl _), hfin.2⟩

set_option maxHeartbeats 1000000 in
set_option maxRecDepth 100000 in
theorem not_isN (T : Bool → Ex) (nv : Value) (h : NIs T nv) : NIs (fun p => T (!p)) (.iface 88 (.agg #[nv])) := by
  obtain ⟨U, x, f, rfl, hm, hc, he⟩ := h
  refine ⟨88, _, 94, rfl, fun _ => by kernel_rfl, fun _ _ => by kernel_rfl, ?_⟩
  intro p w
  have HM := Lib.hid hm
  have HC := Lib.hid hc
  have HE := Lib.hid (he (!p))
  clear hm hc he
  dsimp only
  obtain ⟨TT, hTT⟩ : ∃ TT : Ex, TT = T (!p) := ⟨_, rfl⟩
  rw [← hTT] at HE ⊢
  clear hTT
  obtain ⟨W2, hW2⟩ : ∃ W2, W2 = (w.alloc (.cells #[.iface U x] 88)).alloc (.cells #[.int .i64 0, .int .i64 0, .slice none 0 0] 25) := ⟨_, rfl⟩
  have hrows := boxes2 w 88 25 #[.iface U x] #[.int .i64 0, .int .i64 0, .slice none 0 0]
  rw [← hW2] at hrows
  obtain ⟨hr0, hr1, hb2⟩ := hrows
  have HW2 := Lib.hid hW2
  have HR1 := Lib.hid hr1
  have HB2 := Lib.hid hb2
  have hs2 : W2.heap.size = w.heap.size + 2 := by rw [hW2]; simp
  clear hW2 hr0 hr1 hb2
  go_enter Tryd.func94, Tryd.ntmps94
  go_wp2_with fail
  rw [upon_methodN _ HM.out]
  rotate_left
  · kernel_rfl
  go_wp2_with fail
  rw [HC.out]
  go_wp2_with fail
  rw [← HW2.out]
  refine (HE.out W2).mono ?_
  rintro e' w3 ⟨d0, d1, d2, rfl, hsp, hb3⟩
  obtain ⟨i0, i1, ia, il, ic, rfl, rfl, rfl⟩ := hsp.form
  have HSp := Lib.hid hsp
  have h1 := HR1.out.under hb3 HR1.out.lt
  have y0 : w3.cell? ⟨w.heap.size + 1, 0, none⟩ = some (.int .i64 0) := h1.cell 0
  have y1 : w3.cell? ⟨w.heap.size + 1, 1, none⟩ = some (.int .i64 0) := h1.cell 1
  have y2 : w3.cell? ⟨w.heap.size + 1, 2, none⟩ = some (.slice none 0 0) := h1.cell 2
  have z0 := h1.frozen 0
  have z1 := h1.frozen 1
  have z2 := h1.frozen 2
  have HB3 := Lib.hid (HB2.out.trans (hb3.mono HB2.out.size))
  have HS2 := Lib.hid hs2
  clear hb3 h1 HR1 HB2 hsp hs2
  go_wp2_with fail
  refine bodyPost_ret (v := .agg #[.int .i64 i0, .int .i64 i1, .slice ia il ic]) (by simp [results, Tryd.results94, go_sem, y0, y1, y2]) rfl ?_
  have hfin := sep_endF HB3.out (n := w.heap.size + 1) (by omega) (by have := HS2.out; omega) (.int .i64 i0) (.int .i64 i1) (.slice ia il ic) HSp.out
  exact ⟨_, _, _, rfl, hfin.1.more (by have := HS2.out; omega) (Nat.le_refl _), hfin.2⟩

set_option maxHeartbeats 1000000 in
set_option maxRecDepth 100000 in
theorem next_isN (T : Bool → Ex) (nv : Value) (h : NIs T nv) : NIs (fun p => .node 6 0 [T p]) (.iface 92 (.agg #[nv])) := by
  obtain ⟨U, x, f, rfl, hm, hc, he⟩ := h
  refine ⟨92, _, 98, rfl, fun _ => by kernel_rfl, fun _ _ => by kernel_rfl, ?_⟩
  intro p w
  have HM := Lib.hid hm
  have HC := Lib.hid hc
  have HE := Lib.hid (he p)
  clear hm hc he
  dsimp only
  obtain ⟨TT, hTT⟩ : ∃ TT : Ex, TT = T p := ⟨_, rfl⟩
  rw [← hTT] at HE ⊢
  clear hTT
  obtain ⟨W2, hW2⟩ : ∃ W2, W2 = (w.alloc (.cells #[.iface U x] 92)).alloc (.cells #[.int .i64 0, .int .i64 0, .slice none 0 0] 25) := ⟨_, rfl⟩
  have hrows := boxes2 w 92 25 #[.iface U x] #[.int .i64 0, .int .i64 0, .slice none 0 0]
  rw [← hW2] at hrows
  obtain ⟨hr0, hr1, hb2⟩ := hrows
  have HW2 := Lib.hid hW2
  have HR1 := Lib.hid hr1
  have HB2 := Lib.hid hb2
  have hs2 : W2.heap.size = w.heap.size + 2 := by rw [hW2]; simp
  clear hW2 hr0 hr1 hb2
  go_enter Tryd.func98, Tryd.ntmps98
  go_wp2_with fail
  rw [upon_methodN _ HM.out]
  rotate_left
  · kernel_rfl
  go_wp2_with fail
  rw [HC.out]
  go_wp2_with fail
  rw [← HW2.out]
  refine (HE.out W2).mono ?_
  rintro e' w3 ⟨d0, d1, d2, rfl, hsp, hb3⟩
  obtain ⟨i0, i1, ia, il, ic, rfl, rfl, rfl⟩ := hsp.form
  have hs3 := hb3.size
  have h0 := HR1.out.under hb3 HR1.out.lt
  have hlt0 : w.heap.size + 1 < w3.heap.size := h0.lt
  obtain ⟨Y, hY, hS, hBY, y0, y1, y2⟩ := set_one (HB2.out.trans (hb3.mono HB2.out.size)) (n := w.heap.size + 1) (by omega) (by omega) hs3 hsp h0 6 0
  have x0 : w3.cell? ⟨w.heap.size + 1, 0, none⟩ = some (.int .i64 0) := h0.cell 0
  have x1 : w3.cell? ⟨w.heap.size + 1, 1, none⟩ = some (.int .i64 0) := h0.cell 1
  have x2 : w3.cell? ⟨w.heap.size + 1, 2, none⟩ = some (.slice none 0 0) := h0.cell 2
  have v0 := h0.frozen 0
  have v1 := h0.frozen 1
  have v2 := h0.frozen 2
  have HF : Hid (SepPostF w.heap.size (.node 6 0 [TT]) w (.returned (.agg #[.int .i64 6, .int .i64 0, .slice (some ⟨w3.heap.size, 0, none⟩) 1 1])) Y) := ⟨_, _, _, rfl, hS.more (by omega) (Nat.le_refl _), hBY⟩
  have HY := Lib.hid hY
  clear hsp hb3 h0 hs2 hs3 hS hBY hY
  go_wp2_with fail
  rw [← HY.out]
  refine bodyPost_ret (v := .agg #[.int .i64 6, .int .i64 0, .slice (some ⟨w3.heap.size, 0, none⟩) 1 1]) (by simp [results, Tryd.results98, go_sem, y0, y1, y2]) rfl ?_
  exact HF.out

end Go.Proofs.YthcohnceehndfaaDoor
