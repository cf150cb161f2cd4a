/- The walks of normal: alwaysFormula. -/
import Derived.Test.YthcohnceehndfaaDoorNfB
import Derived.Test.YthcohnceehndfaaDoorNfE
namespace Go.Proofs.YthcohnceehndfaaDoor
open Go.RowKit

set_option maxHeartbeats 1000000 in
set_option maxRecDepth 100000 in
theorem al_isN (T : Bool → Ex) (nv : Value) (h : NIs T nv) : NIs (fun p => .node (if p then 8 else 7) 0 [fLit (!p) fTrue, T p]) (.iface 96 (.agg #[nv])) := by
  refine ⟨96, _, 102, rfl, fun _ => by kernel_rfl, fun _ _ => by kernel_rfl, ?_⟩
  obtain ⟨U, x, rfl⟩ := h.form
  intro p w
  dsimp only
  have HN := Lib.hid (fun W : World => release_isN_call (fun p => fLit (!p) fTrue) T _ _ (not_isN _ _ true_is) h p W)
  clear h
  dsimp only at HN
  obtain ⟨TT, hTT⟩ : ∃ TT : Ex, TT = .node (if p then 8 else 7) 0 [fLit (!p) fTrue, T p] := ⟨_, rfl⟩
  rw [← hTT] at HN ⊢
  clear hTT
  obtain ⟨W2, hW2⟩ : ∃ W2, W2 = (w.alloc (.cells #[.iface U x] 96)).alloc (.cells #[.int .i64 0, .int .i64 0, .slice none 0 0] 25) := ⟨_, rfl⟩
  have hrows := boxes2 w 96 25 #[.iface U x] #[.int .i64 0, .int .i64 0, .slice none 0 0]
  rw [← hW2] at hrows
  obtain ⟨hr0, hr1, hb2⟩ := hrows
  have HW2 := Lib.hid hW2
  have HR1 := Lib.hid hr1
  have HB2 := Lib.hid hb2
  have hs2 : W2.heap.size = w.heap.size + 2 := by rw [hW2]; simp
  clear hW2 hr0 hr1 hb2
  go_enter Tryd.func102, Tryd.ntmps102
  go_wp2_with fail
  rw [← HW2.out]
  refine (HN.out W2).mono ?_
  rintro e' w3 ⟨d0, d1, d2, rfl, hsp, hb3⟩
  obtain ⟨i0, i1, ia, il, ic, rfl, rfl, rfl⟩ := hsp.form
  have HSp := Lib.hid hsp
  have h1 := HR1.out.under hb3 HR1.out.lt
  have y0 : w3.cell? ⟨w.heap.size + 1, 0, none⟩ = some (.int .i64 0) := h1.cell 0
  have y1 : w3.cell? ⟨w.heap.size + 1, 1, none⟩ = some (.int .i64 0) := h1.cell 1
  have y2 : w3.cell? ⟨w.heap.size + 1, 2, none⟩ = some (.slice none 0 0) := h1.cell 2
  have z0 := h1.frozen 0
  have z1 := h1.frozen 1
  have z2 := h1.frozen 2
  have HB3 := Lib.hid (HB2.out.trans (hb3.mono HB2.out.size))
  have HS2 := Lib.hid hs2
  clear hb3 h1 HR1 HB2 hsp hs2
  go_wp2_with fail
  refine bodyPost_ret (v := .agg #[.int .i64 i0, .int .i64 i1, .slice ia il ic]) (by simp [results, Tryd.results102, go_sem, y0, y1, y2]) rfl ?_
  have hfin := sep_endF HB3.out (n := w.heap.size + 1) (by omega) (by have := HS2.out; omega) (.int .i64 i0) (.int .i64 i1) (.slice ia il ic) HSp.out
  exact ⟨_, _, _, rfl, hfin.1.more (by have := HS2.out; omega) (Nat.le_refl _), hfin.2⟩

end Go.Proofs.YthcohnceehndfaaDoor
