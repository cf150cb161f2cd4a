/- The walks of normal: orFormula. -/
import Derived.Test.YthcohnceehndfaaDoorNfA
namespace Go.Proofs.YthcohnceehndfaaDoor
open Go.RowKit

set_option maxHeartbeats 1000000 in
set_option maxRecDepth 100000 in
theorem or_isN_call (Ta Tb : Bool → Ex) (na nb : Value) (ha : NIs Ta na) (hb : NIs Tb nb) : Nf 97 (.agg #[na, nb]) (fun p => .node (if p then 5 else 4) 0 [Ta p, Tb p]) := by
  obtain ⟨U, x, rfl⟩ := ha.form
  obtain ⟨V, y, rfl⟩ := hb.form
  intro p w
  dsimp only
  have HN := Lib.hid (fun W : World => pairN_any p 5 4 Ta Tb _ _ ha hb W)
  clear ha hb
  obtain ⟨TT, hTT⟩ : ∃ TT : Ex, TT = .node (if p then 5 else 4) 0 [Ta p, Tb p] := ⟨_, rfl⟩
  rw [← hTT] at HN ⊢
  clear hTT
  obtain ⟨W2, hW2⟩ : ∃ W2, W2 = (w.alloc (.cells #[.iface U x, .iface V y] 91)).alloc (.cells #[.int .i64 0, .int .i64 0, .slice none 0 0] 25) := ⟨_, rfl⟩
  have hrows := boxes2 w 91 25 #[.iface U x, .iface V y] #[.int .i64 0, .int .i64 0, .slice none 0 0]
  rw [← hW2] at hrows
  obtain ⟨hr0, hr1, hb2⟩ := hrows
  have HW2 := Lib.hid hW2
  have HR1 := Lib.hid hr1
  have HB2 := Lib.hid hb2
  have hs2 : W2.heap.size = w.heap.size + 2 := by rw [hW2]; simp
  clear hW2 hr0 hr1 hb2
  go_enter Tryd.func97, Tryd.ntmps97
  go_wp2_with fail
  rw [← HW2.out]
  refine (HN.out W2).mono ?_
  rintro e' w3 ⟨d0, d1, d2, rfl, hsp, hb3⟩
  obtain ⟨i0, i1, ia, il, ic, rfl, rfl, rfl⟩ := hsp.form
  have HSp := Lib.hid hsp
  have h1 := HR1.out.under hb3 HR1.out.lt
  have y0 : w3.cell? ⟨w.heap.size + 1, 0, none⟩ = some (.int .i64 0) := h1.cell 0
  have y1 : w3.cell? ⟨w.heap.size + 1, 1, none⟩ = some (.int .i64 0) := h1.cell 1
  have y2 : w3.cell? ⟨w.heap.size + 1, 2, none⟩ = some (.slice none 0 0) := h1.cell 2
  have z0 := h1.frozen 0
  have z1 := h1.frozen 1
  have z2 := h1.frozen 2
  have HB3 := Lib.hid (HB2.out.trans (hb3.mono HB2.out.size))
  have HS2 := Lib.hid hs2
  clear hb3 h1 HR1 HB2 hsp hs2
  go_wp2_with fail
  refine bodyPost_ret (v := .agg #[.int .i64 i0, .int .i64 i1, .slice ia il ic]) (by simp [results, Tryd.results97, go_sem, y0, y1, y2]) rfl ?_
  have hfin := sep_endF HB3.out (n := w.heap.size + 1) (by omega) (by have := HS2.out; omega) (.int .i64 i0) (.int .i64 i1) (.slice ia il ic) HSp.out
  exact ⟨_, _, _, rfl, hfin.1.more (by have := HS2.out; omega) (Nat.le_refl _), hfin.2⟩

set_option maxRecDepth 100000 in
theorem or_isN (Ta Tb : Bool → Ex) (na nb : Value) (ha : NIs Ta na) (hb : NIs Tb nb) : NIs (fun p => .node (if p then 5 else 4) 0 [Ta p, Tb p]) (.iface 91 (.agg #[na, nb])) :=
  ⟨91, _, 97, rfl, fun _ => by kernel_rfl, fun _ _ => by kernel_rfl, or_isN_call Ta Tb na nb ha hb⟩

end Go.Proofs.YthcohnceehndfaaDoor
