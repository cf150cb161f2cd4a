/- The walk of spec.l5Push at eventually and always. -/
import Derived.Test.YthcohnceehndfaaDoorNfT
namespace Go.Proofs.YthcohnceehndfaaDoor
open Go.RowKit

set_option maxHeartbeats 1000000 in
set_option maxRecDepth 100000 in
theorem push_u (d : Nat) (ih : PushSaid d) (k : Int) (ng : Bool) (x : Ex) (cp kb ko : Nat) (C0 C1 C2 : Nat → Value) (w : World) (hs : fShape d x = true) (hO : Opened w w.heap.size [x] (some ⟨kb, ko, none⟩) kb ko C0 C1 C2) (hk : k = 9 ∧ ng = false ∨ k = 10 ∧ ng = true) :
    Calls Tryd.prog 35 #[.agg #[.int .i64 k, .int .i64 0, .slice (some ⟨kb, ko, none⟩) 1 cp], .bool ng] w (OwPost w.heap.size (.node 7 0 [.node 1 0 [], nf d (!ng) x]) w) := by
  obtain ⟨_, hb, g0, g1, g2, gl⟩ := hO 0 x rfl
  rw [Nat.zero_mul, Nat.add_zero] at g0 g1 g2
  obtain ⟨W2, hW2⟩ : ∃ W2, W2 = (w.alloc (.cells #[.int .i64 k, .int .i64 0, .slice (some ⟨kb, ko, none⟩) 1 cp] 25)).alloc (.cells #[.int .i64 0, .int .i64 0, .slice none 0 0] 25) := ⟨_, rfl⟩
  have hrows := two_boxes w 25 #[.int .i64 k, .int .i64 0, .slice (some ⟨kb, ko, none⟩) 1 cp] #[.int .i64 0, .int .i64 0, .slice none 0 0]
  rw [← hW2] at hrows
  obtain ⟨hr0, hr1, hb2⟩ := hrows
  have HW2 := Lib.hid hW2
  have HR0 := Lib.hid hr0
  have HR1 := Lib.hid hr1
  have HB2 := Lib.hid hb2
  have HS2 : Hid (W2.heap.size = w.heap.size + 2) := by show _ = _; rw [hW2]; simp
  have hN := ih ng x _ _ _ W2 hs (below_more gl hb2 hb2.size)
  obtain ⟨T, hT⟩ : ∃ T, T = nf d (!ng) x := ⟨_, rfl⟩
  rw [← hT] at hN ⊢
  have HN := Lib.hid hN
  clear hW2 hr0 hr1 hb2 hN hT gl ih
  rcases hk with ⟨rfl, rfl⟩ | ⟨rfl, rfl⟩
  all_goals
    (go_enter Tryd.func35, Tryd.ntmps35
     go_wp2_with fail
     rw [← HW2.out]
     refine HN.out.mono ?_
     rintro e' w3 ⟨i0, i1, ia, il, ic, rfl, ho, hb3⟩
     have hs3 := hb3.size
     obtain ⟨W4, hW4⟩ : ∃ W4, W4 = w3.alloc (.cells #[.int .i64 i0, .int .i64 i1, .slice ia il ic] 25) := ⟨_, rfl⟩
     have hb4 : Below w3.heap.size w3 W4 := by rw [hW4]; exact (Below.refl _ _).alloc (Nat.le_refl _) _
     have hr4 : Row W4 w3.heap.size 25 #[.int .i64 i0, .int .i64 i1, .slice ia il ic] := by rw [hW4]; exact Row.new _ _ _
     have HW4 := Lib.hid hW4
     have HR4 := Lib.hid hr4
     have HO4 := Lib.hid (ho.under hb4 (Nat.le_refl _))
     have HR14 := Lib.hid ((HR1.out.under hb3 HR1.out.lt).under hb4 (by have := HR1.out.lt; omega))
     have HR04 := Lib.hid ((HR0.out.under hb3 HR0.out.lt).under hb4 (by have := HR0.out.lt; omega))
     obtain ⟨p0, _, _, _⟩ := (HR0.out.under hb3 HR0.out.lt).zs
     have HB4 := Lib.hid ((HB2.out.trans (hb3.mono HB2.out.size)).trans (hb4.mono (by have := HB2.out.size; omega)))
     have HS4 : Hid (W2.heap.size ≤ w3.heap.size ∧ w3.heap.size < W4.heap.size) := ⟨hs3, hr4.lt⟩
     have hS4 : W4.drew.cell? ⟨w3.heap.size, 0, none⟩ = some (.int .i64 i0) ∧ W4.drew.cell? ⟨w3.heap.size, 1, none⟩ = some (.int .i64 i1) ∧ W4.drew.cell? ⟨w3.heap.size, 2, none⟩ = some (.slice ia il ic) := ⟨hr4.cell 0, hr4.cell 1, hr4.cell 2⟩
     have HBx : Hid (∀ W, Below W4.heap.size W4 W → (W.cell? ⟨w3.heap.size, 0, none⟩ = some (.int .i64 i0) ∧ W.cell? ⟨w3.heap.size, 1, none⟩ = some (.int .i64 i1) ∧ W.cell? ⟨w3.heap.size, 2, none⟩ = some (.slice ia il ic)) ∧ Row W (w.heap.size + 1) 25 #[.int .i64 0, .int .i64 0, .slice none 0 0] ∧ Own W 25 W2.heap.size W.heap.size T (.int .i64 i0) (.int .i64 i1) (.slice ia il ic) ∧ Below w.heap.size w W ∧ W2.heap.size ≤ W.heap.size) := fun W hW => by
       have hr := HR4.out.under hW HR4.out.lt
       have hz := hW.size
       exact ⟨⟨hr.cell 0, hr.cell 1, hr.cell 2⟩, HR14.out.under hW HR14.out.lt, (HO4.out.under hW (by have := HS4.out; omega)).more (Nat.le_refl _) (by have := HS4.out; omega), HB4.out.trans (hW.mono HB4.out.size), by have := HS4.out; omega⟩
     have HKp : Hid (∀ W, Below W4.heap.size W4 W → ∀ (u0 u1 u2 : Value) (o : Obj), ((((W.setCell ⟨w.heap.size + 1, 0, none⟩ u0).setCell ⟨w.heap.size + 1, 1, none⟩ u1).setCell ⟨w.heap.size + 1, 2, none⟩ u2).alloc o).cell? ⟨w3.heap.size, 0, none⟩ = some (.int .i64 i0) ∧ ((((W.setCell ⟨w.heap.size + 1, 0, none⟩ u0).setCell ⟨w.heap.size + 1, 1, none⟩ u1).setCell ⟨w.heap.size + 1, 2, none⟩ u2).alloc o).cell? ⟨w3.heap.size, 1, none⟩ = some (.int .i64 i1) ∧ ((((W.setCell ⟨w.heap.size + 1, 0, none⟩ u0).setCell ⟨w.heap.size + 1, 1, none⟩ u1).setCell ⟨w.heap.size + 1, 2, none⟩ u2).alloc o).cell? ⟨w3.heap.size, 2, none⟩ = some (.slice ia il ic)) := fun W hW u0 u1 u2 o => by
       obtain ⟨⟨q0, q1, q2⟩, _⟩ := HBx.out W hW
       have h1 := HS2.out
       have h2 := HS4.out
       exact ⟨cell_sets (by omega) q0 _ _ _ _, cell_sets (by omega) q1 _ _ _ _, cell_sets (by omega) q2 _ _ _ _⟩
     have hlt3 : w.heap.size < w3.heap.size := by have h1 := HS2.out; have h2 := HS4.out; omega
     clear ho hb3 hb4 hr4 hW4 g0 g1 g2
     go_upto_region 15 with fail
     rw [← HW4.out]
     go_region_held3 (fun w' => w'.cell? ⟨w3.heap.size, 0, none⟩ = some (.int .i64 i0) ∧ w'.cell? ⟨w3.heap.size, 1, none⟩ = some (.int .i64 i1) ∧ w'.cell? ⟨w3.heap.size, 2, none⟩ = some (.slice ia il ic)) (first | assumption | with_reducible exact (HBx.out _ (HBz.out.alloc HBz.out.size _)).1 | with_reducible exact HKp.out _ HBz.out _ _ _ _) (first
       | (go_at_call 55
          refine (true_spec _).mono ?_
          rintro e' wz ⟨rfl, hb5⟩
          have HB5 : Hid (Below W4.heap.size W4 wz) := (Below.refl _ _).drew.trans hb5
          obtain ⟨hS5, hr5, ho5, hbw5, hz5⟩ := HBx.out wz HB5.out
          clear hb5
          have HBz := HB5
          obtain ⟨x0, x1, x2, z0, z1, z2⟩ := hr5.zs
          have hlt0 : w.heap.size + 1 < wz.heap.size := hr5.lt
          obtain ⟨Y, hY, hSY, hBY, y0, y1, y2⟩ := setO_pair hbw5 (n := w.heap.size + 1) (Nat.le_succ _) (show w.heap.size + 1 < W2.heap.size from HS2.out ▸ Nat.lt_succ_self _) hz5 (Own.leafF _ _ _ 1 0) ho5 hr5 7 0
          have HF : Hid (OwPost w.heap.size (.node 7 0 [.node 1 0 [], T]) w (.returned (.agg #[.int .i64 7, .int .i64 0, .slice (some ⟨wz.heap.size, 0, none⟩) 2 2])) Y) := ⟨_, _, _, _, _, rfl, hSY.more (HB2.out.size) (Nat.le_refl _), hBY⟩
          have HY := Lib.hid hY
          clear hSY hBY hY hr5 ho5 hbw5))
     all_goals
       (go_wp2_with fail
        rw [← HY.out]
        refine bodyPost_ret (v := .agg #[.int .i64 7, .int .i64 0, .slice (some ⟨wz.heap.size, 0, none⟩) 2 2]) (by simp [results, Tryd.results35, go_sem, y0, y1, y2]) rfl ?_
        exact HF.out))

set_option maxHeartbeats 1000000 in
set_option maxRecDepth 100000 in
theorem push_r (d : Nat) (ih : PushSaid d) (k : Int) (ng : Bool) (x : Ex) (cp kb ko : Nat) (C0 C1 C2 : Nat → Value) (w : World) (hs : fShape d x = true) (hO : Opened w w.heap.size [x] (some ⟨kb, ko, none⟩) kb ko C0 C1 C2) (hk : k = 9 ∧ ng = true ∨ k = 10 ∧ ng = false) :
    Calls Tryd.prog 35 #[.agg #[.int .i64 k, .int .i64 0, .slice (some ⟨kb, ko, none⟩) 1 cp], .bool ng] w (OwPost w.heap.size (.node 8 0 [fNot (.node 1 0 []), nf d (!ng) x]) w) := by
  obtain ⟨_, hb, g0, g1, g2, gl⟩ := hO 0 x rfl
  rw [Nat.zero_mul, Nat.add_zero] at g0 g1 g2
  obtain ⟨W2, hW2⟩ : ∃ W2, W2 = (w.alloc (.cells #[.int .i64 k, .int .i64 0, .slice (some ⟨kb, ko, none⟩) 1 cp] 25)).alloc (.cells #[.int .i64 0, .int .i64 0, .slice none 0 0] 25) := ⟨_, rfl⟩
  have hrows := two_boxes w 25 #[.int .i64 k, .int .i64 0, .slice (some ⟨kb, ko, none⟩) 1 cp] #[.int .i64 0, .int .i64 0, .slice none 0 0]
  rw [← hW2] at hrows
  obtain ⟨hr0, hr1, hb2⟩ := hrows
  have HW2 := Lib.hid hW2
  have HR0 := Lib.hid hr0
  have HR1 := Lib.hid hr1
  have HB2 := Lib.hid hb2
  have HS2 : Hid (W2.heap.size = w.heap.size + 2) := by show _ = _; rw [hW2]; simp
  have hN := ih ng x _ _ _ W2 hs (below_more gl hb2 hb2.size)
  obtain ⟨T, hT⟩ : ∃ T, T = nf d (!ng) x := ⟨_, rfl⟩
  rw [← hT] at hN ⊢
  have HN := Lib.hid hN
  clear hW2 hr0 hr1 hb2 hN hT gl ih
  rcases hk with ⟨rfl, rfl⟩ | ⟨rfl, rfl⟩
  all_goals
    (go_enter Tryd.func35, Tryd.ntmps35
     go_wp2_with fail
     rw [← HW2.out]
     refine HN.out.mono ?_
     rintro e' w3 ⟨i0, i1, ia, il, ic, rfl, ho, hb3⟩
     have hs3 := hb3.size
     obtain ⟨W4, hW4⟩ : ∃ W4, W4 = w3.alloc (.cells #[.int .i64 i0, .int .i64 i1, .slice ia il ic] 25) := ⟨_, rfl⟩
     have hb4 : Below w3.heap.size w3 W4 := by rw [hW4]; exact (Below.refl _ _).alloc (Nat.le_refl _) _
     have hr4 : Row W4 w3.heap.size 25 #[.int .i64 i0, .int .i64 i1, .slice ia il ic] := by rw [hW4]; exact Row.new _ _ _
     have HW4 := Lib.hid hW4
     have HR4 := Lib.hid hr4
     have HO4 := Lib.hid (ho.under hb4 (Nat.le_refl _))
     have HR14 := Lib.hid ((HR1.out.under hb3 HR1.out.lt).under hb4 (by have := HR1.out.lt; omega))
     have HR04 := Lib.hid ((HR0.out.under hb3 HR0.out.lt).under hb4 (by have := HR0.out.lt; omega))
     obtain ⟨p0, _, _, _⟩ := (HR0.out.under hb3 HR0.out.lt).zs
     have HB4 := Lib.hid ((HB2.out.trans (hb3.mono HB2.out.size)).trans (hb4.mono (by have := HB2.out.size; omega)))
     have HS4 : Hid (W2.heap.size ≤ w3.heap.size ∧ w3.heap.size < W4.heap.size) := ⟨hs3, hr4.lt⟩
     have hS4 : W4.drew.cell? ⟨w3.heap.size, 0, none⟩ = some (.int .i64 i0) ∧ W4.drew.cell? ⟨w3.heap.size, 1, none⟩ = some (.int .i64 i1) ∧ W4.drew.cell? ⟨w3.heap.size, 2, none⟩ = some (.slice ia il ic) := ⟨hr4.cell 0, hr4.cell 1, hr4.cell 2⟩
     have HBx : Hid (∀ W, Below W4.heap.size W4 W → (W.cell? ⟨w3.heap.size, 0, none⟩ = some (.int .i64 i0) ∧ W.cell? ⟨w3.heap.size, 1, none⟩ = some (.int .i64 i1) ∧ W.cell? ⟨w3.heap.size, 2, none⟩ = some (.slice ia il ic)) ∧ Row W (w.heap.size + 1) 25 #[.int .i64 0, .int .i64 0, .slice none 0 0] ∧ Own W 25 W2.heap.size W.heap.size T (.int .i64 i0) (.int .i64 i1) (.slice ia il ic) ∧ Below w.heap.size w W ∧ W2.heap.size ≤ W.heap.size) := fun W hW => by
       have hr := HR4.out.under hW HR4.out.lt
       have hz := hW.size
       exact ⟨⟨hr.cell 0, hr.cell 1, hr.cell 2⟩, HR14.out.under hW HR14.out.lt, (HO4.out.under hW (by have := HS4.out; omega)).more (Nat.le_refl _) (by have := HS4.out; omega), HB4.out.trans (hW.mono HB4.out.size), by have := HS4.out; omega⟩
     have HKp : Hid (∀ W, Below W4.heap.size W4 W → ∀ (u0 u1 u2 : Value) (o : Obj), ((((W.setCell ⟨w.heap.size + 1, 0, none⟩ u0).setCell ⟨w.heap.size + 1, 1, none⟩ u1).setCell ⟨w.heap.size + 1, 2, none⟩ u2).alloc o).cell? ⟨w3.heap.size, 0, none⟩ = some (.int .i64 i0) ∧ ((((W.setCell ⟨w.heap.size + 1, 0, none⟩ u0).setCell ⟨w.heap.size + 1, 1, none⟩ u1).setCell ⟨w.heap.size + 1, 2, none⟩ u2).alloc o).cell? ⟨w3.heap.size, 1, none⟩ = some (.int .i64 i1) ∧ ((((W.setCell ⟨w.heap.size + 1, 0, none⟩ u0).setCell ⟨w.heap.size + 1, 1, none⟩ u1).setCell ⟨w.heap.size + 1, 2, none⟩ u2).alloc o).cell? ⟨w3.heap.size, 2, none⟩ = some (.slice ia il ic)) := fun W hW u0 u1 u2 o => by
       obtain ⟨⟨q0, q1, q2⟩, _⟩ := HBx.out W hW
       have h1 := HS2.out
       have h2 := HS4.out
       exact ⟨cell_sets (by omega) q0 _ _ _ _, cell_sets (by omega) q1 _ _ _ _, cell_sets (by omega) q2 _ _ _ _⟩
     have hlt3 : w.heap.size < w3.heap.size := by have h1 := HS2.out; have h2 := HS4.out; omega
     clear ho hb3 hb4 hr4 hW4 g0 g1 g2
     go_upto_region 16 with fail
     rw [← HW4.out]
     go_region_held3 (fun w' => w'.cell? ⟨w3.heap.size, 0, none⟩ = some (.int .i64 i0) ∧ w'.cell? ⟨w3.heap.size, 1, none⟩ = some (.int .i64 i1) ∧ w'.cell? ⟨w3.heap.size, 2, none⟩ = some (.slice ia il ic)) (first | assumption | with_reducible exact (HBx.out _ (HBz.out.alloc HBz.out.size _)).1 | with_reducible exact HKp.out _ HBz.out _ _ _ _) (first
       | (go_at_call 55
          refine (true_spec _).mono ?_
          rintro e' w5 ⟨rfl, hb5⟩
          have HB5 : Hid (Below W4.heap.size W4 w5) := (Below.refl _ _).drew.trans hb5
          obtain ⟨hS5, hr5, ho5, hbw5, hz5⟩ := HBx.out w5 HB5.out
          clear hb5)
       | (go_at_call 54
          refine (notS_any (.node 1 0 []) (.int .i64 1) (.int .i64 0) (.slice none 0 0) W2.heap.size w5 (Own.leafF _ _ _ 1 0) hz5).mono ?_
          rintro e' wz ⟨j0, j1, ja, jl, jc, rfl, hn6, hb6⟩
          have HBz : Hid (Below W4.heap.size W4 wz) := HB5.out.trans (hb6.mono HB5.out.size)
          obtain ⟨hS6, hr6, ho6, hbw6, hz6⟩ := HBx.out wz HBz.out
          clear hb6 hr5 ho5 hbw5
          obtain ⟨x0, x1, x2, z0, z1, z2⟩ := hr6.zs
          have hlt0 : w.heap.size + 1 < wz.heap.size := hr6.lt
          obtain ⟨Y, hY, hSY, hBY, y0, y1, y2⟩ := setO_pair hbw6 (n := w.heap.size + 1) (Nat.le_succ _) (show w.heap.size + 1 < W2.heap.size from HS2.out ▸ Nat.lt_succ_self _) hz6 hn6 ho6 hr6 8 0
          have HF : Hid (OwPost w.heap.size (.node 8 0 [fNot (.node 1 0 []), T]) w (.returned (.agg #[.int .i64 8, .int .i64 0, .slice (some ⟨wz.heap.size, 0, none⟩) 2 2])) Y) := ⟨_, _, _, _, _, rfl, hSY.more (HB2.out.size) (Nat.le_refl _), hBY⟩
          have HY := Lib.hid hY
          clear hSY hBY hY hr6 ho6 hbw6 hn6))
     all_goals
       (go_wp2_with fail
        rw [← HY.out]
        refine bodyPost_ret (v := .agg #[.int .i64 8, .int .i64 0, .slice (some ⟨wz.heap.size, 0, none⟩) 2 2]) (by simp [results, Tryd.results35, go_sem, y0, y1, y2]) rfl ?_
        exact HF.out))

end Go.Proofs.YthcohnceehndfaaDoor
