/- The walk of spec.l5Push at kinds with two operands, negated. -/
import Derived.Test.YthcohnceehndfaaDoorNfT
namespace Go.Proofs.YthcohnceehndfaaDoor
open Go.RowKit

set_option maxHeartbeats 1000000 in
set_option maxRecDepth 100000 in
theorem push_two_true (d : Nat) (ih : PushSaid d) (k : Int) (x y : Ex) (cp kb ko : Nat) (C0 C1 C2 : Nat → Value) (w : World) (hsx : fShape d x = true) (hsy : fShape d y = true) (hO : Opened w w.heap.size [x, y] (some ⟨kb, ko, none⟩) kb ko C0 C1 C2) (hk : k = 4 ∨ k = 5 ∨ k = 7 ∨ k = 8) :
    Calls Tryd.prog 35 #[.agg #[.int .i64 k, .int .i64 0, .slice (some ⟨kb, ko, none⟩) 2 cp], .bool true] w (OwPost w.heap.size (.node (fDual k) 0 [nf d (!true) x, nf d (!true) y]) w) := by
  obtain ⟨_, hb, g0, g1, g2, gl⟩ := hO 0 x rfl
  obtain ⟨_, _, f0, f1, f2, fl⟩ := hO 1 y rfl
  rw [Nat.zero_mul, Nat.add_zero] at g0 g1 g2
  rw [Nat.one_mul] at f0 f1 f2
  obtain ⟨W2, hW2⟩ : ∃ W2, W2 = (w.alloc (.cells #[.int .i64 k, .int .i64 0, .slice (some ⟨kb, ko, none⟩) 2 cp] 25)).alloc (.cells #[.int .i64 0, .int .i64 0, .slice none 0 0] 25) := ⟨_, rfl⟩
  have hrows := two_boxes w 25 #[.int .i64 k, .int .i64 0, .slice (some ⟨kb, ko, none⟩) 2 cp] #[.int .i64 0, .int .i64 0, .slice none 0 0]
  rw [← hW2] at hrows
  obtain ⟨hr0, hr1, hb2⟩ := hrows
  have HW2 := Lib.hid hW2
  have HR0 := Lib.hid hr0
  have HR1 := Lib.hid hr1
  have HB2 := Lib.hid hb2
  have HS2 : Hid (W2.heap.size = w.heap.size + 2) := by show _ = _; rw [hW2]; simp
  have hN := fun W (hW : Below W2.heap.size W2 W) => ih true x _ _ _ W hsx (below_more (below_more gl hb2 hb2.size) hW hW.size)
  have hM := fun W (hW : Below W2.heap.size W2 W) => ih true y _ _ _ W hsy (below_more (below_more fl hb2 hb2.size) hW hW.size)
  obtain ⟨A, hA⟩ : ∃ A, A = nf d (!true) x := ⟨_, rfl⟩
  obtain ⟨B, hB⟩ : ∃ B, B = nf d (!true) y := ⟨_, rfl⟩
  obtain ⟨kk, hkk⟩ : ∃ kk, kk = (fDual k) := ⟨_, rfl⟩
  rw [← hA] at hN
  rw [← hB] at hM
  rw [← hA, ← hB, ← hkk]
  have HN := Lib.hid hN
  have HM := Lib.hid hM
  have HDu := Lib.hid hkk
  have HK := Lib.hid hk
  have HCs : Hid (∀ W, Below W2.heap.size W2 W → W.cell? ⟨w.heap.size, 2, none⟩ = some (.slice (some ⟨kb, ko, none⟩) 2 cp) ∧ W.cell? ⟨kb, ko, none⟩ = some (C0 0) ∧ W.cell? ⟨kb, ko + 1, none⟩ = some (C1 0) ∧ W.cell? ⟨kb, ko + 2, none⟩ = some (C2 0) ∧ W.cell? ⟨kb, ko + 3, none⟩ = some (C0 1) ∧ W.cell? ⟨kb, ko + 3 + 1, none⟩ = some (C1 1) ∧ W.cell? ⟨kb, ko + 3 + 2, none⟩ = some (C2 1)) := fun W hW => by
    have hr := HR0.out.under hW HR0.out.lt
    have hkb : kb < W2.heap.size := Nat.lt_of_lt_of_le hb HB2.out.size
    have e : ∀ (i : Nat) (u : Value), w.cell? ⟨kb, i, none⟩ = some u → W.cell? ⟨kb, i, none⟩ = some u := fun i u h => (hW.cell hkb).trans ((HB2.out.cell (p := ⟨kb, i, none⟩) hb).trans h)
    exact ⟨hr.cell 2, e _ _ g0, e _ _ g1, e _ _ g2, e _ _ f0, e _ _ f1, e _ _ f2⟩
  have HKp : Hid (∀ W, Below W2.heap.size W2 W → ∀ (u0 u1 u2 : Value) (o : Obj), ((((W.setCell ⟨w.heap.size + 1, 0, none⟩ u0).setCell ⟨w.heap.size + 1, 1, none⟩ u1).setCell ⟨w.heap.size + 1, 2, none⟩ u2).alloc o).cell? ⟨w.heap.size, 2, none⟩ = some (.slice (some ⟨kb, ko, none⟩) 2 cp) ∧ ((((W.setCell ⟨w.heap.size + 1, 0, none⟩ u0).setCell ⟨w.heap.size + 1, 1, none⟩ u1).setCell ⟨w.heap.size + 1, 2, none⟩ u2).alloc o).cell? ⟨kb, ko, none⟩ = some (C0 0) ∧ ((((W.setCell ⟨w.heap.size + 1, 0, none⟩ u0).setCell ⟨w.heap.size + 1, 1, none⟩ u1).setCell ⟨w.heap.size + 1, 2, none⟩ u2).alloc o).cell? ⟨kb, ko + 1, none⟩ = some (C1 0) ∧ ((((W.setCell ⟨w.heap.size + 1, 0, none⟩ u0).setCell ⟨w.heap.size + 1, 1, none⟩ u1).setCell ⟨w.heap.size + 1, 2, none⟩ u2).alloc o).cell? ⟨kb, ko + 2, none⟩ = some (C2 0) ∧ ((((W.setCell ⟨w.heap.size + 1, 0, none⟩ u0).setCell ⟨w.heap.size + 1, 1, none⟩ u1).setCell ⟨w.heap.size + 1, 2, none⟩ u2).alloc o).cell? ⟨kb, ko + 3, none⟩ = some (C0 1) ∧ ((((W.setCell ⟨w.heap.size + 1, 0, none⟩ u0).setCell ⟨w.heap.size + 1, 1, none⟩ u1).setCell ⟨w.heap.size + 1, 2, none⟩ u2).alloc o).cell? ⟨kb, ko + 3 + 1, none⟩ = some (C1 1) ∧ ((((W.setCell ⟨w.heap.size + 1, 0, none⟩ u0).setCell ⟨w.heap.size + 1, 1, none⟩ u1).setCell ⟨w.heap.size + 1, 2, none⟩ u2).alloc o).cell? ⟨kb, ko + 3 + 2, none⟩ = some (C2 1)) := fun W hW u0 u1 u2 o => by
    obtain ⟨q0, q1, q2, q3, q4, q5, q6⟩ := HCs.out W hW
    exact ⟨cell_sets (by omega) q0 _ _ _ _, cell_sets (by omega) q1 _ _ _ _, cell_sets (by omega) q2 _ _ _ _, cell_sets (by omega) q3 _ _ _ _, cell_sets (by omega) q4 _ _ _ _, cell_sets (by omega) q5 _ _ _ _, cell_sets (by omega) q6 _ _ _ _⟩
  have hS2 := HCs.out W2.drew (Below.refl _ _).drew
  have r0 : W2.cell? ⟨w.heap.size, 0, none⟩ = some (.int .i64 k) := hr0.cell 0
  have h1 : ¬ k = 1 := by omega
  have h2 : ¬ k = 2 := by omega
  have h3 : ¬ k = 3 := by omega
  have h6 : ¬ k = 6 := by omega
  have h9 : ¬ k = 9 := by omega
  have h10 : ¬ k = 10 := by omega
  
  clear hW2 hr0 hr1 hb2 hN hM hA hB gl fl ih hkk hk g0 g1 g2 f0 f1 f2
  go_enter Tryd.func35, Tryd.ntmps35
  go_wp2_with fail
  rw [← HW2.out]
  refine (dual_spec k W2 HK.out).mono ?_
  rintro e' w1 ⟨rfl, rfl⟩
  rw [← HDu.out]
  go_upto_region 20 with fail

  go_region_held3 (fun w' => w'.cell? ⟨w.heap.size, 2, none⟩ = some (.slice (some ⟨kb, ko, none⟩) 2 cp) ∧ w'.cell? ⟨kb, ko, none⟩ = some (C0 0) ∧ w'.cell? ⟨kb, ko + 1, none⟩ = some (C1 0) ∧ w'.cell? ⟨kb, ko + 2, none⟩ = some (C2 0) ∧ w'.cell? ⟨kb, ko + 3, none⟩ = some (C0 1) ∧ w'.cell? ⟨kb, ko + 3 + 1, none⟩ = some (C1 1) ∧ w'.cell? ⟨kb, ko + 3 + 2, none⟩ = some (C2 1)) (first | assumption | with_reducible exact HCs.out _ (HB4.out.alloc HB4.out.size _) | with_reducible exact HKp.out _ HB4.out _ _ _ _) (first
    | (go_at_call 35
       with_reducible refine (HN.out _ (Below.refl _ _).drew).mono ?_
       rintro e' w3 ⟨i0, i1, ia, il, ic, rfl, ho3, hb3⟩
       have HB3 : Hid (Below W2.heap.size W2 w3) := (Below.refl _ _).drew.trans hb3
       have HO3 := Lib.hid (show Own w3 25 W2.heap.size w3.heap.size A (.int .i64 i0) (.int .i64 i1) (.slice ia il ic) from ho3)
       have hS3 := HCs.out w3 HB3.out
       clear hb3 ho3)
    | (go_at_call 35
       with_reducible refine (HM.out _ HB3.out).mono ?_
       rintro e' wz ⟨j0, j1, ja, jl, jc, rfl, ho4, hb4⟩
       have HB4 : Hid (Below W2.heap.size W2 wz) := HB3.out.trans (hb4.mono HB3.out.size)
       have hS4 := HCs.out wz HB4.out
       have hr4 := HR1.out.under HB4.out HR1.out.lt
       obtain ⟨x0, x1, x2, z0, z1, z2⟩ := hr4.zs
       have hlt0 : w.heap.size + 1 < wz.heap.size := hr4.lt
       obtain ⟨Y, hY, hSY, hBY, y0, y1, y2⟩ := setO_pair (HB2.out.trans (HB4.out.mono HB2.out.size)) (n := w.heap.size + 1) (Nat.le_succ _) (show w.heap.size + 1 < W2.heap.size from HS2.out ▸ Nat.lt_succ_self _) HB4.out.size ((HO3.out.under hb4 (Nat.le_refl _)).more (Nat.le_refl _) hb4.size) (ho4.more HB3.out.size (Nat.le_refl _)) hr4 kk 0
       have HF : Hid (OwPost w.heap.size (.node kk 0 [A, B]) w (.returned (.agg #[.int .i64 kk, .int .i64 0, .slice (some ⟨wz.heap.size, 0, none⟩) 2 2])) Y) := ⟨_, _, _, _, _, rfl, hSY.more (HB2.out.size) (Nat.le_refl _), hBY⟩
       have HY := Lib.hid hY
       clear hSY hBY hY hr4 hb4 ho4))
  all_goals
    (go_wp2_with fail
     rw [← HY.out]
     refine bodyPost_ret (v := .agg #[.int .i64 kk, .int .i64 0, .slice (some ⟨wz.heap.size, 0, none⟩) 2 2]) (by simp [results, Tryd.results35, go_sem, y0, y1, y2]) rfl ?_
     exact HF.out)

end Go.Proofs.YthcohnceehndfaaDoor
