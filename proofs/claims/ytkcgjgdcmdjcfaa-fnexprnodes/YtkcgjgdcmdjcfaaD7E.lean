/- The walk of spec.DrawEvalExpr. -/
import Derived.Test.YtkcgjgdcmdjcfaaD5
import Derived.Test.YtkcgjgdcmdjcfaaD6
import Derived.Test.YtkcgjgdcmdjcfaaSd
import Derived.Deep.RegionWith
namespace Go.Proofs.Ytkcgjgdcmdjcfaa
open Go.RowKit

/-- What a draw of a tree and of values leaves. -/
def DrawEPost (w : World) (e' : Ending) (w' : World) : Prop :=
  ∃ (e : Ex) (d0 d1 d2 : Value) (zs : List Int) (Av : Option Addr) (bv ov cv : Nat), e' = .returned (.tuple #[.agg #[d0, d1, d2], .slice Av zs.length cv]) ∧ Own w' 25 w.heap.size w'.heap.size e d0 d1 d2 ∧ desc e ≤ 15 ∧
    zs.length ≤ 3 ∧ Ints w' w'.heap.size Av bv ov zs ∧ Below w.heap.size w w'

set_option maxHeartbeats 1000000 in
set_option maxRecDepth 100000 in
theorem drawEval_any (A : Option Addr) (b off n cap : Nat) (w : World) (hC : Seed w A b off n cap) : Calls Try.prog 8 #[.slice A n cap] w (DrawEPost w) := by
  obtain ⟨W1, hW1⟩ : ∃ W1, W1 = w.alloc (.cells #[.int .i64 0, .int .i64 0, .slice none 0 0] 25) := ⟨_, rfl⟩
  have hB1 : Below w.heap.size w W1 := by rw [hW1]; exact (Below.refl _ _).alloc (Nat.le_refl _) _
  have HC1 := Lib.hid (hC.under hB1)
  have HR1 : Hid (Row W1 w.heap.size 25 #[.int .i64 0, .int .i64 0, .slice none 0 0]) := by rw [hW1]; exact Row.new _ _ _
  have HB1 := Lib.hid hB1
  have HW1 := Lib.hid hW1
  clear hW1 hB1 hC
  go_enter Try.func8, Try.ntmps8
  go_wp2_with fail
  rw [← HW1.out]
  refine (open_any A b off n cap _ HC1.out.bytes HC1.out.lenle HC1.out.caple HC1.out.addr).mono ?_
  rintro e' w2 ⟨g, A2, b2, o2, n2, c2, rfl, hg2, hS2, hb2⟩
  have hwg : w.heap.size < g := by have := HR1.out.lt; omega
  have HB2 := Lib.hid (HB1.out.trans (hb2.mono HB1.out.size))
  have HR2 := Lib.hid (HR1.out.under hb2 HR1.out.lt)
  have HS2 := Lib.hid hS2
  clear hb2 hS2 hg2
  go_wp2_with fail
  refine (l1Expr_any g A2 b2 o2 n2 c2 0 _ HS2.out (by omega) (by omega)).mono ?_
  rintro e' w3 ⟨e, d0, d1, d2, rfl, ho3, hs3, hd3, hP3⟩
  obtain ⟨hg3, p3, hp30, hp31, hS3⟩ := hP3
  have HB3 := Lib.hid (below_of_grown HB2.out hg3 (by omega))
  have HR3 := Lib.hid (HR2.out.grown hg3 (by omega))
  have HS3 := Lib.hid hS3
  have HO3 := Lib.hid ho3.lies
  have HSh := Lib.hid hs3
  have hg3z : g < w3.heap.size := hS3.lt
  clear hg3 hS3 ho3 hs3
  go_wp2_with fail
  refine (l1Mutate_any g A2 b2 o2 n2 c2 p3 e _ _ _ _ HS3.out (by omega) (by omega) HSh.out HO3.out hd3).mono ?_
  rintro e' w4 ⟨e4, m0, m1, m2, rfl, ho4, hd4, hP4⟩
  obtain ⟨k0, k1, a4, l4, cp4, rfl, rfl, rfl⟩ := ho4.form
  obtain ⟨hg4, p4, hp40, hp41, hS4⟩ := hP4
  have HB4 := Lib.hid (below_of_grown HB3.out hg4 (by omega))
  have hr4 := HR3.out.grown hg4 (by omega)
  obtain ⟨W5, hW5⟩ : ∃ W5, W5 = w4.alloc (.cells #[.int .i64 k0, .int .i64 k1, .slice a4 l4 cp4] 25) := ⟨_, rfl⟩
  have hB5 : Below w4.heap.size w4 W5 := by rw [hW5]; exact (Below.refl _ _).alloc (Nat.le_refl _) _
  have hB5d : Below w4.heap.size w4 W5.drew := hB5.drew
  have HR5 : Hid (Row W5.drew w4.heap.size 25 #[.int .i64 k0, .int .i64 k1, .slice a4 l4 cp4]) := by rw [hW5]; exact Row.new _ _ _
  have HRr5 : Hid (Row W5.drew w.heap.size 25 #[.int .i64 0, .int .i64 0, .slice none 0 0]) := hr4.under hB5d hr4.lt
  have HS5 : Hid (Src W5.drew g A2 b2 o2 n2 c2 p4) := hS4.under hB5d hS4.lt
  have HO5 : Hid (Own W5.drew 25 w3.heap.size w4.heap.size e4 (.int .i64 k0) (.int .i64 k1) (.slice a4 l4 cp4)) := ho4.under hB5d (Nat.le_refl _)
  have HB5 : Hid (Below w.heap.size w W5.drew) := HB4.out.trans (hB5d.mono HB4.out.size)
  have hz : w.heap.size < w3.heap.size := HR3.out.lt
  have hz34 : w3.heap.size ≤ w4.heap.size := hg4.size
  have q0 : W5.cell? ⟨w4.heap.size, 0, none⟩ = some (.int .i64 k0) := HR5.out.cell 0
  have q1 : W5.cell? ⟨w4.heap.size, 1, none⟩ = some (.int .i64 k1) := HR5.out.cell 1
  have q2 : W5.cell? ⟨w4.heap.size, 2, none⟩ = some (.slice a4 l4 cp4) := HR5.out.cell 2
  have HW5 := Lib.hid hW5
  clear hg4 hS4 ho4 hr4 hW5 hB5 hB5d HB4
  go_wp2_with fail
  rw [← HW5.out]
  go_region_with (first
    | (go_at_call 27
       refine (l1Values_any g A2 b2 o2 n2 c2 p4 _ HS5.out (by omega) (by omega)).mono ?_
       rintro e' w6 ⟨zs, Av, bv, ov, cv, rfl, hzl, hbv, hI6, hP6⟩
       have hbvN : w4.heap.size < bv := by have h1 := HR5.out.lt; omega
       obtain ⟨hg6, p6, hp60, hp61, hS6⟩ := hP6
       have hr6 := HR5.out.grown hg6 (by omega)
       have hrr6 := HRr5.out.grown hg6 (by omega)
       have q0' : w6.cell? ⟨w4.heap.size, 0, none⟩ = some (.int .i64 k0) := hr6.cell 0
       have q1' : w6.cell? ⟨w4.heap.size, 1, none⟩ = some (.int .i64 k1) := hr6.cell 1
       have q2' : w6.cell? ⟨w4.heap.size, 2, none⟩ = some (.slice a4 l4 cp4) := hr6.cell 2
       have y0 : w6.cell? ⟨w.heap.size, 0, none⟩ = some (.int .i64 0) := hrr6.cell 0
       have y1 : w6.cell? ⟨w.heap.size, 1, none⟩ = some (.int .i64 0) := hrr6.cell 1
       have y2 : w6.cell? ⟨w.heap.size, 2, none⟩ = some (.slice none 0 0) := hrr6.cell 2
       have z0 := hrr6.frozen 0
       have z1 := hrr6.frozen 1
       have z2 := hrr6.frozen 2
       have HB6 := Lib.hid (below_of_grown HB5.out hg6 (by omega))
       have HI6 := Lib.hid hI6
       have HO6 := Lib.hid (HO5.out.grown hg6 (by omega) (by have := HR5.out.lt; omega))
       have hz6 : w4.heap.size ≤ w6.heap.size := by have h1 := hg6.size; have h2 := HR5.out.lt; omega
       clear hg6 hS6 hI6 hr6 hrr6))
  all_goals
    (go_wp2_with fail
     refine bodyPost_ret (v := .tuple #[.agg #[.int .i64 k0, .int .i64 k1, .slice a4 l4 cp4], .slice Av zs.length cv]) (by simp [results, Try.results8, go_sem, y0, y1, y2]) rfl ?_
     have hb : Below w.heap.size w6 (((w6.setCell ⟨w.heap.size, 0, none⟩ (.int .i64 k0)).setCell ⟨w.heap.size, 1, none⟩ (.int .i64 k1)).setCell ⟨w.heap.size, 2, none⟩ (.slice a4 l4 cp4)) :=
       (((Below.refl _ _).setCell (p := ⟨w.heap.size, 0, none⟩) (Nat.le_refl _) _).setCell (p := ⟨w.heap.size, 1, none⟩) (Nat.le_refl _) _).setCell (p := ⟨w.heap.size, 2, none⟩) (Nat.le_refl _) _
     refine ⟨e4, _, _, _, zs, Av, bv, ov, cv, rfl, HO6.out.keep (by omega) (by simp; omega) fun q hq _ => ?_, hd4, hzl, fun i z hz => ?_, HB6.out.trans hb⟩
     · rw [Below.heap_setCell _ _ _ _ (by simp; omega), Below.heap_setCell _ _ _ _ (by simp; omega), Below.heap_setCell _ _ _ _ (by simp; omega)]
     · obtain ⟨h1, h2, h3⟩ := HI6.out i z hz
       refine ⟨h1, by simp; omega, ?_⟩
       rw [World.cell?_of_block (w := w6) (by rw [Below.heap_setCell _ _ _ _ (by simp; omega), Below.heap_setCell _ _ _ _ (by simp; omega), Below.heap_setCell _ _ _ _ (by simp; omega)])]
       exact h3)

end Go.Proofs.Ytkcgjgdcmdjcfaa
