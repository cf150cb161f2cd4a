/- The walks of spec.DrawExprValid and spec.DrawExprNodes. -/
import Derived.Test.YtkcgjgdcmdjcfaaD5
import Derived.Test.YtkcgjgdcmdjcfaaSd
import Derived.Deep.RegionWith
namespace Go.Proofs.Ytkcgjgdcmdjcfaa
open Go.RowKit

/-- What a draw of a tree leaves. -/
def DrawPost (w : World) (e' : Ending) (w' : World) : Prop :=
  ∃ (e : Ex) (d0 d1 d2 : Value), e' = .returned (.agg #[d0, d1, d2]) ∧ Own w' 25 w.heap.size w'.heap.size e d0 d1 d2 ∧ desc e ≤ 15 ∧ Below w.heap.size w w'

set_option maxHeartbeats 400000 in
set_option maxRecDepth 100000 in
theorem drawValid_any (A : Option Addr) (b off n cap : Nat) (w : World) (hC : Seed w A b off n cap) : Calls Try.prog 36 #[.slice A n cap] w (DrawPost w) := by
  obtain ⟨W1, hW1⟩ : ∃ W1, W1 = w.alloc (.cells #[.int .i64 0, .int .i64 0, .slice none 0 0] 25) := ⟨_, rfl⟩
  have hB1 : Below w.heap.size w W1 := by rw [hW1]; exact (Below.refl _ _).alloc (Nat.le_refl _) _
  have HC1 := Lib.hid (hC.under hB1)
  have HR1 : Hid (Row W1 w.heap.size 25 #[.int .i64 0, .int .i64 0, .slice none 0 0]) := by rw [hW1]; exact Row.new _ _ _
  have HB1 := Lib.hid hB1
  have HW1 := Lib.hid hW1
  clear hW1 hB1 hC
  go_enter Try.func36, Try.ntmps36
  go_wp2_with fail
  rw [← HW1.out]
  refine (open_any A b off n cap _ HC1.out.bytes HC1.out.lenle HC1.out.caple HC1.out.addr).mono ?_
  rintro e' w2 ⟨g, A2, b2, o2, n2, c2, rfl, hg2, hS2, hb2⟩
  have hwg : w.heap.size < g := by have := HR1.out.lt; omega
  have HB2 := Lib.hid (HB1.out.trans (hb2.mono HB1.out.size))
  have HR2 := Lib.hid (HR1.out.under hb2 HR1.out.lt)
  have HS2 := Lib.hid hS2
  clear hb2 hS2 hg2
  go_wp2_with fail
  refine (l1Expr_any g A2 b2 o2 n2 c2 0 _ HS2.out (by omega) (by omega)).mono ?_
  rintro e' w3 ⟨e, d0, d1, d2, rfl, ho3, hs3, hd3, hP3⟩
  obtain ⟨hg3, p3, hp30, hp31, hS3⟩ := hP3
  have HB3 := Lib.hid (below_of_grown HB2.out hg3 (by omega))
  have HR3 := Lib.hid (HR2.out.grown hg3 (by omega))
  have HS3 := Lib.hid hS3
  have HO3 := Lib.hid ho3.lies
  have HSh := Lib.hid hs3
  clear hg3 hS3 ho3 hs3
  go_wp2_with fail
  refine (l1Mutate_any g A2 b2 o2 n2 c2 p3 e _ _ _ _ HS3.out (by omega) (by omega) HSh.out HO3.out hd3).mono ?_
  rintro e' w4 ⟨e4, m0, m1, m2, rfl, ho4, hd4, hP4⟩
  obtain ⟨k0, k1, a4, l4, cp4, rfl, rfl, rfl⟩ := ho4.form
  obtain ⟨hg4, p4, hp40, hp41, hS4⟩ := hP4
  have hr4 := HR3.out.grown hg4 (by omega)
  have y0 : w4.cell? ⟨w.heap.size, 0, none⟩ = some (.int .i64 0) := hr4.cell 0
  have y1 : w4.cell? ⟨w.heap.size, 1, none⟩ = some (.int .i64 0) := hr4.cell 1
  have y2 : w4.cell? ⟨w.heap.size, 2, none⟩ = some (.slice none 0 0) := hr4.cell 2
  have z0 := hr4.frozen 0
  have z1 := hr4.frozen 1
  have z2 := hr4.frozen 2
  have HB4 := Lib.hid (below_of_grown HB3.out hg4 (by omega))
  have HO4 := Lib.hid ho4
  have hz : w.heap.size < w3.heap.size := HR3.out.lt
  clear hg4 hS4 ho4 hr4
  go_wp2_with fail
  refine bodyPost_ret (v := .agg #[.int .i64 k0, .int .i64 k1, .slice a4 l4 cp4]) (by simp [results, Try.results36, go_sem, y0, y1, y2]) rfl ?_
  have hb : Below w.heap.size w4 (((w4.setCell ⟨w.heap.size, 0, none⟩ (.int .i64 k0)).setCell ⟨w.heap.size, 1, none⟩ (.int .i64 k1)).setCell ⟨w.heap.size, 2, none⟩ (.slice a4 l4 cp4)) :=
    (((Below.refl _ _).setCell (p := ⟨w.heap.size, 0, none⟩) (Nat.le_refl _) _).setCell (p := ⟨w.heap.size, 1, none⟩) (Nat.le_refl _) _).setCell (p := ⟨w.heap.size, 2, none⟩) (Nat.le_refl _) _
  refine ⟨e4, _, _, _, rfl, HO4.out.keep (by omega) (by simp) fun q hq _ => ?_, hd4, HB4.out.trans hb⟩
  rw [Below.heap_setCell _ _ _ _ (by simp; omega), Below.heap_setCell _ _ _ _ (by simp; omega), Below.heap_setCell _ _ _ _ (by simp; omega)]

set_option maxHeartbeats 400000 in
theorem drawNodes_any (A : Option Addr) (b off n cap : Nat) (w : World) (hC : Seed w A b off n cap) : Calls Try.prog 12 #[.slice A n cap] w (DrawPost w) := by
  obtain ⟨W1, hW1⟩ : ∃ W1, W1 = w.alloc (.cells #[.int .i64 0, .int .i64 0, .slice none 0 0] 25) := ⟨_, rfl⟩
  have hB1 : Below w.heap.size w W1 := by rw [hW1]; exact (Below.refl _ _).alloc (Nat.le_refl _) _
  have HC1 := Lib.hid (hC.under hB1)
  have HR1 : Hid (Row W1 w.heap.size 25 #[.int .i64 0, .int .i64 0, .slice none 0 0]) := by rw [hW1]; exact Row.new _ _ _
  have HB1 := Lib.hid hB1
  have HW1 := Lib.hid hW1
  clear hW1 hB1 hC
  go_enter Try.func12, Try.ntmps12
  go_wp2_with fail
  rw [← HW1.out]
  refine (drawValid_any A b off n cap _ HC1.out).mono ?_
  rintro e' w4 ⟨e4, m0, m1, m2, rfl, ho4, hd4, hb4⟩
  obtain ⟨k0, k1, a4, l4, cp4, rfl, rfl, rfl⟩ := ho4.form
  have hr4 := HR1.out.under hb4 HR1.out.lt
  have y0 : w4.cell? ⟨w.heap.size, 0, none⟩ = some (.int .i64 0) := hr4.cell 0
  have y1 : w4.cell? ⟨w.heap.size, 1, none⟩ = some (.int .i64 0) := hr4.cell 1
  have y2 : w4.cell? ⟨w.heap.size, 2, none⟩ = some (.slice none 0 0) := hr4.cell 2
  have z0 := hr4.frozen 0
  have z1 := hr4.frozen 1
  have z2 := hr4.frozen 2
  have HB4 := Lib.hid (HB1.out.trans (hb4.mono HB1.out.size))
  have HO4 := Lib.hid ho4
  have hz : w.heap.size < W1.heap.size := HR1.out.lt
  clear hb4 ho4 hr4
  go_wp2_with fail
  refine bodyPost_ret (v := .agg #[.int .i64 k0, .int .i64 k1, .slice a4 l4 cp4]) (by simp [results, Try.results12, go_sem, y0, y1, y2]) rfl ?_
  have hb : Below w.heap.size w4 (((w4.setCell ⟨w.heap.size, 0, none⟩ (.int .i64 k0)).setCell ⟨w.heap.size, 1, none⟩ (.int .i64 k1)).setCell ⟨w.heap.size, 2, none⟩ (.slice a4 l4 cp4)) :=
    (((Below.refl _ _).setCell (p := ⟨w.heap.size, 0, none⟩) (Nat.le_refl _) _).setCell (p := ⟨w.heap.size, 1, none⟩) (Nat.le_refl _) _).setCell (p := ⟨w.heap.size, 2, none⟩) (Nat.le_refl _) _
  refine ⟨e4, _, _, _, rfl, HO4.out.keep (by omega) (by simp) fun q hq _ => ?_, hd4, HB4.out.trans hb⟩
  rw [Below.heap_setCell _ _ _ _ (by simp; omega), Below.heap_setCell _ _ _ _ (by simp; omega), Below.heap_setCell _ _ _ _ (by simp; omega)]

end Go.Proofs.Ytkcgjgdcmdjcfaa
