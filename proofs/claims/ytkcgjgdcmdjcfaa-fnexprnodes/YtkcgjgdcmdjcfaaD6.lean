/- The walk of spec.l1Values: some values are drawn. -/
import Derived.Test.YtkcgjgdcmdjcfaaD3
namespace Go.Proofs.Ytkcgjgdcmdjcfaa
open Go.RowKit

/-- What l1Values leaves. -/
def ValsPost (g : Nat) (A : Option Addr) (b off n cap : Nat) (p : Int) (m : Int) (w : World) (e' : Ending) (w' : World) : Prop :=
  ∃ (zs : List Int) (Av : Option Addr) (bv ov cv : Nat), e' = .returned (.slice Av zs.length cv) ∧ zs.length ≤ 3 ∧ w.heap.size ≤ bv ∧ Ints w' w'.heap.size Av bv ov zs ∧ Picked g A b off n cap p m w w'

theorem row_ints {w : World} {q : Nat} {zs : List Int} (h : Row w q 3 (zs.map (Value.int .i64)).toArray) (m : Nat) : Ints w w.heap.size (some ⟨q, 0, none⟩) q 0 (zs.take m) := fun i z hz => by
  refine ⟨rfl, h.lt, ?_⟩
  rw [h.cell, Nat.zero_add]
  rw [List.getElem?_take] at hz
  split at hz
  · simp [hz]
  · cases hz

set_option maxHeartbeats 1000000 in
set_option maxRecDepth 100000 in
theorem l1Values_any (g : Nat) (A : Option Addr) (b off n cap : Nat) (p : Int) (w : World) (hS : Src w g A b off n cap p) (hp0 : 0 ≤ p) (hp1 : p ≤ 900000) :
    Calls Try.prog 27 #[.pointer (some ⟨g, 0, none⟩)] w (ValsPost g A b off n cap p 6 w) := by
  have hgN : g < w.heap.size := hS.lt
  have HS := Lib.hid hS
  clear hS
  go_enter Try.func27, Try.ntmps27
  go_wp2_with fail
  refine (pick_any g A b off n cap p 4 _ HS.out (by omega) (by omega) (by omega) (by omega)).mono ?_
  rintro e' w1 ⟨r1, rfl, h10, h11, hP1⟩
  obtain ⟨hg1, p1, hp10, hp11, hS1⟩ := hP1
  have HG1 := Lib.hid hg1
  have HS1 := Lib.hid hS1
  clear hg1 hS1
  go_wp2_with fail
  refine (pick_any g A b off n cap p1 4 _ HS1.out (by omega) (by omega) (by omega) (by omega)).mono ?_
  rintro e' w2 ⟨r2, rfl, h20, h21, hP2⟩
  obtain ⟨hg2, p2, hp20, hp21, hS2⟩ := hP2
  have HG2 := Lib.hid (grown_trans HG1.out hg2)
  have HS2 := Lib.hid hS2
  clear hg2 hS2 HG1 HS1
  go_wp2_with fail
  refine (pick_any g A b off n cap p2 4 _ HS2.out (by omega) (by omega) (by omega) (by omega)).mono ?_
  rintro e' w3 ⟨r3, rfl, h30, h31, hP3⟩
  obtain ⟨hg3, p3, hp30, hp31, hS3⟩ := hP3
  have HG3 := Lib.hid (grown_trans HG2.out hg3)
  have hz3 : w.heap.size ≤ w3.heap.size := (grown_trans HG2.out hg3).size
  obtain ⟨W4, hW4⟩ : ∃ W4, W4 = w3.alloc (.cells #[.int .i64 r1, .int .i64 r2, .int .i64 r3] 3) := ⟨_, rfl⟩
  have hB4 : Below w3.heap.size w3 W4 := by rw [hW4]; exact (Below.refl _ _).alloc (Nat.le_refl _) _
  have HR4 : Hid (Row W4 w3.heap.size 3 #[.int .i64 r1, .int .i64 r2, .int .i64 r3]) := by rw [hW4]; exact Row.new _ _ _
  have HS4 := Lib.hid (hS3.under hB4 hS3.lt)
  have HG4 := Lib.hid (grown_below HG3.out hB4 hz3)
  have HW4 := Lib.hid hW4
  clear hg3 hS3 HG2 HS2 hW4 hB4 HG3
  go_wp2_with fail
  rw [← HW4.out]
  refine (pick_any g A b off n cap p3 20 _ HS4.out (by omega) (by omega) (by omega) (by omega)).mono ?_
  rintro e' w5 ⟨r5, rfl, h50, h51, hP5⟩
  obtain ⟨hg5, p5, hp50, hp51, hS5⟩ := hP5
  have HG5 := Lib.hid (grown_trans HG4.out hg5)
  have HR5 := Lib.hid (HR4.out.grown hg5 (by omega))
  have HS5 := Lib.hid hS5
  clear hg5 hS5 HG4 HS4 HR4 HW4
  by_cases h0 : r5 = 0
  · subst h0
    go_wp2_with fail
    go_ret
    exact ⟨[r1, r2], some ⟨w3.heap.size, 0, none⟩, w3.heap.size, 0, 3, rfl, by simp, hz3, row_ints (zs := [r1, r2, r3]) HR5.out 2, HG5.out, p5, by omega, by omega, HS5.out⟩
  by_cases h1 : r5 = 1
  · subst h1
    go_wp2_with fail
    refine (pick_any g A b off n cap p5 3 _ HS5.out (by omega) (by omega) (by omega) (by omega)).mono ?_
    rintro e' w6 ⟨r6, rfl, h60, h61, hP6⟩
    obtain ⟨hg6, p6, hp60, hp61, hS6⟩ := hP6
    obtain ⟨j, rfl⟩ : ∃ j : Nat, r6 = j := ⟨r6.toNat, by omega⟩
    have hj : j < 3 := by omega
    have HG6 := Lib.hid (grown_trans HG5.out hg6)
    have HR6 := Lib.hid (HR5.out.grown hg6 (by omega))
    have HS6 := Lib.hid hS6
    have HIl : Hid (Ints (w6.alloc (.cells #[.int .i64 (-1), .int .i64 4, .int .i64 9223372036854775807] 3)) (w6.alloc (.cells #[.int .i64 (-1), .int .i64 4, .int .i64 9223372036854775807] 3)).heap.size (some ⟨w6.heap.size, 0, none⟩) w6.heap.size 0 [-1, 4, 9223372036854775807]) := ints_lit w6 [-1, 4, 9223372036854775807]
    clear hg6 hS6 HG5 HS5 HR5
    go_wp2_with fail
    refine (num_any [-1, 4, 9223372036854775807] g A b off n cap p6 _ (HS6.out.under ((Below.refl _ w6).alloc (Nat.le_refl _) _) HS6.out.lt) (by omega) (by omega) _ w6.heap.size 0 3 HIl.out (by have := HS6.out.lt; omega) (by simp) (by simp)).mono ?_
    rintro e' w7 ⟨z, rfl, hmem, hP7⟩
    obtain ⟨hg7, p7, hp70, hp71, hS7⟩ := hP7
    have hg7' : w6.grownBy w7 (some g) := below_grown ((Below.refl _ w6).alloc (Nat.le_refl _) _) hg7
    have hr7 := HR6.out.grown hg7' (by omega)
    obtain ⟨u, c0⟩ : ∃ u, w7.cell? ⟨w3.heap.size, j, none⟩ = some u := ⟨_, by rw [hr7.cell]; exact Array.getElem?_eq_getElem (by simpa using hj)⟩
    have f0 := hr7.frozen j
    have HG7 := Lib.hid (grown_trans HG6.out hg7')
    have hb : Below w3.heap.size w7 (w7.setCell ⟨w3.heap.size, j, none⟩ (.int .i64 z)) := (Below.refl _ _).setCell (p := ⟨w3.heap.size, j, none⟩) (Nat.le_refl _) _
    have HGx := Lib.hid (grown_below HG7.out hb hz3)
    have HSx := Lib.hid (hS7.under hb (by omega))
    have HIx : Hid (Ints (w7.setCell ⟨w3.heap.size, j, none⟩ (.int .i64 z)) (w7.setCell ⟨w3.heap.size, j, none⟩ (.int .i64 z)).heap.size (some ⟨w3.heap.size, 0, none⟩) w3.heap.size 0 (([r1, r2, r3].set j z).take 3)) := by
      refine row_ints ?_ 3
      have := hr7.set_ j (.int .i64 z)
      rw [List.map_set]
      simpa using this
    clear hg7 hg7' hS7 hmem HG6 HS6 HR6 HIl hr7 hb HG7
    go_wp2_with fail
    go_ret
    have hl : (([r1, r2, r3].set j z).take 3).length = 3 := by simp
    refine ⟨([r1, r2, r3].set j z).take 3, some ⟨w3.heap.size, 0, none⟩, w3.heap.size, 0, 3, ?_, by omega, hz3, HIx.out, HGx.out, p7, by omega, by omega, HSx.out⟩
    rw [hl]
    rfl
  · have b0 : (r5 == 0) = false := by rw [beq_eq_false_iff_ne]; exact h0
    have b1 : (r5 == 1) = false := by rw [beq_eq_false_iff_ne]; exact h1
    go_wp2_with fail
    go_ret
    exact ⟨[r1, r2, r3], some ⟨w3.heap.size, 0, none⟩, w3.heap.size, 0, 3, rfl, by simp, hz3, row_ints (zs := [r1, r2, r3]) HR5.out 3, HG5.out, p5, by omega, by omega, HS5.out⟩

end Go.Proofs.Ytkcgjgdcmdjcfaa
