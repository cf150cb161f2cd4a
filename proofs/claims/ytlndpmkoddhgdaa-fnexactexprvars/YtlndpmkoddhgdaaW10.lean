/- The walks of spec.ExprNodes, impl.ExprNodes and the law laws.FnExactExprNodes. -/
import Derived.Test.YtlndpmkoddhgdaaW8
namespace Go.Proofs.Ytlndpmkoddhgdaa
open Go.RowKit

/-- The number of nodes, or 0. -/
def nodesOf (e : Ex) : Int := if valid e then (cnt 6 e : Int) else 0

theorem valid_shape {e : Ex} (h : true = valid e) : true = shape 6 e := by
  unfold valid at h
  cases hs : shape 6 e
  · rw [hs] at h; exact h
  · rfl

set_option maxHeartbeats 400000 in
theorem specNodes_any (e : Ex) (c0 c1 c2 : Value) (w : World) (hL : Lies w w.heap.size e c0 c1 c2) (hd : desc e ≤ 1048576) :
    Calls Try.prog 20 #[.agg #[c0, c1, c2]] w fun e' w' => e' = .returned (.int .i64 (nodesOf e)) ∧ Below w.heap.size w w' := by
  obtain ⟨n0, n1, a2, l2, cp2, rfl, rfl, rfl⟩ := hL.form
  have HL : Hid (Lies (w.alloc (.cells #[.int .i64 n0, .int .i64 n1, .slice a2 l2 cp2] 25)) (w.alloc (.cells #[.int .i64 n0, .int .i64 n1, .slice a2 l2 cp2] 25)).heap.size e (.int .i64 n0) (.int .i64 n1) (.slice a2 l2 cp2)) := (hL.alloc (Nat.le_refl _) _).more (by simp)
  clear hL
  obtain ⟨vb, hvb⟩ : ∃ vb, vb = valid e := ⟨_, rfl⟩
  have HV := Lib.hid hvb
  clear hvb
  cases vb
  · go_enter Try.func20, Try.ntmps20
    go_wp2_with fail
    refine (specValid_any e _ _ _ _ HL.out hd).mono ?_
    rintro e' w1 ⟨rfl, hb1⟩
    rw [← HV.out]
    have HB1 : Hid (Below w.heap.size w w1) := boxed (hb1.mono (by simp))
    clear hb1
    go_wp2_with fail
    go_ret
    exact ⟨ret_int (by unfold nodesOf; rw [← HV.out]; rfl), HB1.out⟩
  · go_enter Try.func20, Try.ntmps20
    go_wp2_with fail
    refine (specValid_any e _ _ _ _ HL.out hd).mono ?_
    rintro e' w1 ⟨rfl, hb1⟩
    rw [← HV.out]
    have HB1 : Hid (Below (w.heap.size + 1) (w.alloc (.cells #[.int .i64 n0, .int .i64 n1, .slice a2 l2 cp2] 25)) w1) := hb1.mono (by simp)
    have HL1 := Lib.hid (below_more HL.out hb1 hb1.size)
    clear hb1
    have g0 : w1.cell? ⟨w.heap.size, 0, none⟩ = some (.int .i64 n0) := by simpa using boxed_cell HB1.out 0
    have g1 : w1.cell? ⟨w.heap.size, 1, none⟩ = some (.int .i64 n1) := by simpa using boxed_cell HB1.out 1
    have g2 : w1.cell? ⟨w.heap.size, 2, none⟩ = some (.slice a2 l2 cp2) := by simpa using boxed_cell HB1.out 2
    go_wp2_with fail
    refine (count_any e 6 _ _ _ _ HL1.out hd (by omega) (by omega)).mono ?_
    rintro e' w2 ⟨rfl, hb2⟩
    rw [show (6 : Int).toNat = 6 from rfl]
    have HB2 : Hid (Below w.heap.size w w2) := (boxed HB1.out).trans (hb2.mono (boxed HB1.out).size)
    clear hb2
    go_wp2_with fail
    go_ret
    exact ⟨ret_int (by unfold nodesOf; rw [← HV.out]; rfl), HB2.out⟩

set_option maxHeartbeats 400000 in
theorem implNodes_any (e : Ex) (c0 c1 c2 : Value) (w : World) (hL : Lies w w.heap.size e c0 c1 c2) (hd : desc e ≤ 1048576) :
    Calls Try.prog 19 #[.agg #[c0, c1, c2]] w fun e' w' => e' = .returned (.int .i64 (nodesOf e)) ∧ Below w.heap.size w w' := by
  obtain ⟨n0, n1, a2, l2, cp2, rfl, rfl, rfl⟩ := hL.form
  have HL : Hid (Lies (w.alloc (.cells #[.int .i64 n0, .int .i64 n1, .slice a2 l2 cp2] 25)) (w.alloc (.cells #[.int .i64 n0, .int .i64 n1, .slice a2 l2 cp2] 25)).heap.size e (.int .i64 n0) (.int .i64 n1) (.slice a2 l2 cp2)) := (hL.alloc (Nat.le_refl _) _).more (by simp)
  clear hL
  obtain ⟨vb, hvb⟩ : ∃ vb, vb = valid e := ⟨_, rfl⟩
  have HV := Lib.hid hvb
  clear hvb
  cases vb
  · go_enter Try.func19, Try.ntmps19
    go_wp2_with fail
    refine (implValid_any e _ _ _ _ HL.out hd).mono ?_
    rintro e' w1 ⟨rfl, hb1⟩
    rw [← HV.out]
    have HB1 : Hid (Below w.heap.size w w1) := boxed (hb1.mono (by simp))
    clear hb1
    go_wp2_with fail
    go_ret
    exact ⟨ret_int (by unfold nodesOf; rw [← HV.out]; rfl), HB1.out⟩
  · go_enter Try.func19, Try.ntmps19
    go_wp2_with fail
    refine (implValid_any e _ _ _ _ HL.out hd).mono ?_
    rintro e' w1 ⟨rfl, hb1⟩
    rw [← HV.out]
    have HB1 : Hid (Below (w.heap.size + 1) (w.alloc (.cells #[.int .i64 n0, .int .i64 n1, .slice a2 l2 cp2] 25)) w1) := hb1.mono (by simp)
    have HL1 := Lib.hid (below_more HL.out hb1 hb1.size)
    clear hb1
    have g0 : w1.cell? ⟨w.heap.size, 0, none⟩ = some (.int .i64 n0) := by simpa using boxed_cell HB1.out 0
    have g1 : w1.cell? ⟨w.heap.size, 1, none⟩ = some (.int .i64 n1) := by simpa using boxed_cell HB1.out 1
    have g2 : w1.cell? ⟨w.heap.size, 2, none⟩ = some (.slice a2 l2 cp2) := by simpa using boxed_cell HB1.out 2
    go_wp2_with fail
    refine (cn_any e 6 _ _ _ _ HL1.out hd (by omega) (by omega)).mono ?_
    rintro e' w2 ⟨rfl, hb2⟩
    rw [show (6 : Int).toNat = 6 from rfl, cnOut_true (valid_shape HV.out).symm]
    have HB2 : Hid (Below w.heap.size w w2) := (boxed HB1.out).trans (hb2.mono (boxed HB1.out).size)
    clear hb2
    go_wp2_with fail
    go_ret
    exact ⟨ret_int (by unfold nodesOf; rw [← HV.out]; rfl), HB2.out⟩

set_option maxHeartbeats 400000 in
theorem lawNodes_any (e : Ex) (c0 c1 c2 : Value) (w : World) (hL : Lies w w.heap.size e c0 c1 c2) :
    Calls Try.prog 9 #[.agg #[c0, c1, c2]] w fun e' w' => e' = .returned (.bool true) ∧ Below w.heap.size w w' := by
  obtain ⟨n0, n1, a2, l2, cp2, rfl, rfl, rfl⟩ := hL.form
  obtain ⟨W1, hW1⟩ : ∃ W1, W1 = w.alloc (.cells #[.int .i64 n0, .int .i64 n1, .slice a2 l2 cp2] 40) := ⟨_, rfl⟩
  have HL : Hid (Lies W1 W1.heap.size e (.int .i64 n0) (.int .i64 n1) (.slice a2 l2 cp2)) := by rw [hW1]; exact (hL.alloc (Nat.le_refl _) _).more (by simp)
  have HS1 : Hid (W1.heap.size = w.heap.size + 1) := by rw [hW1]; show _ = _; simp
  have HW1 := Lib.hid hW1
  have HB0 : Hid (Below w.heap.size w W1) := by rw [hW1]; exact (Below.refl _ _).alloc (Nat.le_refl _) _
  have HR0 : Hid (Row W1 w.heap.size 40 #[.int .i64 n0, .int .i64 n1, .slice a2 l2 cp2]) := by rw [hW1]; exact Row.new _ _ _
  clear hL hW1
  obtain ⟨r, hr⟩ : ∃ r, r = room 1048576 (desc e) := ⟨_, rfl⟩
  have HR := Lib.hid hr
  by_cases hbig : 1048576 < desc e
  · have hneg : r < 0 := by rw [hr]; unfold room; rw [if_pos (by omega)]; omega
    clear hr
    go_enter Try.func9, Try.ntmps9
    go_wp2_with fail
    rw [← HW1.out]
    refine (sz_any e 1048576 _ _ _ _ HL.out (by omega) (by omega)).mono ?_
    rintro e' w1 ⟨rfl, hb1⟩
    rw [← HR.out]
    have HB1 := Lib.hid (HB0.out.trans (hb1.mono HB0.out.size))
    clear hb1
    go_wp2_with fail
    go_ret
    exact ⟨rfl, HB1.out⟩
  · have hpos : 0 ≤ r := by rw [hr]; unfold room; rw [if_neg (by omega)]; omega
    clear hr
    have hd : desc e ≤ 1048576 := by omega
    obtain ⟨vb, hvb⟩ : ∃ vb, vb = nodesOf e := ⟨_, rfl⟩
    have HV := Lib.hid hvb
    clear hvb hbig
    go_enter Try.func9, Try.ntmps9
    go_wp2_with fail
    rw [← HW1.out]
    refine (sz_any e 1048576 _ _ _ _ HL.out (by omega) (by omega)).mono ?_
    rintro e' w1 ⟨rfl, hb1⟩
    rw [← HR.out]
    have HB1 : Hid (Below W1.heap.size W1 w1) := hb1
    clear hb1
    have hr1 := HR0.out.under HB1.out (by rw [HS1.out]; omega)
    have g0 : w1.cell? ⟨w.heap.size, 0, none⟩ = some (.int .i64 n0) := by rw [hr1.cell]; rfl
    have g1 : w1.cell? ⟨w.heap.size, 1, none⟩ = some (.int .i64 n1) := by rw [hr1.cell]; rfl
    have g2 : w1.cell? ⟨w.heap.size, 2, none⟩ = some (.slice a2 l2 cp2) := by rw [hr1.cell]; rfl
    clear hr1
    go_wp2_with fail
    -- the first copy, and the model's answer
    refine (to_any e _ _ _ _ (below_more HL.out HB1.out HB1.out.size) hd).mono ?_
    rintro e' w2 ⟨d0, d1, d2, rfl, ho2, hb2⟩
    have HB2 : Hid (Below W1.heap.size W1 w2) := HB1.out.trans (hb2.mono HB1.out.size)
    have HO2 := Lib.hid ho2
    clear hb2 ho2 g0 g1 g2 HB1
    go_wp2_with fail
    refine (specNodes_any e _ _ _ _ HO2.out.lies hd).mono ?_
    rintro e' w3 ⟨rfl, hb3⟩
    rw [← HV.out]
    have HB3 : Hid (Below W1.heap.size W1 w3) := HB2.out.trans (hb3.mono HB2.out.size)
    clear hb3 HB2 HO2
    have hr1 := HR0.out.under HB3.out (by rw [HS1.out]; omega)
    have g0 : w3.cell? ⟨w.heap.size, 0, none⟩ = some (.int .i64 n0) := by rw [hr1.cell]; rfl
    have g1 : w3.cell? ⟨w.heap.size, 1, none⟩ = some (.int .i64 n1) := by rw [hr1.cell]; rfl
    have g2 : w3.cell? ⟨w.heap.size, 2, none⟩ = some (.slice a2 l2 cp2) := by rw [hr1.cell]; rfl
    clear hr1
    go_wp2_with fail
    -- the second copy, and the program's answer
    refine (to_any e _ _ _ _ (below_more HL.out HB3.out HB3.out.size) hd).mono ?_
    rintro e' w4 ⟨m0, m1, m2, rfl, ho4, hb4⟩
    obtain ⟨k0, k1, a4, l4, cp4, rfl, rfl, rfl⟩ := ho4.form
    have HB4 : Hid (Below W1.heap.size W1 w4) := HB3.out.trans (hb4.mono HB3.out.size)
    have HO4 := Lib.hid ho4
    clear hb4 ho4 g0 g1 g2 HB3
    obtain ⟨W5, hW5⟩ : ∃ W5, W5 = w4.alloc (.cells #[.int .i64 k0, .int .i64 k1, .slice a4 l4 cp4] 25) := ⟨_, rfl⟩
    have HW5 := Lib.hid hW5
    have HS5 : Hid (W5.heap.size = w4.heap.size + 1) := by rw [hW5]; show _ = _; simp
    have HR5 : Hid (Row W5 w4.heap.size 25 #[.int .i64 k0, .int .i64 k1, .slice a4 l4 cp4]) := by rw [hW5]; exact Row.new _ _ _
    have hb5 : Below w4.heap.size w4 W5 := by rw [hW5]; exact (Below.refl _ _).alloc (Nat.le_refl _) _
    have HB5 : Hid (Below W1.heap.size W1 W5) := HB4.out.trans (hb5.mono HB4.out.size)
    have HL5 : Hid (Lies W5 W5.heap.size e (.int .i64 k0) (.int .i64 k1) (.slice a4 l4 cp4)) := below_more HO4.out.lies hb5 hb5.size
    have H45 : Hid (W1.heap.size ≤ w4.heap.size) := HB4.out.size
    clear hW5 hb5
    go_wp2_with fail
    rw [← HW5.out]
    refine (implNodes_any e _ _ _ _ HL5.out hd).mono ?_
    rintro e' w6 ⟨rfl, hb6⟩
    rw [← HV.out]
    have HB6 : Hid (Below W5.heap.size W5 w6.drew) := hb6.drew
    clear hb6
    have hr5 := HR5.out.under HB6.out (by rw [HS5.out]; omega)
    have hr1 := (HR0.out.under HB5.out (by rw [HS1.out]; omega)).under HB6.out (by have := H45.out; have := HS1.out; have := HS5.out; omega)
    have g0 : w6.cell? ⟨w.heap.size, 0, none⟩ = some (.int .i64 n0) := by have := hr1.cell 0; exact this
    have g1 : w6.cell? ⟨w.heap.size, 1, none⟩ = some (.int .i64 n1) := by have := hr1.cell 1; exact this
    have g2 : w6.cell? ⟨w.heap.size, 2, none⟩ = some (.slice a2 l2 cp2) := by have := hr1.cell 2; exact this
    have f0 : w6.cell? ⟨w4.heap.size, 0, none⟩ = some (.int .i64 k0) := by have := hr5.cell 0; exact this
    have f1 : w6.cell? ⟨w4.heap.size, 1, none⟩ = some (.int .i64 k1) := by have := hr5.cell 1; exact this
    have f2 : w6.cell? ⟨w4.heap.size, 2, none⟩ = some (.slice a4 l4 cp4) := by have := hr5.cell 2; exact this
    have HR5' := Lib.hid hr5
    have HL6 : Hid (Lies w6.drew w6.drew.heap.size e (.int .i64 n0) (.int .i64 n1) (.slice a2 l2 cp2)) := below_more HL.out (HB5.out.trans (HB6.out.mono HB5.out.size)) (Nat.le_trans HB5.out.size HB6.out.size)
    have HX6 : Hid (Lies w6.drew w6.drew.heap.size e (.int .i64 k0) (.int .i64 k1) (.slice a4 l4 cp4)) := below_more HL5.out HB6.out HB6.out.size
    have HW6 : Hid (Below w.heap.size w w6.drew) := HB0.out.trans ((HB5.out.trans (HB6.out.mono HB5.out.size)).mono HB0.out.size)
    clear hr1 hr5 HB6 HB5 HL5 HR5 HO4 HB4
    go_wp2_with fail
    go_region_with (first
      | (go_at_call 24
         refine (to_any e _ _ _ _ HL6.out hd).mono ?_
         rintro e' w7 ⟨p0, p1, p2, rfl, ho7, hb7⟩
         have hr7 := HR5'.out.under hb7 HR5'.out.lt
         have f0' : w7.cell? ⟨w4.heap.size, 0, none⟩ = some (.int .i64 k0) := hr7.cell 0
         have f1' : w7.cell? ⟨w4.heap.size, 1, none⟩ = some (.int .i64 k1) := hr7.cell 1
         have f2' : w7.cell? ⟨w4.heap.size, 2, none⟩ = some (.slice a4 l4 cp4) := hr7.cell 2
         have HX7 := Lib.hid (below_more HX6.out hb7 hb7.size)
         have HY7 := Lib.hid ho7.lies
         have HW7 : Hid (Below w.heap.size w w7) := HW6.out.trans (hb7.mono HW6.out.size)
         clear hb7 ho7 hr7)
      | (go_at_call 26
         refine (eq_any e _ _ _ _ _ _ _ HX7.out HY7.out).mono ?_
         rintro e' w8 ⟨rfl, hb8⟩
         have HW8 : Hid (Below w.heap.size w w8) := HW7.out.trans (hb8.mono HW7.out.size)
         clear hb8))
    all_goals
      (go_wp2_with fail
       go_ret
       exact ⟨rfl, HW8.out⟩)

end Go.Proofs.Ytlndpmkoddhgdaa
