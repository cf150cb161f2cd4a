/- Joined texts: E7, Mo1. Nothing is assumed. -/
import Derived.Test.YtefpdkfogfhniaaE6Q
import Derived.Test.YtefpdkfogfhniaaSp1Q
namespace Go.Proofs.Ytefpdkfogfhniaa
open Go.RowKit

set_option maxHeartbeats 400000 in
set_option maxRecDepth 100000 in
theorem ret_two {k : IntKind} {a b : Int} {c d : Bool} (h : a = b) (h2 : c = d) : Ending.returned (.tuple #[.int k a, .bool c]) = .returned (.tuple #[.int k b, .bool d]) := by rw [h, h2]
set_option maxHeartbeats 400000 in
set_option maxRecDepth 100000 in
theorem implEval_any (e : Ex) (zs : List Int) (c0 c1 c2 : Value) (A : Option Addr) (b off cap : Nat) (w : World) (hL : Lies w w.heap.size e c0 c1 c2) (hd : desc e ≤ 1048576) (hl : zs.length ≤ maxLen) (hI : Ints w w.heap.size A b off zs) :
    Calls Try.prog 73 #[.agg #[c0, c1, c2], .slice A zs.length cap] w fun e' w' => e' = .returned (.tuple #[.int .i64 (evalOut e zs), .bool (evalOk e zs)]) ∧ Below w.heap.size w w' := by
  obtain ⟨n0, n1, a2, l2, cp2, rfl, rfl, rfl⟩ := hL.form
  obtain ⟨W1, hW1⟩ : ∃ W1, W1 = w.alloc (.cells #[.int .i64 n0, .int .i64 n1, .slice a2 l2 cp2] 91) := ⟨_, rfl⟩
  have hb0 : Below w.heap.size w W1 := by rw [hW1]; exact (Below.refl _ _).alloc (Nat.le_refl _) _
  have HR : Hid (Row W1 w.heap.size 91 #[.int .i64 n0, .int .i64 n1, .slice a2 l2 cp2]) := by rw [hW1]; exact Row.new _ _ _
  have HW1 := Lib.hid hW1
  have HL := Lib.hid (below_more hL hb0 hb0.size)
  have HI := Lib.hid (hI.under hb0 hb0.size)
  have HB0 := Lib.hid hb0
  have HLn := Lib.hid hl
  clear hL hW1 hb0 hI hl
  obtain ⟨vb, hvb⟩ : ∃ vb, vb = valid e := ⟨_, rfl⟩
  have HV := Lib.hid hvb
  obtain ⟨zb, hzb⟩ : ∃ zb, zb = valsOk zs := ⟨_, rfl⟩
  have HZ := Lib.hid hzb
  clear hvb hzb
  cases vb
  · have HN : Hid (evalOk e zs = false) := by show _ = _; unfold evalOk; rw [← HV.out]; rfl
    go_enter Try.func73, Try.ntmps73
    go_wp2_with fail
    rw [← HW1.out]
    refine (implValid_any e _ _ _ _ HL.out hd).mono ?_
    rintro e' w1 ⟨rfl, hb1⟩
    rw [← HV.out]
    have HB1 := Lib.hid (HB0.out.trans (hb1.mono HB0.out.size))
    clear hb1
    go_wp2_with fail
    go_ret2
    exact ⟨ret_two (by unfold evalOut; rw [HN.out]; rfl) HN.out.symm, HB1.out⟩
  · go_enter Try.func73, Try.ntmps73
    go_wp2_with fail
    rw [← HW1.out]
    refine (implValid_any e _ _ _ _ HL.out hd).mono ?_
    rintro e' w1 ⟨rfl, hb1⟩
    rw [← HV.out]
    have hr1 := HR.out.under hb1 HR.out.lt
    have q0 : w1.cell? ⟨w.heap.size, 0, none⟩ = some _ := hr1.cell 0
    have q1 : w1.cell? ⟨w.heap.size, 1, none⟩ = some _ := hr1.cell 1
    have q2 : w1.cell? ⟨w.heap.size, 2, none⟩ = some _ := hr1.cell 2
    have HL1 := Lib.hid (below_more HL.out hb1 hb1.size)
    have HI1 := Lib.hid (HI.out.under hb1 hb1.size)
    have HB1 := Lib.hid (HB0.out.trans (hb1.mono HB0.out.size))
    clear hb1 hr1
    go_wp2_with fail
    refine (implVals_any zs A cap b off _ HLn.out HI1.out).mono ?_
    rintro e' w2 ⟨rfl, rfl⟩
    rw [← HZ.out]
    cases zb
    · have HN : Hid (evalOk e zs = false) := by show _ = _; unfold evalOk; rw [← HZ.out]; simp
      go_wp2_with fail
      go_ret2
      exact ⟨ret_two (by unfold evalOut; rw [HN.out]; rfl) HN.out.symm, HB1.out⟩
    · have HN : Hid (evalOk e zs = true) := by show _ = _; unfold evalOk; rw [← HZ.out, ← HV.out]; rfl
      have HVs := Lib.hid (vals_of HZ.out HI1.out)
      go_wp2_with fail
      refine (fold_any zs HVs.out.range 6 e _ _ _ _ (shape_of_valid HV.out) HL1.out).mono ?_
      rintro e' w3 ⟨nv, rfl, hn, hb3⟩
      obtain ⟨T, x, f, rfl, hm, hc, he⟩ := hn
      have HM := Lib.hid hm
      have HC := Lib.hid hc
      have HE := Lib.hid he
      have HB3 := Lib.hid (HB1.out.trans (hb3.mono HB1.out.size))
      have HV3 := Lib.hid (HVs.out.under hb3)
      clear hb3 hm hc he
      go_wp2_with fail
      rw [upon_method _ HM.out]
      rotate_left
      · kernel_rfl
      go_wp2_with fail
      rw [HC.out]
      go_wp2_with fail
      rw [HVs.out.len]
      refine (Ev.call HE.out A b off cap _ HV3.out).mono ?_
      rintro e' w4 ⟨rfl, hb4⟩
      have HB4 := Lib.hid (HB3.out.trans (hb4.mono HB3.out.size))
      clear hb4
      go_wp2_with fail
      go_ret2
      exact ⟨ret_two (by unfold evalOut; rw [HN.out]; rfl) HN.out.symm, HB4.out⟩

end Go.Proofs.Ytefpdkfogfhniaa
namespace Go.Proofs.Ytefpdkfogfhniaa
open Go.RowKit

theorem stOk_vals {e : Sy} {f : St} (h : stOk e f = true) : valsOk f.vals = true := (stOk_sy h).2.2

set_option maxHeartbeats 2000000 in
set_option maxRecDepth 100000 in
theorem readyI_any (e : Sy) (C : Nat → Value) (f : St) (D : Nat → Value) (w : World) (hH : Have e C f D w) (M : Value) (i : Nat) (hi : i < e.ps.length) (d : Ed) (n0 n1 : Int) (a2 : Option Addr) (l2 cp2 : Nat) (hg : Lies w w.heap.size d.g (.int .i64 n0) (.int .i64 n1) (.slice a2 l2 cp2)) (hvd : valid d.g = true) (hds : desc d.g ≤ 1048576) (x1 x5 x6 x7 x8 x9 : Value) :
    Calls Try.prog 63 #[.agg #[C 0, C 1, D 0, D 1, M], .int .i64 i, .agg #[.int .i64 d.fr, x1, .int .i64 n0, .int .i64 n1, .slice a2 l2 cp2, x5, x6, x7, x8, x9]] w fun e' w' => e' = .returned (.bool (rdyB f i d)) ∧ Below w.heap.size w w' := by
  have h3 : e.ps.length ≤ 3 := syOk_le (stOk_sy hH.ok).1
  have hvo := stOk_vals hH.ok
  obtain ⟨cap, b, off, A4, cap4, b4, off4, r0, hb, hc, r1, hV, hl⟩ := hH.state hi
  have HR : Hid (rdyB f i d = (decide (d.fr = f.locs.getD i 0) && decide (ev f.vals 6 d.g ≠ 0))) := rfl
  obtain ⟨z, hz⟩ : ∃ z, z = f.locs.getD i 0 := ⟨_, rfl⟩
  obtain ⟨v, hv⟩ : ∃ v, v = ev f.vals 6 d.g := ⟨_, rfl⟩
  obtain ⟨fr, t0, gd, vr, vl, sy⟩ := d
  dsimp only at HR hg hvd hds hv
  dsimp only
  rw [← hz] at hc HR
  rw [← hv] at HR
  obtain ⟨c0, hc0⟩ : ∃ c0, c0 = C 0 := ⟨_, rfl⟩
  obtain ⟨c1, hc1⟩ : ∃ c1, c1 = C 1 := ⟨_, rfl⟩
  rw [r0, r1, ← hc0, ← hc1]
  obtain ⟨W1, hW1⟩ : ∃ W1, W1 = (w.alloc (.cells #[c0, c1, .slice (some ⟨b, off, none⟩) e.ps.length cap, .slice A4 3 cap4, M] 74)).alloc (.cells #[.int .i64 fr, x1, .int .i64 n0, .int .i64 n1, .slice a2 l2 cp2, x5, x6, x7, x8, x9] 93) := ⟨_, rfl⟩
  obtain ⟨ra, rb, hb0⟩ := rows2 w 74 93 #[c0, c1, .slice (some ⟨b, off, none⟩) e.ps.length cap, .slice A4 3 cap4, M] #[.int .i64 fr, x1, .int .i64 n0, .int .i64 n1, .slice a2 l2 cp2, x5, x6, x7, x8, x9]
  rw [← hW1] at ra rb hb0
  have HCl : Hid (Calls Try.prog 73 #[.agg #[.int .i64 n0, .int .i64 n1, .slice a2 l2 cp2], .slice A4 3 cap4] W1 fun e' w' => e' = .returned (.tuple #[.int .i64 v, .bool true]) ∧ Below W1.heap.size W1 w') := by
    have h0 := implEval_any gd f.vals _ _ _ A4 b4 off4 cap4 W1 (below_more hg hb0 hb0.size) hds (by rw [hl]; decide) (hV.ints.under hb0 hb0.size)
    have hk : evalOk gd f.vals = true := by unfold evalOk; rw [hvd, hvo]; rfl
    rw [show evalOut gd f.vals = v by unfold evalOut; rw [hk, hv]; rfl, hk, hl] at h0
    exact h0
  have HSk : Hid (∀ W, Below W1.heap.size W1 W → W.cell? ⟨w.heap.size + 1, 0, none⟩ = some (.int .i64 fr) ∧ W.cell? ⟨w.heap.size, 2, none⟩ = some (.slice (some ⟨b, off, none⟩) e.ps.length cap) ∧ W.cell? ⟨b, off + i, none⟩ = some (.int .i64 z)) := fun W hW => by
    refine ⟨(rb.under hW rb.lt).cell 0, (ra.under hW ra.lt).cell 2, ?_⟩
    rw [Below.cell (p := ⟨b, off + i, none⟩) hW (Nat.lt_of_lt_of_le hb hb0.size), Below.cell (p := ⟨b, off + i, none⟩) hb0 hb]
    exact hc
  have p2 : W1.cell? ⟨w.heap.size + 1, 2, none⟩ = some (.int .i64 n0) := rb.cell 2
  have p3 : W1.cell? ⟨w.heap.size + 1, 3, none⟩ = some (.int .i64 n1) := rb.cell 3
  have p4 : W1.cell? ⟨w.heap.size + 1, 4, none⟩ = some (.slice a2 l2 cp2) := rb.cell 4
  have p5 : W1.cell? ⟨w.heap.size, 3, none⟩ = some (.slice A4 3 cap4) := ra.cell 3
  have HB1 := Lib.hid hb0
  have HW1 := Lib.hid hW1
  clear hH hg hV hz hv hc hb0 ra rb hW1 r0 r1 hc0 hc1 hb hvd hvo hds
  go_enter Try.func63, Try.ntmps63
  go_upto_region 1 with fail
  rw [← HW1.out]
  go_wp2_with fail
  refine HCl.out.mono ?_
  rintro e' w2 ⟨rfl, hb2⟩
  have HB2 : Hid (Below w.heap.size w w2) := HB1.out.trans (hb2.mono HB1.out.size)
  obtain ⟨k0, k1, k2⟩ := HSk.out w2 hb2
  clear hb2 p2 p3 p4 p5 HSk HCl
  by_cases heq : z = fr
  · subst heq
    by_cases hv0 : v = 0
    all_goals
      (go_wp2_with fail
       go_quiet (fail)
       go_wp2_with fail
       go_ret
       refine ⟨?_, below_drewN HB2.out _⟩
       rw [HR.out]
       simp [go_sem, hv0])
  · have t1 : (z == fr) = false := by rw [beq_eq_false_iff_ne]; exact heq
    go_wp2_with fail
    go_quiet (fail)
    go_wp2_with fail
    go_ret
    refine ⟨?_, below_drewN HB2.out _⟩
    rw [HR.out]
    simp [go_sem, show ¬ fr = z from fun h => heq h.symm]

end Go.Proofs.Ytefpdkfogfhniaa
