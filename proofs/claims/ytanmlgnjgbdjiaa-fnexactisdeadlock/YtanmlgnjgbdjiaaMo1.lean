/- The walk of (impl.moment).ready. -/
import Derived.Test.YtanmlgnjgbdjiaaSp1
import Derived.Test.YtanmlgnjgbdjiaaE7
namespace Go.Proofs.Ytanmlgnjgbdjiaa
open Go.RowKit

theorem stOk_vals {e : Sy} {f : St} (h : stOk e f = true) : valsOk f.vals = true := (stOk_sy h).2.2

set_option maxHeartbeats 2000000 in
set_option maxRecDepth 100000 in
theorem readyI_any (e : Sy) (C : Nat → Value) (f : St) (D : Nat → Value) (w : World) (hH : Have e C f D w) (M : Value) (i : Nat) (hi : i < e.ps.length) (d : Ed) (n0 n1 : Int) (a2 : Option Addr) (l2 cp2 : Nat) (hg : Lies w w.heap.size d.g (.int .i64 n0) (.int .i64 n1) (.slice a2 l2 cp2)) (hvd : valid d.g = true) (hds : desc d.g ≤ 1048576) (x1 x5 x6 x7 x8 x9 : Value) :
    Calls Try.prog 107 #[.agg #[C 0, C 1, D 0, D 1, M], .int .i64 i, .agg #[.int .i64 d.fr, x1, .int .i64 n0, .int .i64 n1, .slice a2 l2 cp2, x5, x6, x7, x8, x9]] w fun e' w' => e' = .returned (.bool (rdyB f i d)) ∧ Below w.heap.size w w' := by
  have h3 : e.ps.length ≤ 3 := syOk_le (stOk_sy hH.ok).1
  have hvo := stOk_vals hH.ok
  obtain ⟨cap, b, off, A4, cap4, b4, off4, r0, hb, hc, r1, hV, hl⟩ := hH.state hi
  have HR : Hid (rdyB f i d = (decide (d.fr = f.locs.getD i 0) && decide (ev f.vals 6 d.g ≠ 0))) := rfl
  obtain ⟨z, hz⟩ : ∃ z, z = f.locs.getD i 0 := ⟨_, rfl⟩
  obtain ⟨v, hv⟩ : ∃ v, v = ev f.vals 6 d.g := ⟨_, rfl⟩
  obtain ⟨fr, t0, gd, vr, vl, sy⟩ := d
  dsimp only at HR hg hvd hds hv
  dsimp only
  rw [← hz] at hc HR
  rw [← hv] at HR
  obtain ⟨c0, hc0⟩ : ∃ c0, c0 = C 0 := ⟨_, rfl⟩
  obtain ⟨c1, hc1⟩ : ∃ c1, c1 = C 1 := ⟨_, rfl⟩
  rw [r0, r1, ← hc0, ← hc1]
  obtain ⟨W1, hW1⟩ : ∃ W1, W1 = (w.alloc (.cells #[c0, c1, .slice (some ⟨b, off, none⟩) e.ps.length cap, .slice A4 3 cap4, M] 99)).alloc (.cells #[.int .i64 fr, x1, .int .i64 n0, .int .i64 n1, .slice a2 l2 cp2, x5, x6, x7, x8, x9] 74) := ⟨_, rfl⟩
  obtain ⟨ra, rb, hb0⟩ := rows2 w 99 74 #[c0, c1, .slice (some ⟨b, off, none⟩) e.ps.length cap, .slice A4 3 cap4, M] #[.int .i64 fr, x1, .int .i64 n0, .int .i64 n1, .slice a2 l2 cp2, x5, x6, x7, x8, x9]
  rw [← hW1] at ra rb hb0
  have HCl : Hid (Calls Try.prog 79 #[.agg #[.int .i64 n0, .int .i64 n1, .slice a2 l2 cp2], .slice A4 3 cap4] W1 fun e' w' => e' = .returned (.tuple #[.int .i64 v, .bool true]) ∧ Below W1.heap.size W1 w') := by
    have h0 := implEval_any gd f.vals _ _ _ A4 b4 off4 cap4 W1 (below_more hg hb0 hb0.size) hds (by rw [hl]; decide) (hV.ints.under hb0 hb0.size)
    have hk : evalOk gd f.vals = true := by unfold evalOk; rw [hvd, hvo]; rfl
    rw [show evalOut gd f.vals = v by unfold evalOut; rw [hk, hv]; rfl, hk, hl] at h0
    exact h0
  have HSk : Hid (∀ W, Below W1.heap.size W1 W → W.cell? ⟨w.heap.size + 1, 0, none⟩ = some (.int .i64 fr) ∧ W.cell? ⟨w.heap.size, 2, none⟩ = some (.slice (some ⟨b, off, none⟩) e.ps.length cap) ∧ W.cell? ⟨b, off + i, none⟩ = some (.int .i64 z)) := fun W hW => by
    refine ⟨(rb.under hW rb.lt).cell 0, (ra.under hW ra.lt).cell 2, ?_⟩
    rw [Below.cell (p := ⟨b, off + i, none⟩) hW (Nat.lt_of_lt_of_le hb hb0.size), Below.cell (p := ⟨b, off + i, none⟩) hb0 hb]
    exact hc
  have p2 : W1.cell? ⟨w.heap.size + 1, 2, none⟩ = some (.int .i64 n0) := rb.cell 2
  have p3 : W1.cell? ⟨w.heap.size + 1, 3, none⟩ = some (.int .i64 n1) := rb.cell 3
  have p4 : W1.cell? ⟨w.heap.size + 1, 4, none⟩ = some (.slice a2 l2 cp2) := rb.cell 4
  have p5 : W1.cell? ⟨w.heap.size, 3, none⟩ = some (.slice A4 3 cap4) := ra.cell 3
  have HB1 := Lib.hid hb0
  have HW1 := Lib.hid hW1
  clear hH hg hV hz hv hc hb0 ra rb hW1 r0 r1 hc0 hc1 hb hvd hvo hds
  go_enter Try.func107, Try.ntmps107
  go_upto_region 1 with fail
  rw [← HW1.out]
  go_wp2_with fail
  refine HCl.out.mono ?_
  rintro e' w2 ⟨rfl, hb2⟩
  have HB2 : Hid (Below w.heap.size w w2) := HB1.out.trans (hb2.mono HB1.out.size)
  obtain ⟨k0, k1, k2⟩ := HSk.out w2 hb2
  clear hb2 p2 p3 p4 p5 HSk HCl
  by_cases heq : z = fr
  · subst heq
    by_cases hv0 : v = 0
    all_goals
      (go_wp2_with fail
       go_quiet (fail)
       go_wp2_with fail
       go_ret
       refine ⟨?_, below_drewN HB2.out _⟩
       rw [HR.out]
       simp [go_sem, hv0])
  · have t1 : (z == fr) = false := by rw [beq_eq_false_iff_ne]; exact heq
    go_wp2_with fail
    go_quiet (fail)
    go_wp2_with fail
    go_ret
    refine ⟨?_, below_drewN HB2.out _⟩
    rw [HR.out]
    simp [go_sem, show ¬ fr = z from fun h => heq h.symm]

end Go.Proofs.Ytanmlgnjgbdjiaa
