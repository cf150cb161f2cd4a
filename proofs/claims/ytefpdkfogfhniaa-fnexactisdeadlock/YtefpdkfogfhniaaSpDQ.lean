/- The walk of spec.IsDeadlock. -/
import Derived.Test.YtefpdkfogfhniaaSp3Q
namespace Go.Proofs.Ytefpdkfogfhniaa
open Go.RowKit

/-- A state is a deadlock. -/
def deadB (e : Sy) (f : St) : Bool := stOk e f && decide ((steps e f).length = 0)

set_option maxHeartbeats 1000000 in
set_option maxRecDepth 100000 in
theorem deadS_any (e : Sy) (C : Nat → Value) (f : St) (D : Nat → Value) (w : World) (hL : Lay.sy.lies w w.heap.size e C) (hM : Lay.sta.lies w w.heap.size f D) (hd : Lay.sy.sz e ≤ 1048576) (hd2 : Lay.sta.sz f ≤ 1048576) :
    Calls Try.prog 23 #[.agg #[C 0, C 1], .agg #[D 0, D 1]] w fun e' w' => e' = .returned (.bool (deadB e f)) ∧ Below w.heap.size w w' := by
  obtain ⟨W1, hW1⟩ : ∃ W1, W1 = ((w.alloc (.cells #[C 0, C 1] 33)).alloc (.cells #[D 0, D 1] 28)) := ⟨_, rfl⟩
  obtain ⟨r1, r2, r3⟩ := rows2 w 33 28 #[C 0, C 1] #[D 0, D 1]
  rw [← hW1] at r1 r2 r3
  have HV : Hid (Calls Try.prog 35 #[.agg #[C 0, C 1], .agg #[D 0, D 1]] W1 fun e' w' => e' = .returned (.bool (stOk e f)) ∧ Below W1.heap.size W1 w') := specStV_any e C f D W1 (Lay.sy.later hL r3 r3.size) (Lay.sta.later hM r3 r3.size) hd hd2
  have HD : Hid (deadB e f = (stOk e f && decide ((steps e f).length = 0))) := rfl
  have HSt : Hid (stOk e f = true → ∀ w2, Below W1.heap.size W1 w2 → Calls Try.prog 46 #[.agg #[C 0, C 1], .agg #[D 0, D 1]] w2 (StpsPost (steps e f) w2)) := fun hok w2 hb =>
    stepsS_any e C f D w2 ⟨Lay.sy.later hL (r3.trans (hb.mono r3.size)) (Nat.le_trans r3.size hb.size), Lay.sta.later hM (r3.trans (hb.mono r3.size)) (Nat.le_trans r3.size hb.size), hok⟩
  obtain ⟨c0, hc0⟩ : ∃ c0, c0 = C 0 := ⟨_, rfl⟩
  obtain ⟨c1, hc1⟩ : ∃ c1, c1 = C 1 := ⟨_, rfl⟩
  obtain ⟨u0, hu0⟩ : ∃ u0, u0 = D 0 := ⟨_, rfl⟩
  obtain ⟨u1, hu1⟩ : ∃ u1, u1 = D 1 := ⟨_, rfl⟩
  rw [← hc0, ← hc1, ← hu0, ← hu1] at HV hW1 ⊢
  rw [← hc0, ← hc1] at r1
  rw [← hu0, ← hu1] at r2
  rw [← hc0, ← hc1, ← hu0, ← hu1] at HSt
  obtain ⟨o, ho⟩ : ∃ o, o = stOk e f := ⟨_, rfl⟩
  rw [← ho] at HD HV HSt
  have HR1 := Lib.hid r1
  have HR2 := Lib.hid r2
  have HB1 := Lib.hid r3
  have HW1 := Lib.hid hW1
  obtain ⟨s0, s1⟩ := r1.two
  obtain ⟨t0, t1⟩ := r2.two
  clear hL hM hc0 hc1 hu0 hu1 r1 r2 r3 hW1 ho
  go_enter Try.func23, Try.ntmps23
  go_upto_region 1 with fail
  rw [← HW1.out]
  go_wp2_with fail
  refine HV.out.mono ?_
  rintro e' w2 ⟨rfl, hb2⟩
  have HB2 : Hid (Below w.heap.size w w2) := HB1.out.trans (hb2.mono HB1.out.size)
  obtain ⟨s0, s1⟩ := (HR1.out.under hb2 HR1.out.lt).two
  obtain ⟨t0, t1⟩ := (HR2.out.under hb2 HR2.out.lt).two
  have HBw := Lib.hid hb2
  clear hb2
  cases o
  · go_wp2_with fail
    go_ret
    exact ⟨ret_bool (by rw [HD.out]; rfl), HB2.out⟩
  · have HSt2 := Lib.hid (HSt.out rfl w2 HBw.out)
    clear HSt
    go_wp2_with fail
    refine HSt2.out.mono ?_
    rintro e' w3 ⟨g, cap, rfl, _, hb3⟩
    have HB3 : Hid (Below w.heap.size w w3) := HB2.out.trans (hb3.mono HB2.out.size)
    obtain ⟨m, hm⟩ : ∃ m, m = (steps e f).length := ⟨_, rfl⟩
    rw [← hm] at HD ⊢
    clear hb3 hm
    go_wp2_with fail
    go_ret
    refine ⟨?_, HB3.out⟩
    rw [HD.out]
    by_cases h0 : m = 0
    · simp [go_sem, h0]
    · have h1 : ((m : Int) == 0) = false := by rw [beq_eq_false_iff_ne]; omega
      simp [go_sem, h0, h1]

end Go.Proofs.Ytefpdkfogfhniaa
