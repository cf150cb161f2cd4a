/- The walks of spec.LassoSame and impl.LassoSame. -/
import Derived.Test.YtogfpgkdofhoaaaLaT
import Derived.Test.YtogfpgkdofhoaaaIsV
namespace Go.Proofs.Ytogfpgkdofhoaaa
namespace La
open Go.RowKit

set_option maxHeartbeats 400000 in
theorem specStS_any (e : St) (C : Nat → Value) (f : St) (D : Nat → Value) (w : World) (hL : Lay.sta.lies w w.heap.size e C) (hM : Lay.sta.lies w w.heap.size f D) (_ : Lay.sta.sz e ≤ 1048576) (_ : Lay.sta.sz f ≤ 1048576) :
    Calls Try.prog 25 #[.agg #[C 0, C 1], .agg #[D 0, D 1]] w fun e' w' => e' = .returned (.bool (stSame e f)) ∧ Below w.heap.size w w' := by
  obtain ⟨W1, hW1⟩ : ∃ W1, W1 = (w.alloc (.cells #[C 0, C 1] 26)).alloc (.cells #[D 0, D 1] 26) := ⟨_, rfl⟩
  have hrows := two_boxes w 26 #[C 0, C 1] #[D 0, D 1]
  rw [← hW1] at hrows
  obtain ⟨hra, hrb, hb0⟩ := hrows
  obtain ⟨locs, vals⟩ := e
  obtain ⟨locs', vals'⟩ := f
  obtain ⟨⟨A2, cap2, b2, off2, E2, q2, hl2, hO2⟩, A3, cap3, b3, off3, E3, q3, hl3, hO3⟩ := sta_lies (Lay.sta.later hL hb0 hb0.size)
  obtain ⟨⟨A4, cap4, b4, off4, E4, q4, hl4, hO4⟩, A5, cap5, b5, off5, E5, q5, hl5, hO5⟩ := sta_lies (Lay.sta.later hM hb0 hb0.size)
  rw [q2, q3] at hra
  rw [q4, q5] at hrb
  rw [q2, q3, q4, q5] at hW1 ⊢
  have HW1 := Lib.hid hW1
  have HB0 := Lib.hid hb0
  have HRa := Lib.hid hra
  have HRb := Lib.hid hrb
  have H2 := Lib.hid (ints_of hO2)
  have H3 := Lib.hid (ints_of hO3)
  have H4 := Lib.hid (ints_of hO4)
  have H5 := Lib.hid (ints_of hO5)
  have HN : Hid (locs.length ≤ maxLen ∧ vals.length ≤ maxLen ∧ locs'.length ≤ maxLen ∧ vals'.length ≤ maxLen) := ⟨hl2, hl3, hl4, hl5⟩
  have HF : Hid (stSame ⟨locs, vals⟩ ⟨locs', vals'⟩ = (intsSame locs locs' && intsSame vals vals')) := rfl
  obtain ⟨u, hu⟩ : ∃ u, u = intsSame locs locs' := ⟨_, rfl⟩
  obtain ⟨v, hv⟩ : ∃ v, v = intsSame vals vals' := ⟨_, rfl⟩
  have HU := Lib.hid hu
  have HV := Lib.hid hv
  clear hL hM hW1 hb0 hra hrb q2 q3 q4 q5 hO2 hO3 hO4 hO5 hl2 hl3 hl4 hl5 hu hv
  go_enter Try.func25, Try.ntmps25
  go_wp2_with fail
  rw [← HW1.out]
  refine (l2Ints_any locs locs' A2 A4 cap2 b2 off2 cap4 b4 off4 W1 HN.out.1 HN.out.2.2.1 H2.out H4.out).mono ?_
  rintro e' w1 ⟨rfl, hb1⟩
  rw [← HU.out]
  have HB1 : Hid (Below w.heap.size w w1) := HB0.out.trans (hb1.mono HB0.out.size)
  obtain ⟨g0, g1⟩ := (HRa.out.under hb1 HRa.out.lt).two
  obtain ⟨f0, f1⟩ := (HRb.out.under hb1 HRb.out.lt).two
  have H3' := Lib.hid (H3.out.under hb1 hb1.size)
  have H5' := Lib.hid (H5.out.under hb1 hb1.size)
  clear hb1
  cases u
  · go_wp2_with fail
    go_ret
    exact ⟨ret_bool (by rw [HF.out, ← HU.out]; rfl), HB1.out⟩
  go_wp2_with fail
  refine (l2Ints_any vals vals' A3 A5 cap3 b3 off3 cap5 b5 off5 w1 HN.out.2.1 HN.out.2.2.2 H3'.out H5'.out).mono ?_
  rintro e' w2 ⟨rfl, hb2⟩
  rw [← HV.out]
  have HB2 : Hid (Below w.heap.size w w2) := HB1.out.trans (hb2.mono HB1.out.size)
  clear hb2
  go_wp2_with fail
  go_ret
  exact ⟨ret_bool (by rw [HF.out, ← HU.out, ← HV.out]; rfl), HB2.out⟩

set_option maxHeartbeats 400000 in
theorem implStS_any (e : St) (C : Nat → Value) (f : St) (D : Nat → Value) (w : World) (hL : Lay.sta.lies w w.heap.size e C) (hM : Lay.sta.lies w w.heap.size f D) (_ : Lay.sta.sz e ≤ 1048576) (_ : Lay.sta.sz f ≤ 1048576) :
    Calls Try.prog 26 #[.agg #[C 0, C 1], .agg #[D 0, D 1]] w fun e' w' => e' = .returned (.bool (stSame e f)) ∧ Below w.heap.size w w' := by
  obtain ⟨W1, hW1⟩ : ∃ W1, W1 = (w.alloc (.cells #[C 0, C 1] 26)).alloc (.cells #[D 0, D 1] 26) := ⟨_, rfl⟩
  have hrows := two_boxes w 26 #[C 0, C 1] #[D 0, D 1]
  rw [← hW1] at hrows
  obtain ⟨hra, hrb, hb0⟩ := hrows
  obtain ⟨locs, vals⟩ := e
  obtain ⟨locs', vals'⟩ := f
  obtain ⟨⟨A2, cap2, b2, off2, E2, q2, hl2, hO2⟩, A3, cap3, b3, off3, E3, q3, hl3, hO3⟩ := sta_lies (Lay.sta.later hL hb0 hb0.size)
  obtain ⟨⟨A4, cap4, b4, off4, E4, q4, hl4, hO4⟩, A5, cap5, b5, off5, E5, q5, hl5, hO5⟩ := sta_lies (Lay.sta.later hM hb0 hb0.size)
  rw [q2, q3] at hra
  rw [q4, q5] at hrb
  rw [q2, q3, q4, q5] at hW1 ⊢
  have HW1 := Lib.hid hW1
  have HB0 := Lib.hid hb0
  have HRa := Lib.hid hra
  have HRb := Lib.hid hrb
  have H2 := Lib.hid (ints_of hO2)
  have H3 := Lib.hid (ints_of hO3)
  have H4 := Lib.hid (ints_of hO4)
  have H5 := Lib.hid (ints_of hO5)
  have HN : Hid (locs.length ≤ maxLen ∧ vals.length ≤ maxLen ∧ locs'.length ≤ maxLen ∧ vals'.length ≤ maxLen) := ⟨hl2, hl3, hl4, hl5⟩
  have HF : Hid (stSame ⟨locs, vals⟩ ⟨locs', vals'⟩ = (intsSame locs locs' && intsSame vals vals')) := rfl
  obtain ⟨u, hu⟩ : ∃ u, u = intsSame locs locs' := ⟨_, rfl⟩
  obtain ⟨v, hv⟩ : ∃ v, v = intsSame vals vals' := ⟨_, rfl⟩
  have HU := Lib.hid hu
  have HV := Lib.hid hv
  clear hL hM hW1 hb0 hra hrb q2 q3 q4 q5 hO2 hO3 hO4 hO5 hl2 hl3 hl4 hl5 hu hv
  go_enter Try.func26, Try.ntmps26
  go_wp2_with fail
  rw [← HW1.out]
  refine (equalInts_any locs locs' A2 A4 cap2 b2 off2 cap4 b4 off4 W1 HN.out.1 HN.out.2.2.1 H2.out H4.out).mono ?_
  rintro e' w1 ⟨rfl, hb1⟩
  rw [← HU.out]
  have HB1 : Hid (Below w.heap.size w w1) := HB0.out.trans (hb1.mono HB0.out.size)
  obtain ⟨g0, g1⟩ := (HRa.out.under hb1 HRa.out.lt).two
  obtain ⟨f0, f1⟩ := (HRb.out.under hb1 HRb.out.lt).two
  have H3' := Lib.hid (H3.out.under hb1 hb1.size)
  have H5' := Lib.hid (H5.out.under hb1 hb1.size)
  clear hb1
  cases u
  · go_wp2_with fail
    go_ret
    exact ⟨ret_bool (by rw [HF.out, ← HU.out]; rfl), HB1.out⟩
  go_wp2_with fail
  refine (equalInts_any vals vals' A3 A5 cap3 b3 off3 cap5 b5 off5 w1 HN.out.2.1 HN.out.2.2.2 H3'.out H5'.out).mono ?_
  rintro e' w2 ⟨rfl, hb2⟩
  rw [← HV.out]
  have HB2 : Hid (Below w.heap.size w w2) := HB1.out.trans (hb2.mono HB1.out.size)
  clear hb2
  go_wp2_with fail
  go_ret
  exact ⟨ret_bool (by rw [HF.out, ← HU.out, ← HV.out]; rfl), HB2.out⟩

end La
end Go.Proofs.Ytogfpgkdofhoaaa
