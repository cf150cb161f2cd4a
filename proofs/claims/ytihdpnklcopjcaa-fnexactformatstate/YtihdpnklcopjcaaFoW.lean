/- The walks of spec.FormatState and impl.FormatState themselves. -/
import Derived.Test.YtihdpnklcopjcaaFoV
namespace Go.Proofs.Ytihdpnklcopjcaa
open Go.RowKit

set_option maxHeartbeats 400000 in
set_option maxRecDepth 100000 in
theorem specFo_any (e : St) (C : Nat → Value) (w : World) (hL : Lay.sta.lies w w.heap.size e C) (hd : Lay.sta.sz e ≤ 1048576) :
    Calls Try.prog 36 #[.agg #[C 0, C 1]] w fun e' w' => e' = .returned (.string (fmtSt e)) ∧ Below w.heap.size w w' := by
  rw [sta_sz] at hd
  obtain ⟨W1, hW1⟩ : ∃ W1, W1 = w.alloc (.cells #[C 0, C 1] 28) := ⟨_, rfl⟩
  have hb0 : Below w.heap.size w W1 := by rw [hW1]; exact (Below.refl _ _).alloc (Nat.le_refl _) _
  have hra : Row W1 w.heap.size 28 #[C 0, C 1] := by rw [hW1]; exact Row.new _ _ _
  obtain ⟨locs, vals⟩ := e
  obtain ⟨⟨A2, cap2, b2, off2, E2, q2, hl2, hO2⟩, A3, cap3, b3, off3, E3, q3, hl3, hO3⟩ := sta_lies (Lay.sta.later hL hb0 hb0.size)
  dsimp only at hd
  have HN : Hid (locs.length ≤ maxLen ∧ vals.length ≤ maxLen) := ⟨hl2, hl3⟩
  rw [q2, q3] at hra hW1 ⊢
  have HW1 := Lib.hid hW1
  have HB0 := Lib.hid hb0
  have HRa := Lib.hid hra
  have H2 := Lib.hid (ints_of hO2)
  have H3 := Lib.hid (ints_of hO3)
  have HF : Hid (fmtSt ⟨locs, vals⟩ = if digOk locs && digOk vals then dig locs ++ ⟨#[47]⟩ ++ dig vals else ⟨#[]⟩) := rfl
  obtain ⟨ol, hol⟩ : ∃ o, o = digOk locs := ⟨_, rfl⟩
  obtain ⟨ov, hov⟩ : ∃ o, o = digOk vals := ⟨_, rfl⟩
  obtain ⟨sl, hsl⟩ : ∃ s, s = digS locs := ⟨_, rfl⟩
  obtain ⟨sv, hsv⟩ : ∃ s, s = digS vals := ⟨_, rfl⟩
  have hszl : sl.size ≤ 1048576 := by
    rw [hsl]; unfold digS
    split
    · rw [dig_size]; omega
    · exact Nat.zero_le _
  have hszv : sv.size ≤ 1048576 := by
    rw [hsv]; unfold digS
    split
    · rw [dig_size]; omega
    · exact Nat.zero_le _
  have HOl := Lib.hid hol
  have HOv := Lib.hid hov
  have HSl := Lib.hid hsl
  have HSv := Lib.hid hsv
  clear hL hW1 hb0 hra q2 q3 hO2 hO3 hl2 hl3 hd hol hov hsl hsv
  go_enter Try.func36, Try.ntmps36
  go_wp2_with fail
  rw [← HW1.out]
  refine (specDig_any locs A2 cap2 b2 off2 W1 HN.out.1 H2.out).mono ?_
  rintro e' w1 ⟨rfl, hb1⟩
  rw [← HOl.out, ← HSl.out]
  have HB1 : Hid (Below w.heap.size w w1) := HB0.out.trans (hb1.mono HB0.out.size)
  obtain ⟨g0, g1⟩ := (HRa.out.under hb1 HRa.out.lt).two
  have H3' := Lib.hid (H3.out.under hb1 hb1.size)
  clear hb1
  go_wp2_with fail
  refine (specDig_any vals A3 cap3 b3 off3 w1 HN.out.2 H3'.out).mono ?_
  rintro e' w2 ⟨rfl, hb2⟩
  rw [← HOv.out, ← HSv.out]
  have HB2 : Hid (Below w.heap.size w w2) := HB1.out.trans (hb2.mono HB1.out.size)
  clear hb2
  have hs1 : (sl ++ (⟨#[47]⟩ : ByteArray)).size = sl.size + 1 := by simp [ByteArray.size_append]; rfl
  obtain ⟨M, hM⟩ : ∃ M, M = sl ++ (⟨#[47]⟩ : ByteArray) := ⟨_, rfl⟩
  rw [← hM] at hs1
  have HM := Lib.hid hM
  cases ol
  · go_wp2_with fail
    go_ret
    exact ⟨ret_str (by rw [HF.out, ← HOl.out]; rfl), HB2.out⟩
  cases ov
  · go_wp2_with fail
    go_ret
    exact ⟨ret_str (by rw [HF.out, ← HOl.out, ← HOv.out]; rfl), HB2.out⟩
  have hc : (⟨#[47]⟩ : ByteArray).size = 1 := rfl
  have HE : Hid (fmtSt ⟨locs, vals⟩ = sl ++ (⟨#[47]⟩ : ByteArray) ++ sv) := by
    show _ = _
    rw [HF.out, ← HOl.out, ← HOv.out, HSl.out, HSv.out]
    unfold digS
    rw [← HOl.out, ← HOv.out]
    rfl
  have hs1' : (sl ++ (⟨#[47]⟩ : ByteArray)).size = sl.size + 1 := by rw [← hM]; exact hs1
  clear hM hs1
  go_wp2_with fail
  go_ret
  exact ⟨ret_str HE.out.symm, HB2.out⟩

set_option maxHeartbeats 400000 in
set_option maxRecDepth 100000 in
theorem implFo_any (e : St) (C : Nat → Value) (w : World) (hL : Lay.sta.lies w w.heap.size e C) (hd : Lay.sta.sz e ≤ 1048576) :
    Calls Try.prog 37 #[.agg #[C 0, C 1]] w fun e' w' => e' = .returned (.string (fmtSt e)) ∧ Below w.heap.size w w' := by
  rw [sta_sz] at hd
  obtain ⟨W1, hW1⟩ : ∃ W1, W1 = w.alloc (.cells #[C 0, C 1] 28) := ⟨_, rfl⟩
  have hb0 : Below w.heap.size w W1 := by rw [hW1]; exact (Below.refl _ _).alloc (Nat.le_refl _) _
  have hra : Row W1 w.heap.size 28 #[C 0, C 1] := by rw [hW1]; exact Row.new _ _ _
  obtain ⟨locs, vals⟩ := e
  obtain ⟨⟨A2, cap2, b2, off2, E2, q2, hl2, hO2⟩, A3, cap3, b3, off3, E3, q3, hl3, hO3⟩ := sta_lies (Lay.sta.later hL hb0 hb0.size)
  dsimp only at hd
  have HN : Hid (locs.length ≤ 1048576 ∧ vals.length ≤ 1048576) := ⟨by omega, by omega⟩
  rw [q2, q3] at hra hW1 ⊢
  have HW1 := Lib.hid hW1
  have HB0 := Lib.hid hb0
  have HRa := Lib.hid hra
  have H2 := Lib.hid (ints_of hO2)
  have H3 := Lib.hid (ints_of hO3)
  have HF : Hid (fmtSt ⟨locs, vals⟩ = if digOk locs && digOk vals then dig locs ++ ⟨#[47]⟩ ++ dig vals else ⟨#[]⟩) := rfl
  obtain ⟨ol, hol⟩ : ∃ o, o = digOk locs := ⟨_, rfl⟩
  obtain ⟨ov, hov⟩ : ∃ o, o = digOk vals := ⟨_, rfl⟩
  obtain ⟨sl, hsl⟩ : ∃ s, s = digS locs := ⟨_, rfl⟩
  obtain ⟨sv, hsv⟩ : ∃ s, s = digS vals := ⟨_, rfl⟩
  have hszl : sl.size ≤ 1048576 := by
    rw [hsl]; unfold digS
    split
    · rw [dig_size]; omega
    · exact Nat.zero_le _
  have hszv : sv.size ≤ 1048576 := by
    rw [hsv]; unfold digS
    split
    · rw [dig_size]; omega
    · exact Nat.zero_le _
  have HOl := Lib.hid hol
  have HOv := Lib.hid hov
  have HSl := Lib.hid hsl
  have HSv := Lib.hid hsv
  clear hL hW1 hb0 hra q2 q3 hO2 hO3 hl2 hl3 hd hol hov hsl hsv
  go_enter Try.func37, Try.ntmps37
  go_wp2_with fail
  rw [← HW1.out]
  refine (implDig_any locs A2 cap2 b2 off2 W1 HN.out.1 H2.out).mono ?_
  rintro e' w1 ⟨rfl, hb1⟩
  rw [← HOl.out, ← HSl.out]
  have HB1 : Hid (Below w.heap.size w w1) := HB0.out.trans (hb1.mono HB0.out.size)
  obtain ⟨g0, g1⟩ := (HRa.out.under hb1 HRa.out.lt).two
  have H3' := Lib.hid (H3.out.under hb1 hb1.size)
  clear hb1
  go_wp2_with fail
  refine (implDig_any vals A3 cap3 b3 off3 w1 HN.out.2 H3'.out).mono ?_
  rintro e' w2 ⟨rfl, hb2⟩
  rw [← HOv.out, ← HSv.out]
  have HB2 : Hid (Below w.heap.size w w2) := HB1.out.trans (hb2.mono HB1.out.size)
  clear hb2
  have hs1 : (sl ++ (⟨#[47]⟩ : ByteArray)).size = sl.size + 1 := by simp [ByteArray.size_append]; rfl
  obtain ⟨M, hM⟩ : ∃ M, M = sl ++ (⟨#[47]⟩ : ByteArray) := ⟨_, rfl⟩
  rw [← hM] at hs1
  have HM := Lib.hid hM
  cases ol
  · go_wp2_with fail
    go_ret
    exact ⟨ret_str (by rw [HF.out, ← HOl.out]; rfl), HB2.out⟩
  cases ov
  · go_wp2_with fail
    go_ret
    exact ⟨ret_str (by rw [HF.out, ← HOl.out, ← HOv.out]; rfl), HB2.out⟩
  have hc : (⟨#[47]⟩ : ByteArray).size = 1 := rfl
  have HE : Hid (fmtSt ⟨locs, vals⟩ = sl ++ (⟨#[47]⟩ : ByteArray) ++ sv) := by
    show _ = _
    rw [HF.out, ← HOl.out, ← HOv.out, HSl.out, HSv.out]
    unfold digS
    rw [← HOl.out, ← HOv.out]
    rfl
  have hs1' : (sl ++ (⟨#[47]⟩ : ByteArray)).size = sl.size + 1 := by rw [← hM]; exact hs1
  clear hM hs1
  go_wp2_with fail
  go_ret
  exact ⟨ret_str HE.out.symm, HB2.out⟩

end Go.Proofs.Ytihdpnklcopjcaa
