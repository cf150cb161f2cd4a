/- The text of a lasso; the walks of spec.FormatLasso and impl.FormatLasso. -/
import Derived.Test.YtiaejomdkkhimaaLvW
import Derived.Test.YtiaejomdkkhimaaDg
namespace Go.Proofs.Ytiaejomdkkhimaa
namespace La
open Go.RowKit

/-- The text of a lasso. -/
def fmtLa (s : St) : ByteArray := if laOk s then dig s.locs ++ ⟨#[40]⟩ ++ dig s.vals ++ ⟨#[41]⟩ else ⟨#[]⟩
theorem digOk_lets {zs : List Int} (h : letsOk zs = true) : digOk zs = true := by
  unfold letsOk at h
  unfold digOk
  rw [List.all_eq_true] at h ⊢
  intro z hz
  have := h z hz
  unfold letOk at this
  simp only [Bool.and_eq_true, decide_eq_true_eq] at this
  exact digIn_of (by omega) (by omega)

set_option maxHeartbeats 400000 in
set_option maxRecDepth 100000 in
theorem specLf_any (e : St) (C : Nat → Value) (w : World) (hL : Lay.sta.lies w w.heap.size e C) (hd : Lay.sta.sz e ≤ 1048576) :
    Calls Try.prog 22 #[.agg #[C 0, C 1]] w fun e' w' => e' = .returned (.string (fmtLa e)) ∧ Below w.heap.size w w' := by
  have HD := Lib.hid hd
  rw [sta_sz] at hd
  obtain ⟨W1, hW1⟩ : ∃ W1, W1 = w.alloc (.cells #[C 0, C 1] 27) := ⟨_, rfl⟩
  have hb0 : Below w.heap.size w W1 := by rw [hW1]; exact (Below.refl _ _).alloc (Nat.le_refl _) _
  have hra : Row W1 w.heap.size 27 #[C 0, C 1] := by rw [hW1]; exact Row.new _ _ _
  have HL1 := Lib.hid (Lay.sta.later hL hb0 hb0.size)
  obtain ⟨vb, hvb⟩ : ∃ vb, vb = laOk e := ⟨_, rfl⟩
  have HVb := Lib.hid hvb
  have HFn : Hid (laOk e = false → fmtLa e = ⟨#[]⟩) := fun h => by unfold fmtLa; rw [h]; rfl
  obtain ⟨c0, hc0⟩ : ∃ c, c = C 0 := ⟨_, rfl⟩
  obtain ⟨c1, hc1⟩ : ∃ c, c = C 1 := ⟨_, rfl⟩
  rw [← hc0, ← hc1] at hW1 hra ⊢
  have HW1 := Lib.hid hW1
  have HB0 := Lib.hid hb0
  have HRa := Lib.hid hra
  have HC0 := Lib.hid hc0
  have HC1 := Lib.hid hc1
  obtain ⟨g0, g1⟩ := hra.two
  clear hL hW1 hb0 hra hvb hc0 hc1
  go_enter Try.func22, Try.ntmps22
  go_wp2_with fail
  rw [← HW1.out]
  go_wp2_with fail
  rw [HC0.out, HC1.out]
  refine (specLv_any e C W1 HL1.out HD.out).mono ?_
  rintro e' w1 ⟨rfl, hb1⟩
  rw [← HVb.out]
  have HB1 : Hid (Below w.heap.size w w1) := HB0.out.trans (hb1.mono HB0.out.size)
  have hL1 := Lay.sta.later HL1.out hb1 hb1.size
  have hr1 := HRa.out.under hb1 HRa.out.lt
  rw [HC0.out, HC1.out] at hr1
  clear hb1 g0 g1 HW1 HRa HC0 HC1 c0 c1
  cases vb
  · go_wp2_with fail
    go_ret
    exact ⟨ret_str (HFn.out HVb.out.symm).symm, HB1.out⟩
  obtain ⟨locs, vals⟩ := e
  obtain ⟨⟨A2, cap2, b2, off2, E2, q2, hl2, hO2⟩, A3, cap3, b3, off3, E3, q3, hl3, hO3⟩ := sta_lies hL1
  rw [q2, q3] at hr1
  obtain ⟨p1, p2, p3, p4, p5⟩ := laOk_parts HVb.out.symm
  dsimp only at hd p1 p2 p3 p4 p5
  have HN : Hid (locs.length ≤ 1048576 ∧ vals.length ≤ 1048576 ∧ locs.length ≤ maxLen ∧ vals.length ≤ maxLen) := ⟨by omega, by omega, hl2, hl3⟩
  have HRa := Lib.hid hr1
  obtain ⟨g0, g1⟩ := hr1.two
  have H2 := Lib.hid (ints_of hO2)
  have H3 := Lib.hid (ints_of hO3)
  have HE : Hid (fmtLa ⟨locs, vals⟩ = digS locs ++ (⟨#[40]⟩ : ByteArray) ++ digS vals ++ (⟨#[41]⟩ : ByteArray)) := by
    show _ = _
    unfold fmtLa digS
    rw [← HVb.out, digOk_lets p1, digOk_lets p2]
    rfl
  have hs2 : (digS locs).size ≤ 1048576 := by
    unfold digS
    split
    · rw [dig_size]; omega
    · exact Nat.zero_le _
  have hs3 : (digS vals).size ≤ 1048576 := by
    unfold digS
    split
    · rw [dig_size]; omega
    · exact Nat.zero_le _
  obtain ⟨sl, hsl⟩ : ∃ s, s = digS locs := ⟨_, rfl⟩
  obtain ⟨sv, hsv⟩ : ∃ s, s = digS vals := ⟨_, rfl⟩
  rw [← hsl] at hs2
  rw [← hsv] at hs3
  have HSl := Lib.hid hsl
  have HSv := Lib.hid hsv
  obtain ⟨ol, hol⟩ : ∃ o, o = digOk locs := ⟨_, rfl⟩
  obtain ⟨ov, hov⟩ : ∃ o, o = digOk vals := ⟨_, rfl⟩
  have HOl := Lib.hid hol
  have HOv := Lib.hid hov
  clear hL1 hr1 q2 q3 hO2 hO3 hl2 hl3 hd p1 p2 p3 p4 p5 hsl hsv hol hov HD HFn
  go_wp2_with fail
  refine (specDig_any locs A2 cap2 b2 off2 w1 HN.out.2.2.1 H2.out).mono ?_
  rintro e' w2 ⟨rfl, hb2⟩
  rw [← HOl.out, ← HSl.out]
  have HB2 : Hid (Below w.heap.size w w2) := HB1.out.trans (hb2.mono HB1.out.size)
  clear g0 g1
  obtain ⟨g0, g1⟩ := (HRa.out.under hb2 HRa.out.lt).two
  have H3' := Lib.hid (H3.out.under hb2 hb2.size)
  clear hb2
  go_wp2_with fail
  refine (specDig_any vals A3 cap3 b3 off3 w2 HN.out.2.2.2 H3'.out).mono ?_
  rintro e' w3 ⟨rfl, hb3⟩
  rw [← HOv.out, ← HSv.out]
  have HB3 : Hid (Below w.heap.size w w3) := HB2.out.trans (hb3.mono HB2.out.size)
  clear hb3
  have hc : (⟨#[40]⟩ : ByteArray).size = 1 := rfl
  have hc' : (⟨#[41]⟩ : ByteArray).size = 1 := rfl
  have hs4 : (sl ++ (⟨#[40]⟩ : ByteArray)).size = sl.size + 1 := by simp [ByteArray.size_append]; rfl
  have hs5 : (sl ++ (⟨#[40]⟩ : ByteArray) ++ sv).size = sl.size + 1 + sv.size := by rw [ByteArray.size_append, hs4]
  go_wp2_with fail
  go_ret
  exact ⟨ret_str (by rw [HE.out, ← HSl.out, ← HSv.out]), HB3.out⟩

set_option maxHeartbeats 400000 in
set_option maxRecDepth 100000 in
theorem implLf_any (e : St) (C : Nat → Value) (w : World) (hL : Lay.sta.lies w w.heap.size e C) (hd : Lay.sta.sz e ≤ 1048576) :
    Calls Try.prog 23 #[.agg #[C 0, C 1]] w fun e' w' => e' = .returned (.string (fmtLa e)) ∧ Below w.heap.size w w' := by
  have HD := Lib.hid hd
  rw [sta_sz] at hd
  obtain ⟨W1, hW1⟩ : ∃ W1, W1 = w.alloc (.cells #[C 0, C 1] 27) := ⟨_, rfl⟩
  have hb0 : Below w.heap.size w W1 := by rw [hW1]; exact (Below.refl _ _).alloc (Nat.le_refl _) _
  have hra : Row W1 w.heap.size 27 #[C 0, C 1] := by rw [hW1]; exact Row.new _ _ _
  have HL1 := Lib.hid (Lay.sta.later hL hb0 hb0.size)
  obtain ⟨vb, hvb⟩ : ∃ vb, vb = laOk e := ⟨_, rfl⟩
  have HVb := Lib.hid hvb
  have HFn : Hid (laOk e = false → fmtLa e = ⟨#[]⟩) := fun h => by unfold fmtLa; rw [h]; rfl
  obtain ⟨c0, hc0⟩ : ∃ c, c = C 0 := ⟨_, rfl⟩
  obtain ⟨c1, hc1⟩ : ∃ c, c = C 1 := ⟨_, rfl⟩
  rw [← hc0, ← hc1] at hW1 hra ⊢
  have HW1 := Lib.hid hW1
  have HB0 := Lib.hid hb0
  have HRa := Lib.hid hra
  have HC0 := Lib.hid hc0
  have HC1 := Lib.hid hc1
  obtain ⟨g0, g1⟩ := hra.two
  clear hL hW1 hb0 hra hvb hc0 hc1
  go_enter Try.func23, Try.ntmps23
  go_wp2_with fail
  rw [← HW1.out]
  go_wp2_with fail
  rw [HC0.out, HC1.out]
  refine (implLv_any e C W1 HL1.out HD.out).mono ?_
  rintro e' w1 ⟨rfl, hb1⟩
  rw [← HVb.out]
  have HB1 : Hid (Below w.heap.size w w1) := HB0.out.trans (hb1.mono HB0.out.size)
  have hL1 := Lay.sta.later HL1.out hb1 hb1.size
  have hr1 := HRa.out.under hb1 HRa.out.lt
  rw [HC0.out, HC1.out] at hr1
  clear hb1 g0 g1 HW1 HRa HC0 HC1 c0 c1
  cases vb
  · go_wp2_with fail
    go_ret
    exact ⟨ret_str (HFn.out HVb.out.symm).symm, HB1.out⟩
  obtain ⟨locs, vals⟩ := e
  obtain ⟨⟨A2, cap2, b2, off2, E2, q2, hl2, hO2⟩, A3, cap3, b3, off3, E3, q3, hl3, hO3⟩ := sta_lies hL1
  rw [q2, q3] at hr1
  obtain ⟨p1, p2, p3, p4, p5⟩ := laOk_parts HVb.out.symm
  dsimp only at hd p1 p2 p3 p4 p5
  have HN : Hid (locs.length ≤ 1048576 ∧ vals.length ≤ 1048576 ∧ locs.length ≤ maxLen ∧ vals.length ≤ maxLen) := ⟨by omega, by omega, hl2, hl3⟩
  have HRa := Lib.hid hr1
  obtain ⟨g0, g1⟩ := hr1.two
  have H2 := Lib.hid (ints_of hO2)
  have H3 := Lib.hid (ints_of hO3)
  have HE : Hid (fmtLa ⟨locs, vals⟩ = digS locs ++ (⟨#[40]⟩ : ByteArray) ++ digS vals ++ (⟨#[41]⟩ : ByteArray)) := by
    show _ = _
    unfold fmtLa digS
    rw [← HVb.out, digOk_lets p1, digOk_lets p2]
    rfl
  have hs2 : (digS locs).size ≤ 1048576 := by
    unfold digS
    split
    · rw [dig_size]; omega
    · exact Nat.zero_le _
  have hs3 : (digS vals).size ≤ 1048576 := by
    unfold digS
    split
    · rw [dig_size]; omega
    · exact Nat.zero_le _
  obtain ⟨sl, hsl⟩ : ∃ s, s = digS locs := ⟨_, rfl⟩
  obtain ⟨sv, hsv⟩ : ∃ s, s = digS vals := ⟨_, rfl⟩
  rw [← hsl] at hs2
  rw [← hsv] at hs3
  have HSl := Lib.hid hsl
  have HSv := Lib.hid hsv
  obtain ⟨ol, hol⟩ : ∃ o, o = digOk locs := ⟨_, rfl⟩
  obtain ⟨ov, hov⟩ : ∃ o, o = digOk vals := ⟨_, rfl⟩
  have HOl := Lib.hid hol
  have HOv := Lib.hid hov
  clear hL1 hr1 q2 q3 hO2 hO3 hl2 hl3 hd p1 p2 p3 p4 p5 hsl hsv hol hov HD HFn
  go_wp2_with fail
  refine (implDig_any locs A2 cap2 b2 off2 w1 HN.out.1 H2.out).mono ?_
  rintro e' w2 ⟨rfl, hb2⟩
  rw [← HOl.out, ← HSl.out]
  have HB2 : Hid (Below w.heap.size w w2) := HB1.out.trans (hb2.mono HB1.out.size)
  clear g0 g1
  obtain ⟨g0, g1⟩ := (HRa.out.under hb2 HRa.out.lt).two
  have H3' := Lib.hid (H3.out.under hb2 hb2.size)
  clear hb2
  go_wp2_with fail
  refine (implDig_any vals A3 cap3 b3 off3 w2 HN.out.2.1 H3'.out).mono ?_
  rintro e' w3 ⟨rfl, hb3⟩
  rw [← HOv.out, ← HSv.out]
  have HB3 : Hid (Below w.heap.size w w3) := HB2.out.trans (hb3.mono HB2.out.size)
  clear hb3
  have hc : (⟨#[40]⟩ : ByteArray).size = 1 := rfl
  have hc' : (⟨#[41]⟩ : ByteArray).size = 1 := rfl
  have hs4 : (sl ++ (⟨#[40]⟩ : ByteArray)).size = sl.size + 1 := by simp [ByteArray.size_append]; rfl
  have hs5 : (sl ++ (⟨#[40]⟩ : ByteArray) ++ sv).size = sl.size + 1 + sv.size := by rw [ByteArray.size_append, hs4]
  go_wp2_with fail
  go_ret
  exact ⟨ret_str (by rw [HE.out, ← HSl.out, ← HSv.out]), HB3.out⟩

end La
end Go.Proofs.Ytiaejomdkkhimaa
