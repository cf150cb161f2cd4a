/- impl.AutomatonSame. -/
import Derived.Test.YtiikphdgnhajeaaAsT
namespace Go.Proofs.Ytiikphdgnhajeaa
open Go.RowKit

set_option maxHeartbeats 1000000 in
theorem implAs_any (e : Au) (C : Nat → Value) (f : Au) (D : Nat → Value) (w : World) (hL : Lay.au.lies w w.heap.size e C) (hM : Lay.au.lies w w.heap.size f D) (_ : Lay.au.sz e ≤ 1048576) (_ : Lay.au.sz f ≤ 1048576) :
    Calls Try.prog 12 #[.agg #[C 0, C 1, C 2], .agg #[D 0, D 1, D 2]] w fun e' w' => e' = .returned (.bool (auSame e f)) ∧ Below w.heap.size w w' := by
  obtain ⟨ini, acc, es⟩ := e
  obtain ⟨ini', acc', es'⟩ := f
  obtain ⟨W1, hW1⟩ : ∃ W1, W1 = (w.alloc (.cells #[C 0, C 1, C 2] 31)).alloc (.cells #[D 0, D 1, D 2] 31) := ⟨_, rfl⟩
  have hrows := two_boxes w 31 #[C 0, C 1, C 2] #[D 0, D 1, D 2]
  rw [← hW1] at hrows
  obtain ⟨hra, hrb, hb0⟩ := hrows
  obtain ⟨⟨A, cap, b, off, p0, hl, hO⟩, ⟨A2, cap2, b2, off2, p1, hl2, hO2⟩, ⟨A3, cap3, b3, off3, D3, p2, hl3, hO3⟩⟩ := au_lies (Lay.au.later hL hb0 hb0.size)
  obtain ⟨⟨A', cap', b', off', q0, hl', hO'⟩, ⟨A2', cap2', b2', off2', q1, hl2', hO2'⟩, ⟨A3', cap3', b3', off3', D3', q2, hl3', hO3'⟩⟩ := au_lies (Lay.au.later hM hb0 hb0.size)
  rw [p0, p1, p2] at hra
  rw [q0, q1, q2] at hrb
  rw [p0, p1, p2, q0, q1, q2] at hW1 ⊢
  have HW1 := Lib.hid hW1
  have HB0 := Lib.hid hb0
  have HRa := Lib.hid hra
  have HRb := Lib.hid hrb
  have H1 := Lib.hid hO
  have H1' := Lib.hid hO'
  have H2 := Lib.hid hO2
  have H2' := Lib.hid hO2'
  have H3 := Lib.hid (trs_of hO3)
  have H3' := Lib.hid (trs_of hO3')
  have HN : Hid (ini.length ≤ maxLen ∧ ini'.length ≤ maxLen ∧ acc.length ≤ maxLen ∧ acc'.length ≤ maxLen ∧ es.length ≤ maxLen ∧ es'.length ≤ maxLen) := ⟨hl, hl', hl2, hl2', hl3, hl3'⟩
  have HF : Hid (auSame ⟨ini, acc, es⟩ ⟨ini', acc', es'⟩ = (intsSame ini ini' && (lstSame acc acc' && lstSame es es'))) := rfl
  obtain ⟨u, hu⟩ : ∃ u, u = intsSame ini ini' := ⟨_, rfl⟩
  have HU := Lib.hid hu
  have hlt0 : w.heap.size < W1.heap.size := hra.lt
  have hlt1 : w.heap.size + 1 < W1.heap.size := hrb.lt
  unfold maxLen at hl hl' hl2 hl2' hl3 hl3'
  clear p0 p1 p2 q0 q1 q2 hL hM hW1 hb0 hra hrb hO hO2 hO3 hO' hO2' hO3' hu
  obtain ⟨v, hv⟩ : ∃ v, v = lstSame acc acc' := ⟨_, rfl⟩
  obtain ⟨t, ht⟩ : ∃ t, t = lstSame es es' := ⟨_, rfl⟩
  have HV := Lib.hid hv
  have HT := Lib.hid ht
  clear hv ht
  go_enter Try.func12, Try.ntmps12
  go_wp2_with fail
  rw [← HW1.out]
  refine (equalInts_any ini ini' A A' cap b off cap' b' off' W1 HN.out.1 HN.out.2.1 H1.out H1'.out).mono ?_
  rintro e' w1 ⟨rfl, hb1⟩
  rw [← HU.out]
  have HB1 : Hid (Below W1.heap.size W1 w1) := hb1
  clear hb1
  cases u
  · go_wp2_with fail
    go_ret
    exact ⟨ret_bool (by rw [HF.out, ← HU.out]; rfl), HB0.out.trans (HB1.out.mono HB0.out.size)⟩
  obtain ⟨g0, g1, g2⟩ := (HRa.out.under HB1.out HRa.out.lt).three
  obtain ⟨f0, f1, f2⟩ := (HRb.out.under HB1.out HRb.out.lt).three
  have HX := Lib.hid (H2.out.under HB1.out HB1.out.size)
  have HX' := Lib.hid (H2'.out.under HB1.out HB1.out.size)
  go_wp2_with fail
  refine (equalBools_any acc acc' A2 A2' cap2 b2 off2 cap2' b2' off2' w1 HN.out.2.2.1 HN.out.2.2.2.1 HX.out HX'.out).mono ?_
  rintro e' w2 ⟨rfl, hb2⟩
  rw [← HV.out]
  have HB2 : Hid (Below W1.heap.size W1 w2) := HB1.out.trans (hb2.mono HB1.out.size)
  clear hb2 g0 g1 g2 f0 f1 f2 HX HX' HB1
  cases v
  · go_wp2_with fail
    go_ret
    exact ⟨ret_bool (by rw [HF.out, ← HU.out, ← HV.out]; rfl), HB0.out.trans (HB2.out.mono HB0.out.size)⟩
  obtain ⟨g0, g1, g2⟩ := (HRa.out.under HB2.out HRa.out.lt).three
  obtain ⟨f0, f1, f2⟩ := (HRb.out.under HB2.out HRb.out.lt).three
  have HX := Lib.hid (H3.out.under HB2.out HB2.out.size)
  have HX' := Lib.hid (H3'.out.under HB2.out HB2.out.size)
  go_wp2_with fail
  refine (equalTrs_any es es' A3 A3' cap3 b3 off3 cap3' b3' off3' w2 HN.out.2.2.2.2.1 HN.out.2.2.2.2.2 HX.out HX'.out).mono ?_
  rintro e' w3 ⟨rfl, hb3⟩
  rw [← HT.out]
  have HB3 : Hid (Below W1.heap.size W1 w3) := HB2.out.trans (hb3.mono HB2.out.size)
  clear hb3
  go_wp2_with fail
  go_ret
  exact ⟨ret_bool (by rw [HF.out, ← HU.out, ← HV.out, ← HT.out]; rfl), HB0.out.trans (HB3.out.mono HB0.out.size)⟩

end Go.Proofs.Ytiikphdgnhajeaa
