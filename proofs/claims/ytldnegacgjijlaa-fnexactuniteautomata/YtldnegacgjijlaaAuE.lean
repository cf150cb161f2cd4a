/- The walk of laws.eqAutomaton. -/
import Derived.Test.YtldnegacgjijlaaBoS
import Derived.Test.YtldnegacgjijlaaTrT
namespace Go.Proofs.Ytldnegacgjijlaa
open Go.RowKit

set_option maxHeartbeats 400000 in
theorem eqAu_any (s : Au) (C D : Nat → Value) (w : World) (hL : Lay.au.lies w w.heap.size s C) (hL' : Lay.au.lies w w.heap.size s D) :
    Calls Try.prog 24 #[.agg #[C 0, C 1, C 2], .agg #[D 0, D 1, D 2]] w fun e' w' => e' = .returned (.bool true) ∧ Below w.heap.size w w' := by
  obtain ⟨ini, acc, es⟩ := s
  obtain ⟨⟨A, cap, b, off, e0, hl, hO⟩, ⟨A2, cap2, b2, off2, e1, hl2, hO2⟩, ⟨A3, cap3, b3, off3, D3, e2, hl3, hO3⟩⟩ := au_lies hL
  obtain ⟨⟨A', cap', b', off', d0, _, hP⟩, ⟨A2', cap2', b2', off2', d1, _, hP2⟩, ⟨A3', cap3', b3', off3', D3', d2, _, hP3⟩⟩ := au_lies hL'
  rw [e0, e1, e2, d0, d1, d2]
  clear e0 e1 e2 d0 d1 d2 hL hL'
  obtain ⟨W1, hW1⟩ : ∃ W1, W1 = (w.alloc (.cells #[.slice A ini.length cap, .slice A2 acc.length cap2, .slice A3 es.length cap3] 51)).alloc (.cells #[.slice A' ini.length cap', .slice A2' acc.length cap2', .slice A3' es.length cap3'] 51) := ⟨_, rfl⟩
  have hrows := two_boxes w 51 #[.slice A ini.length cap, .slice A2 acc.length cap2, .slice A3 es.length cap3] #[.slice A' ini.length cap', .slice A2' acc.length cap2', .slice A3' es.length cap3']
  rw [← hW1] at hrows
  obtain ⟨ra, rb, hb0⟩ := hrows
  have HRa := Lib.hid ra
  have HRb := Lib.hid rb
  have HO := Lib.hid (hO.under hb0 hb0.size)
  have HP := Lib.hid (hP.under hb0 hb0.size)
  have HO2 := Lib.hid (hO2.under hb0 hb0.size)
  have HP2 := Lib.hid (hP2.under hb0 hb0.size)
  have HO3 := Lib.hid (hO3.grow hb0 hb0.size)
  have HP3 := Lib.hid (hP3.grow hb0 hb0.size)
  have HB0 := Lib.hid hb0
  have HW1 := Lib.hid hW1
  have HLn := Lib.hid hl
  have HLm := Lib.hid hl2
  have HLk := Lib.hid hl3
  clear hO hP hO2 hP2 hO3 hP3 hb0 hW1 hl hl2 hl3 ra rb
  go_enter Try.func24, Try.ntmps24
  go_wp2_with fail
  rw [← HW1.out]
  refine (eqInts_any ini A A' cap b off cap' b' off' _ HLn.out HO.out HP.out).mono ?_
  rintro e' w1 ⟨rfl, hb1⟩
  obtain ⟨g0, g1, g2⟩ := (HRa.out.under hb1 HRa.out.lt).three
  obtain ⟨f0, f1, f2⟩ := (HRb.out.under hb1 HRb.out.lt).three
  have HB1 : Hid (Below W1.heap.size W1 w1) := hb1
  have HO2' := Lib.hid (HO2.out.under hb1 hb1.size)
  have HP2' := Lib.hid (HP2.out.under hb1 hb1.size)
  clear hb1 g0 f0 g2 f2
  go_wp2_with fail
  refine (eqBools_any acc A2 A2' cap2 b2 off2 cap2' b2' off2' _ HLm.out HO2'.out HP2'.out).mono ?_
  rintro e' w2 ⟨rfl, hb2⟩
  have HB2 : Hid (Below W1.heap.size W1 w2) := HB1.out.trans (hb2.mono HB1.out.size)
  have HO3' := Lib.hid (HO3.out.grow HB2.out HB2.out.size)
  have HP3' := Lib.hid (HP3.out.grow HB2.out HB2.out.size)
  obtain ⟨g0, g1', g2⟩ := (HRa.out.under HB2.out HRa.out.lt).three
  obtain ⟨f0, f1', f2⟩ := (HRb.out.under HB2.out HRb.out.lt).three
  clear hb2 g1 f1 g0 f0 g1' f1'
  go_wp2_with fail
  refine (eqTrS_any es A3 cap3 b3 off3 D3 A3' cap3' b3' off3' D3' _ HLk.out HO3'.out HP3'.out).mono ?_
  rintro e' w3 ⟨rfl, hb3⟩
  have HB3 : Hid (Below w.heap.size w w3) := HB0.out.trans ((HB2.out.trans (hb3.mono HB2.out.size)).mono HB0.out.size)
  clear hb3 g2 f2
  go_wp2_with fail
  go_ret
  exact ⟨rfl, HB3.out⟩

end Go.Proofs.Ytldnegacgjijlaa
