/- The walk of laws.eqSystem. -/
import Derived.Test.YtcaffghfejneaaaEqPr
namespace Go.Proofs.Ytcaffghfejneaaa
open Go.RowKit

set_option maxHeartbeats 400000 in
theorem eqSy_any (s : Sy) (C D : Nat → Value) (w : World) (hL : Lay.sy.lies w w.heap.size s C) (hL' : Lay.sy.lies w w.heap.size s D) :
    Calls Try.prog 15 #[.agg #[C 0, C 1], .agg #[D 0, D 1]] w fun e' w' => e' = .returned (.bool true) ∧ Below w.heap.size w w' := by
  obtain ⟨ini, ps⟩ := s
  obtain ⟨⟨A, cap, b, off, E, e0, hl, hO⟩, B, cbp, c, pff, F, e1, hm, hP⟩ := sy_lies hL
  obtain ⟨⟨A', cap', b', off', E', d0, _, hO'⟩, B', cbp', c', pff', F', d1, _, hP'⟩ := sy_lies hL'
  rw [e0, e1, d0, d1]
  clear e0 e1 d0 d1 hL hL'
  obtain ⟨W1, hW1⟩ : ∃ W1, W1 = (w.alloc (.cells #[.slice A ini.length cap, .slice B ps.length cbp] 45)).alloc (.cells #[.slice A' ini.length cap', .slice B' ps.length cbp'] 45) := ⟨_, rfl⟩
  have hrows := two_boxes w 45 #[.slice A ini.length cap, .slice B ps.length cbp] #[.slice A' ini.length cap', .slice B' ps.length cbp']
  rw [← hW1] at hrows
  obtain ⟨ra, rb, hb0⟩ := hrows
  have HRa := Lib.hid ra
  have HRb := Lib.hid rb
  have HO := Lib.hid (ints_of (hO.grow hb0 hb0.size))
  have HO' := Lib.hid (ints_of (hO'.grow hb0 hb0.size))
  have HP := Lib.hid (hP.grow hb0 hb0.size)
  have HP' := Lib.hid (hP'.grow hb0 hb0.size)
  have HB0 := Lib.hid hb0
  have HW1 := Lib.hid hW1
  have HLn := Lib.hid hl
  have HMn := Lib.hid hm
  clear hO hO' hP hP' hb0 hW1 hl hm ra rb
  go_enter Try.func15, Try.ntmps15
  go_wp2_with fail
  rw [← HW1.out]
  refine (eqInts_any ini A A' cap b off cap' b' off' _ HLn.out HO.out HO'.out).mono ?_
  rintro e' w1 ⟨rfl, hb1⟩
  obtain ⟨g0, g1⟩ := (HRa.out.under hb1 HRa.out.lt).two
  obtain ⟨f0, f1⟩ := (HRb.out.under hb1 HRb.out.lt).two
  have HP1 := Lib.hid (HP.out.grow hb1 hb1.size)
  have HP1' := Lib.hid (HP'.out.grow hb1 hb1.size)
  have HB1 := Lib.hid (HB0.out.trans (hb1.mono HB0.out.size))
  clear hb1 g0 f0
  go_wp2_with fail
  refine (eqPrS_any ps B cbp c pff F B' cbp' c' pff' F' _ HMn.out HP1.out HP1'.out).mono ?_
  rintro e' w2 ⟨rfl, hb2⟩
  have HB2 := Lib.hid (HB1.out.trans (hb2.mono HB1.out.size))
  clear hb2 g1 f1
  go_wp2_with fail
  go_ret
  exact ⟨rfl, HB2.out⟩

end Go.Proofs.Ytcaffghfejneaaa
