/- The walk of the law laws.FnExactLabelsValid. -/
import Derived.Test.YtnkicididcnkbaaLbV
import Derived.Test.YtnkicididcnkbaaNx
import Derived.Deep.RegionHeld3
import Derived.Deep.RegionWith
import Derived.Deep.Cut
import Derived.Deep.CutRange
namespace Go.Proofs.Ytnkicididcnkbaa
open Go.RowKit

set_option maxHeartbeats 4000000 in
set_option maxRecDepth 100000 in
theorem lawLb_any (e0 : List Ex) (C0 : Nat → Value) (w : World) (hL0 : Lay.exs.lies w w.heap.size e0 C0) :
    Calls Try.prog 3 #[C0 0] w fun e' w' => e' = .returned (.bool true) ∧ Below w.heap.size w w' := by
  have HL0 := Lib.hid hL0
  have HBn : Hid (∀ X, Below w.heap.size w X → Below w.heap.size w X) := fun X h => h
  have HB_w : Hid (Below w.heap.size w w) := Below.refl _ _
  clear hL0
  obtain ⟨r0, hr0, hc0⟩ := room_next (left := 1048576) (n := Lay.exs.sz e0) (by omega) (by omega)
  have HRm0 := Lib.hid hr0
  clear hr0
  go_enter Try.func3, Try.ntmps3
  go_wp2_with fail
  refine (szExs_any e0 C0 1048576 _ (Lay.exs.later HL0.out HB_w.out HB_w.out.size) (by omega) (by omega)).mono ?_
  rintro e' w1 ⟨rfl, hb⟩
  rw [← HRm0.out]
  have HB_w1 : Hid (Below w.heap.size w w1) := HB_w.out.trans (hb.mono HB_w.out.size)
  have hz_w1 : w.heap.size ≤ w1.heap.size := hb.size
  clear hb
  rcases hc0 with hneg | ⟨hp, hq, hn0⟩
  · go_wp2_with fail
    go_ret
    exact ⟨rfl, HBn.out _ HB_w1.out⟩
  have HD0 : Hid (Lay.exs.sz e0 ≤ 1048576) := hn0
  clear hn0
  obtain ⟨vl0, hvl0⟩ : ∃ vl0 : Bool, vl0 = labsOk e0 := ⟨_, rfl⟩
  have HV0 := Lib.hid hvl0
  clear hvl0
  go_wp2_with fail
  refine (toExs_any e0 C0 _ (Lay.exs.later HL0.out HB_w1.out HB_w1.out.size) HD0.out).mono ?_
  rintro e' w2 ⟨p0xa, p0xl, p0xc, rfl, hs, hb⟩
  have HB_w2 : Hid (Below w.heap.size w w2) := HB_w1.out.trans (hb.mono HB_w1.out.size)
  have hz_w2 : w1.heap.size ≤ w2.heap.size := hb.size
  have HSp0_w2 : Hid (Lay.exs.sep w2 w1.heap.size w2.heap.size e0 (fun j => (#[.slice p0xa p0xl p0xc] : Array Value).getD j undef)) := hs
  clear hs hb
  go_wp2_with fail
  refine (specLb_any e0 (fun j => (#[.slice p0xa p0xl p0xc] : Array Value).getD j undef) _ (Lay.exs.more (Lay.exs.sep_lies HSp0_w2.out) (by omega)) HD0.out).mono ?_
  rintro e' w3 ⟨rfl, hb⟩
  rw [← HV0.out]
  have HB_w3 : Hid (Below w.heap.size w w3) := HB_w2.out.trans (hb.mono HB_w2.out.size)
  have hz_w3 : w2.heap.size ≤ w3.heap.size := hb.size
  have HSp0_w3 := Lib.hid (Lay.exs.sunder HSp0_w2.out hb (by omega))
  clear hb HSp0_w2
  clear HSp0_w3
  go_wp2_with fail
  refine (toExs_any e0 C0 _ (Lay.exs.later HL0.out HB_w3.out HB_w3.out.size) HD0.out).mono ?_
  rintro e' w4 ⟨x0xa, x0xl, x0xc, rfl, hs, hb⟩
  have HB_w4 : Hid (Below w.heap.size w w4) := HB_w3.out.trans (hb.mono HB_w3.out.size)
  have hz_w4 : w3.heap.size ≤ w4.heap.size := hb.size
  have HSx0_w4 : Hid (Lay.exs.sep w4 w3.heap.size w4.heap.size e0 (fun j => (#[.slice x0xa x0xl x0xc] : Array Value).getD j undef)) := hs
  clear hs hb
  go_wp2_with fail
  refine (implLb_any e0 (fun j => (#[.slice x0xa x0xl x0xc] : Array Value).getD j undef) _ (Lay.exs.more (Lay.exs.sep_lies HSx0_w4.out) (by omega)) HD0.out).mono ?_
  rintro e' w5 ⟨rfl, hb⟩
  rw [← HV0.out]
  have HB_w5 : Hid (Below w.heap.size w w5) := HB_w4.out.trans (hb.mono HB_w4.out.size)
  have hz_w5 : w4.heap.size ≤ w5.heap.size := hb.size
  have HSx0_w5 := Lib.hid (Lay.exs.sunder HSx0_w4.out hb (by omega))
  clear hb HSx0_w4
  go_wp2_with fail
  refine (toExs_any e0 C0 _ (Lay.exs.later HL0.out HB_w5.out HB_w5.out.size) HD0.out).mono ?_
  rintro e' w6 ⟨t0xa, t0xl, t0xc, rfl, hs, hb⟩
  have HB_w6 : Hid (Below w.heap.size w w6) := HB_w5.out.trans (hb.mono HB_w5.out.size)
  have hz_w6 : w5.heap.size ≤ w6.heap.size := hb.size
  have HSx0_w6 := Lib.hid (Lay.exs.sunder HSx0_w5.out hb (by omega))
  have HSt0_w6 : Hid (Lay.exs.sep w6 w5.heap.size w6.heap.size e0 (fun j => (#[.slice t0xa t0xl t0xc] : Array Value).getD j undef)) := hs
  clear hs hb HSx0_w5
  go_wp2_with fail
  refine (eqExs_any e0 (fun j => (#[.slice x0xa x0xl x0xc] : Array Value).getD j undef) (fun j => (#[.slice t0xa t0xl t0xc] : Array Value).getD j undef) _ (Lay.exs.more (Lay.exs.sep_lies HSx0_w6.out) (by omega)) (Lay.exs.more (Lay.exs.sep_lies HSt0_w6.out) (by omega))).mono ?_
  rintro e' w7 ⟨rfl, hb⟩
  have HB_w7 : Hid (Below w.heap.size w w7) := HB_w6.out.trans (hb.mono HB_w6.out.size)
  have hz_w7 : w6.heap.size ≤ w7.heap.size := hb.size
  have HSx0_w7 := Lib.hid (Lay.exs.sunder HSx0_w6.out hb (by omega))
  have HSt0_w7 := Lib.hid (Lay.exs.sunder HSt0_w6.out hb (by omega))
  clear hb HSx0_w6 HSt0_w6
  clear HSt0_w7
  go_wp2_with fail
  go_ret
  exact ⟨rfl, HBn.out _ HB_w7.out⟩

end Go.Proofs.Ytnkicididcnkbaa
