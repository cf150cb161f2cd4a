/- The walks of laws.eqProcess and laws.eqProcessS. -/
import Derived.Test.YtcaffghfejneaaaSys
import Derived.Test.YtcaffghfejneaaaEqEd
namespace Go.Proofs.Ytcaffghfejneaaa
open Go.RowKit

set_option maxHeartbeats 400000 in
theorem eqPr_any (p : Pr) (C D : Nat → Value) (w : World) (hL : Lay.pr.lies w w.heap.size p C) (hL' : Lay.pr.lies w w.heap.size p D) :
    Calls Try.prog 53 #[.agg #[C 0, C 1], .agg #[D 0, D 1]] w fun e' w' => e' = .returned (.bool true) ∧ Below w.heap.size w w' := by
  obtain ⟨loc, es⟩ := p
  obtain ⟨e0, A, cap, b, off, E, e1, hl, hO⟩ := pr_lies hL
  obtain ⟨d0, A', cap', b', off', E', d1, _, hO'⟩ := pr_lies hL'
  rw [e0, e1, d0, d1]
  clear e0 e1 d0 d1 hL hL'
  obtain ⟨W1, hW1⟩ : ∃ W1, W1 = (w.alloc (.cells #[.int .i64 loc, .slice A es.length cap] 71)).alloc (.cells #[.int .i64 loc, .slice A' es.length cap'] 71) := ⟨_, rfl⟩
  have hrows := two_boxes w 71 #[.int .i64 loc, .slice A es.length cap] #[.int .i64 loc, .slice A' es.length cap']
  rw [← hW1] at hrows
  obtain ⟨ra, rb, hb0⟩ := hrows
  have HO := Lib.hid (hO.grow hb0 hb0.size)
  have HO' := Lib.hid (hO'.grow hb0 hb0.size)
  have HB0 := Lib.hid hb0
  have HW1 := Lib.hid hW1
  have HLn := Lib.hid hl
  clear hO hO' hb0 hW1 hl ra rb
  go_enter Try.func53, Try.ntmps53
  go_wp2_with fail
  rw [← HW1.out]
  refine (eqEdS_any es A cap b off E A' cap' b' off' E' _ HLn.out HO.out HO'.out).mono ?_
  rintro e' w1 ⟨rfl, hb1⟩
  have HB1 := Lib.hid (HB0.out.trans (hb1.mono HB0.out.size))
  clear hb1
  go_wp2_with fail
  go_ret
  exact ⟨rfl, HB1.out⟩

set_option maxHeartbeats 1000000 in
set_option maxRecDepth 100000 in
theorem eqPrS_any (xs : List Pr) (A : Option Addr) (cap b off : Nat) (C : Nat → Nat → Value) (A' : Option Addr) (cap' b' off' : Nat) (D : Nat → Nat → Value) (w : World) (hl : xs.length ≤ maxLen)
    (hO : Lay.pr.Opn w w.heap.size xs A b off C) (hO' : Lay.pr.Opn w w.heap.size xs A' b' off' D) :
    Calls Try.prog 39 #[.slice A xs.length cap, .slice A' xs.length cap'] w fun e' w' => e' = .returned (.bool true) ∧ Below w.heap.size w w' := by
  unfold maxLen at hl
  have HO := Lib.hid hO
  have HO' := Lib.hid hO'
  clear hO hO'
  go_enter Try.func39, Try.ntmps39
  go_wp2_with fail
  go_loopw [5] (fun i wl => ∃ j : Nat, j ≤ xs.length ∧ i = .int .i64 j ∧ Hid (Below w.heap.size w wl)) (fun i _ => xs.length - (intOf i).toNat)
  case atStart => exact ⟨0, Nat.zero_le _, rfl, Below.refl _ _⟩
  case round =>
    obtain ⟨j, hj, rfl, HB⟩ := hrel
    by_cases hlt : j < xs.length
    · obtain ⟨x, hx⟩ : ∃ x, xs[j]? = some x := ⟨_, List.getElem?_eq_getElem hlt⟩
      obtain ⟨rfl, hb, gc, gl⟩ := HO.out.below HB.out j x hx
      obtain ⟨rfl, hb', fc, fl⟩ := HO'.out.below HB.out j x hx
      have g0 : wr.cell? ⟨b, off + j * 2, none⟩ = some (C j 0) := gc 0 (by decide)
      have g1 : wr.cell? ⟨b, off + j * 2 + 1, none⟩ = some (C j 1) := gc 1 (by decide)
      have f0 : wr.cell? ⟨b', off' + j * 2, none⟩ = some (D j 0) := fc 0 (by decide)
      have f1 : wr.cell? ⟨b', off' + j * 2 + 1, none⟩ = some (D j 1) := fc 1 (by decide)
      have HG := Lib.hid (Lay.pr.later gl (Below.refl _ _).drew HB.out.size)
      have HG' := Lib.hid (Lay.pr.later fl (Below.refl _ _).drew HB.out.size)
      clear gl fl hx gc fc
      go_wp2_with fail
      go_still_tail 8, (by kernel_rfl)
      go_wp2_with fail
      refine (eqPr_any x (C j) (D j) wr.drew HG.out HG'.out).mono ?_
      rintro e' w1 ⟨rfl, hb1⟩
      have HB1 : Hid (Below w.heap.size w w1) := HB.out.drew.trans (hb1.mono HB.out.size)
      clear hb1 HB HG HG' g0 f0 g1 f1
      go_wp2_with fail
      go_roundw
      case rel => exact ⟨j + 1, by omega, by go_num, HB1⟩
      case measure => simp [intOf]; omega
    · go_wp2_with fail
      go_ret
      exact ⟨rfl, HB.out⟩

end Go.Proofs.Ytcaffghfejneaaa
