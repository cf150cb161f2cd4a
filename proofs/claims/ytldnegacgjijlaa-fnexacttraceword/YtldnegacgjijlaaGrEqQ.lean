/- The walks of laws.eqStateS, laws.eqIntSS and laws.eqGraph. -/
import Derived.Test.YtldnegacgjijlaaJ03
import Derived.StillTailTactics
namespace Go.Proofs.Ytldnegacgjijlaa
open Go.RowKit

set_option maxHeartbeats 1000000 in
set_option maxRecDepth 100000 in
theorem eqStS_any (xs : List St) (A : Option Addr) (cap b off : Nat) (C : Nat → Nat → Value) (A' : Option Addr) (cap' b' off' : Nat) (D : Nat → Nat → Value) (w : World) (hl : xs.length ≤ maxLen)
    (hO : Lay.sta.Opn w w.heap.size xs A b off C) (hO' : Lay.sta.Opn w w.heap.size xs A' b' off' D) :
    Calls Try.prog 86 #[.slice A xs.length cap, .slice A' xs.length cap'] w fun e' w' => e' = .returned (.bool true) ∧ Below w.heap.size w w' := by
  unfold maxLen at hl
  have HO := Lib.hid hO
  have HO' := Lib.hid hO'
  clear hO hO'
  go_enter Try.func86, Try.ntmps86
  go_wp2_with fail
  go_loopw [5] (fun i wl => ∃ j : Nat, j ≤ xs.length ∧ i = .int .i64 j ∧ Hid (Below w.heap.size w wl)) (fun i _ => xs.length - (intOf i).toNat)
  case atStart => exact ⟨0, Nat.zero_le _, rfl, Below.refl _ _⟩
  case round =>
    obtain ⟨j, hj, rfl, HB⟩ := hrel
    by_cases hlt : j < xs.length
    · obtain ⟨x, hx⟩ : ∃ x, xs[j]? = some x := ⟨_, List.getElem?_eq_getElem hlt⟩
      obtain ⟨rfl, hb, gc, gl⟩ := HO.out.below HB.out j x hx
      obtain ⟨rfl, hb', fc, fl⟩ := HO'.out.below HB.out j x hx
      have g0 : wr.cell? ⟨b, off + j * 2, none⟩ = some (C j 0) := gc 0 (by decide)
      have g1 : wr.cell? ⟨b, off + j * 2 + 1, none⟩ = some (C j 1) := gc 1 (by decide)
      have f0 : wr.cell? ⟨b', off' + j * 2, none⟩ = some (D j 0) := fc 0 (by decide)
      have f1 : wr.cell? ⟨b', off' + j * 2 + 1, none⟩ = some (D j 1) := fc 1 (by decide)
      have HG := Lib.hid (Lay.sta.later gl (Below.refl _ _).drew HB.out.size)
      have HG' := Lib.hid (Lay.sta.later fl (Below.refl _ _).drew HB.out.size)
      clear gl fl hx gc fc
      go_wp2_with fail
      go_still_tail 8, (by kernel_rfl)
      go_wp2_with fail
      refine (eqSt_any x (C j) (D j) wr.drew HG.out HG'.out).mono ?_
      rintro e' w1 ⟨rfl, hb1⟩
      have HB1 : Hid (Below w.heap.size w w1) := HB.out.drew.trans (hb1.mono HB.out.size)
      clear hb1 HB HG HG' g0 f0 g1 f1
      go_wp2_with fail
      go_roundw
      case rel => exact ⟨j + 1, by omega, by go_num, HB1⟩
      case measure => simp [intOf]; omega
    · go_wp2_with fail
      go_ret
      exact ⟨rfl, HB.out⟩

set_option maxHeartbeats 1000000 in
set_option maxRecDepth 100000 in
theorem eqIsS_any (xs : List (List Int)) (A : Option Addr) (cap b off : Nat) (C : Nat → Nat → Value) (A' : Option Addr) (cap' b' off' : Nat) (D : Nat → Nat → Value) (w : World) (hl : xs.length ≤ maxLen)
    (hO : Lay.ints.Opn w w.heap.size xs A b off C) (hO' : Lay.ints.Opn w w.heap.size xs A' b' off' D) :
    Calls Try.prog 87 #[.slice A xs.length cap, .slice A' xs.length cap'] w fun e' w' => e' = .returned (.bool true) ∧ Below w.heap.size w w' := by
  unfold maxLen at hl
  have HO := Lib.hid hO
  have HO' := Lib.hid hO'
  clear hO hO'
  go_enter Try.func87, Try.ntmps87
  go_wp2_with fail
  go_loopw [5] (fun i wl => ∃ j : Nat, j ≤ xs.length ∧ i = .int .i64 j ∧ Hid (Below w.heap.size w wl)) (fun i _ => xs.length - (intOf i).toNat)
  case atStart => exact ⟨0, Nat.zero_le _, rfl, Below.refl _ _⟩
  case round =>
    obtain ⟨j, hj, rfl, HB⟩ := hrel
    by_cases hlt : j < xs.length
    · obtain ⟨x, hx⟩ : ∃ x, xs[j]? = some x := ⟨_, List.getElem?_eq_getElem hlt⟩
      obtain ⟨rfl, hb, gc, gl⟩ := HO.out.below HB.out j x hx
      obtain ⟨rfl, hb', fc, fl⟩ := HO'.out.below HB.out j x hx
      have g0 : wr.cell? ⟨b, off + j, none⟩ = some (C j 0) := by have h := gc 0 (by decide); rw [show Lay.ints.st = 1 from rfl, Nat.mul_one] at h; exact h
      have f0 : wr.cell? ⟨b', off' + j, none⟩ = some (D j 0) := by have h := fc 0 (by decide); rw [show Lay.ints.st = 1 from rfl, Nat.mul_one] at h; exact h
      have HG := Lib.hid (Lay.ints.later gl (Below.refl _ _).drew HB.out.size)
      have HG' := Lib.hid (Lay.ints.later fl (Below.refl _ _).drew HB.out.size)
      clear gl fl hx gc fc
      go_wp2_with fail
      go_still_tail 8, (by kernel_rfl)
      go_wp2_with fail
      refine (eqIs_any x (C j) (D j) wr.drew HG.out HG'.out).mono ?_
      rintro e' w1 ⟨rfl, hb1⟩
      have HB1 : Hid (Below w.heap.size w w1) := HB.out.drew.trans (hb1.mono HB.out.size)
      clear hb1 HB HG HG' g0 f0
      go_wp2_with fail
      go_roundw
      case rel => exact ⟨j + 1, by omega, by go_num, HB1⟩
      case measure => simp [intOf]; omega
    · go_wp2_with fail
      go_ret
      exact ⟨rfl, HB.out⟩

set_option maxHeartbeats 400000 in
theorem eqGr_any (s : Gp) (C D : Nat → Value) (w : World) (hL : Lay.gra.lies w w.heap.size s C) (hL' : Lay.gra.lies w w.heap.size s D) :
    Calls Try.prog 34 #[.agg #[C 0, C 1], .agg #[D 0, D 1]] w fun e' w' => e' = .returned (.bool true) ∧ Below w.heap.size w w' := by
  obtain ⟨ini, ps⟩ := s
  obtain ⟨⟨A, cap, b, off, E, e0, hl, hO⟩, B, cbp, c, pff, F, e1, hm, hP⟩ := gra_lies hL
  obtain ⟨⟨A', cap', b', off', E', d0, _, hO'⟩, B', cbp', c', pff', F', d1, _, hP'⟩ := gra_lies hL'
  rw [e0, e1, d0, d1]
  clear e0 e1 d0 d1 hL hL'
  obtain ⟨W1, hW1⟩ : ∃ W1, W1 = (w.alloc (.cells #[.slice A ini.length cap, .slice B ps.length cbp] 69)).alloc (.cells #[.slice A' ini.length cap', .slice B' ps.length cbp'] 69) := ⟨_, rfl⟩
  have hrows := two_boxes w 69 #[.slice A ini.length cap, .slice B ps.length cbp] #[.slice A' ini.length cap', .slice B' ps.length cbp']
  rw [← hW1] at hrows
  obtain ⟨ra, rb, hb0⟩ := hrows
  have HRa := Lib.hid ra
  have HRb := Lib.hid rb
  have HO := Lib.hid (hO.grow hb0 hb0.size)
  have HO' := Lib.hid (hO'.grow hb0 hb0.size)
  have HP := Lib.hid (hP.grow hb0 hb0.size)
  have HP' := Lib.hid (hP'.grow hb0 hb0.size)
  have HB0 := Lib.hid hb0
  have HW1 := Lib.hid hW1
  have HLn := Lib.hid hl
  have HMn := Lib.hid hm
  clear hO hO' hP hP' hb0 hW1 hl hm ra rb
  go_enter Try.func34, Try.ntmps34
  go_wp2_with fail
  rw [← HW1.out]
  refine (eqStS_any ini A cap b off E A' cap' b' off' E' _ HLn.out HO.out HO'.out).mono ?_
  rintro e' w1 ⟨rfl, hb1⟩
  obtain ⟨g0, g1⟩ := (HRa.out.under hb1 HRa.out.lt).two
  obtain ⟨f0, f1⟩ := (HRb.out.under hb1 HRb.out.lt).two
  have HP1 := Lib.hid (HP.out.grow hb1 hb1.size)
  have HP1' := Lib.hid (HP'.out.grow hb1 hb1.size)
  have HB1 := Lib.hid (HB0.out.trans (hb1.mono HB0.out.size))
  clear hb1 g0 f0
  go_wp2_with fail
  refine (eqIsS_any ps B cbp c pff F B' cbp' c' pff' F' _ HMn.out HP1.out HP1'.out).mono ?_
  rintro e' w2 ⟨rfl, hb2⟩
  have HB2 := Lib.hid (HB1.out.trans (hb2.mono HB1.out.size))
  clear hb2 g1 f1
  go_wp2_with fail
  go_ret
  exact ⟨rfl, HB2.out⟩


end Go.Proofs.Ytldnegacgjijlaa
