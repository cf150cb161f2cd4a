/- The equality of edges, processes and systems (EqEd, EqPr, EqSy in one). -/
import Derived.Test.YtcipnecdeipeaaaDoorEdQ
import Derived.StillTailTactics
import Derived.Test.YtcipnecdeipeaaaDoorJ03
namespace Go.Proofs.YtcipnecdeipeaaaDoor
open Go.RowKit

set_option maxHeartbeats 1000000 in
set_option maxRecDepth 100000 in
theorem eqEdS_any (xs : List Ed) (A : Option Addr) (cap b off : Nat) (C : Nat → Nat → Value) (A' : Option Addr) (cap' b' off' : Nat) (D : Nat → Nat → Value) (w : World) (hl : xs.length ≤ maxLen)
    (hO : Lay.ed.Opn w w.heap.size xs A b off C) (hO' : Lay.ed.Opn w w.heap.size xs A' b' off' D) :
    Calls Tryd.prog 41 #[.slice A xs.length cap, .slice A' xs.length cap'] w fun e' w' => e' = .returned (.bool true) ∧ Below w.heap.size w w' := by
  unfold maxLen at hl
  have HO := Lib.hid hO
  have HO' := Lib.hid hO'
  clear hO hO'
  go_enter Tryd.func41, Tryd.ntmps41
  go_wp2_with fail
  go_loopw [5] (fun i wl => ∃ j : Nat, j ≤ xs.length ∧ i = .int .i64 j ∧ Hid (Below w.heap.size w wl)) (fun i _ => xs.length - (intOf i).toNat)
  case atStart => exact ⟨0, Nat.zero_le _, rfl, Below.refl _ _⟩
  case round =>
    obtain ⟨j, hj, rfl, HB⟩ := hrel
    by_cases hlt : j < xs.length
    · obtain ⟨x, hx⟩ : ∃ x, xs[j]? = some x := ⟨_, List.getElem?_eq_getElem hlt⟩
      obtain ⟨rfl, hb, gc, gl⟩ := HO.out.below HB.out j x hx
      obtain ⟨rfl, hb', fc, fl⟩ := HO'.out.below HB.out j x hx
      have g0 : wr.cell? ⟨b, off + j * 10, none⟩ = some (C j 0) := gc 0 (by decide)
      have g1 : wr.cell? ⟨b, off + j * 10 + 1, none⟩ = some (C j 1) := gc 1 (by decide)
      have g2 : wr.cell? ⟨b, off + j * 10 + 2, none⟩ = some (C j 2) := gc 2 (by decide)
      have g3 : wr.cell? ⟨b, off + j * 10 + 3, none⟩ = some (C j 3) := gc 3 (by decide)
      have g4 : wr.cell? ⟨b, off + j * 10 + 4, none⟩ = some (C j 4) := gc 4 (by decide)
      have g5 : wr.cell? ⟨b, off + j * 10 + 5, none⟩ = some (C j 5) := gc 5 (by decide)
      have g6 : wr.cell? ⟨b, off + j * 10 + 6, none⟩ = some (C j 6) := gc 6 (by decide)
      have g7 : wr.cell? ⟨b, off + j * 10 + 7, none⟩ = some (C j 7) := gc 7 (by decide)
      have g8 : wr.cell? ⟨b, off + j * 10 + 8, none⟩ = some (C j 8) := gc 8 (by decide)
      have g9 : wr.cell? ⟨b, off + j * 10 + 9, none⟩ = some (C j 9) := gc 9 (by decide)
      have f0 : wr.cell? ⟨b', off' + j * 10, none⟩ = some (D j 0) := fc 0 (by decide)
      have f1 : wr.cell? ⟨b', off' + j * 10 + 1, none⟩ = some (D j 1) := fc 1 (by decide)
      have f2 : wr.cell? ⟨b', off' + j * 10 + 2, none⟩ = some (D j 2) := fc 2 (by decide)
      have f3 : wr.cell? ⟨b', off' + j * 10 + 3, none⟩ = some (D j 3) := fc 3 (by decide)
      have f4 : wr.cell? ⟨b', off' + j * 10 + 4, none⟩ = some (D j 4) := fc 4 (by decide)
      have f5 : wr.cell? ⟨b', off' + j * 10 + 5, none⟩ = some (D j 5) := fc 5 (by decide)
      have f6 : wr.cell? ⟨b', off' + j * 10 + 6, none⟩ = some (D j 6) := fc 6 (by decide)
      have f7 : wr.cell? ⟨b', off' + j * 10 + 7, none⟩ = some (D j 7) := fc 7 (by decide)
      have f8 : wr.cell? ⟨b', off' + j * 10 + 8, none⟩ = some (D j 8) := fc 8 (by decide)
      have f9 : wr.cell? ⟨b', off' + j * 10 + 9, none⟩ = some (D j 9) := fc 9 (by decide)
      have HG := Lib.hid (Lay.ed.later gl (Below.refl _ _).drew HB.out.size)
      have HG' := Lib.hid (Lay.ed.later fl (Below.refl _ _).drew HB.out.size)
      clear gl fl hx gc fc
      go_wp2_with fail
      go_still_tail 8, (by kernel_rfl)
      go_wp2_with fail
      refine (eqEd_any x (C j) (D j) wr.drew HG.out HG'.out).mono ?_
      rintro e' w1 ⟨rfl, hb1⟩
      have HB1 : Hid (Below w.heap.size w w1) := HB.out.drew.trans (hb1.mono HB.out.size)
      clear hb1 HB HG HG' g0 f0 g1 f1 g2 f2 g3 f3 g4 f4 g5 f5 g6 f6 g7 f7 g8 f8 g9 f9
      go_wp2_with fail
      go_roundw
      case rel => exact ⟨j + 1, by omega, by go_num, HB1⟩
      case measure => simp [intOf]; omega
    · go_wp2_with fail
      go_ret
      exact ⟨rfl, HB.out⟩


set_option maxHeartbeats 400000 in
theorem eqPr_any (p : Pr) (C D : Nat → Value) (w : World) (hL : Lay.pr.lies w w.heap.size p C) (hL' : Lay.pr.lies w w.heap.size p D) :
    Calls Tryd.prog 31 #[.agg #[C 0, C 1], .agg #[D 0, D 1]] w fun e' w' => e' = .returned (.bool true) ∧ Below w.heap.size w w' := by
  obtain ⟨loc, es⟩ := p
  obtain ⟨e0, A, cap, b, off, E, e1, hl, hO⟩ := pr_lies hL
  obtain ⟨d0, A', cap', b', off', E', d1, _, hO'⟩ := pr_lies hL'
  rw [e0, e1, d0, d1]
  clear e0 e1 d0 d1 hL hL'
  obtain ⟨W1, hW1⟩ : ∃ W1, W1 = (w.alloc (.cells #[.int .i64 loc, .slice A es.length cap] 40)).alloc (.cells #[.int .i64 loc, .slice A' es.length cap'] 40) := ⟨_, rfl⟩
  have hrows := two_boxes w 40 #[.int .i64 loc, .slice A es.length cap] #[.int .i64 loc, .slice A' es.length cap']
  rw [← hW1] at hrows
  obtain ⟨ra, rb, hb0⟩ := hrows
  have HO := Lib.hid (hO.grow hb0 hb0.size)
  have HO' := Lib.hid (hO'.grow hb0 hb0.size)
  have HB0 := Lib.hid hb0
  have HW1 := Lib.hid hW1
  have HLn := Lib.hid hl
  clear hO hO' hb0 hW1 hl ra rb
  go_enter Tryd.func31, Tryd.ntmps31
  go_wp2_with fail
  rw [← HW1.out]
  refine (eqEdS_any es A cap b off E A' cap' b' off' E' _ HLn.out HO.out HO'.out).mono ?_
  rintro e' w1 ⟨rfl, hb1⟩
  have HB1 := Lib.hid (HB0.out.trans (hb1.mono HB0.out.size))
  clear hb1
  go_wp2_with fail
  go_ret
  exact ⟨rfl, HB1.out⟩

set_option maxHeartbeats 1000000 in
set_option maxRecDepth 100000 in
theorem eqPrS_any (xs : List Pr) (A : Option Addr) (cap b off : Nat) (C : Nat → Nat → Value) (A' : Option Addr) (cap' b' off' : Nat) (D : Nat → Nat → Value) (w : World) (hl : xs.length ≤ maxLen)
    (hO : Lay.pr.Opn w w.heap.size xs A b off C) (hO' : Lay.pr.Opn w w.heap.size xs A' b' off' D) :
    Calls Tryd.prog 21 #[.slice A xs.length cap, .slice A' xs.length cap'] w fun e' w' => e' = .returned (.bool true) ∧ Below w.heap.size w w' := by
  unfold maxLen at hl
  have HO := Lib.hid hO
  have HO' := Lib.hid hO'
  clear hO hO'
  go_enter Tryd.func21, Tryd.ntmps21
  go_wp2_with fail
  go_loopw [5] (fun i wl => ∃ j : Nat, j ≤ xs.length ∧ i = .int .i64 j ∧ Hid (Below w.heap.size w wl)) (fun i _ => xs.length - (intOf i).toNat)
  case atStart => exact ⟨0, Nat.zero_le _, rfl, Below.refl _ _⟩
  case round =>
    obtain ⟨j, hj, rfl, HB⟩ := hrel
    by_cases hlt : j < xs.length
    · obtain ⟨x, hx⟩ : ∃ x, xs[j]? = some x := ⟨_, List.getElem?_eq_getElem hlt⟩
      obtain ⟨rfl, hb, gc, gl⟩ := HO.out.below HB.out j x hx
      obtain ⟨rfl, hb', fc, fl⟩ := HO'.out.below HB.out j x hx
      have g0 : wr.cell? ⟨b, off + j * 2, none⟩ = some (C j 0) := gc 0 (by decide)
      have g1 : wr.cell? ⟨b, off + j * 2 + 1, none⟩ = some (C j 1) := gc 1 (by decide)
      have f0 : wr.cell? ⟨b', off' + j * 2, none⟩ = some (D j 0) := fc 0 (by decide)
      have f1 : wr.cell? ⟨b', off' + j * 2 + 1, none⟩ = some (D j 1) := fc 1 (by decide)
      have HG := Lib.hid (Lay.pr.later gl (Below.refl _ _).drew HB.out.size)
      have HG' := Lib.hid (Lay.pr.later fl (Below.refl _ _).drew HB.out.size)
      clear gl fl hx gc fc
      go_wp2_with fail
      go_still_tail 8, (by kernel_rfl)
      go_wp2_with fail
      refine (eqPr_any x (C j) (D j) wr.drew HG.out HG'.out).mono ?_
      rintro e' w1 ⟨rfl, hb1⟩
      have HB1 : Hid (Below w.heap.size w w1) := HB.out.drew.trans (hb1.mono HB.out.size)
      clear hb1 HB HG HG' g0 f0 g1 f1
      go_wp2_with fail
      go_roundw
      case rel => exact ⟨j + 1, by omega, by go_num, HB1⟩
      case measure => simp [intOf]; omega
    · go_wp2_with fail
      go_ret
      exact ⟨rfl, HB.out⟩


set_option maxHeartbeats 400000 in
theorem eqSy_any (s : Sy) (C D : Nat → Value) (w : World) (hL : Lay.sy.lies w w.heap.size s C) (hL' : Lay.sy.lies w w.heap.size s D) :
    Calls Tryd.prog 8 #[.agg #[C 0, C 1], .agg #[D 0, D 1]] w fun e' w' => e' = .returned (.bool true) ∧ Below w.heap.size w w' := by
  obtain ⟨ini, ps⟩ := s
  obtain ⟨⟨A, cap, b, off, E, e0, hl, hO⟩, B, cbp, c, pff, F, e1, hm, hP⟩ := sy_lies hL
  obtain ⟨⟨A', cap', b', off', E', d0, _, hO'⟩, B', cbp', c', pff', F', d1, _, hP'⟩ := sy_lies hL'
  rw [e0, e1, d0, d1]
  clear e0 e1 d0 d1 hL hL'
  obtain ⟨W1, hW1⟩ : ∃ W1, W1 = (w.alloc (.cells #[.slice A ini.length cap, .slice B ps.length cbp] 30)).alloc (.cells #[.slice A' ini.length cap', .slice B' ps.length cbp'] 30) := ⟨_, rfl⟩
  have hrows := two_boxes w 30 #[.slice A ini.length cap, .slice B ps.length cbp] #[.slice A' ini.length cap', .slice B' ps.length cbp']
  rw [← hW1] at hrows
  obtain ⟨ra, rb, hb0⟩ := hrows
  have HRa := Lib.hid ra
  have HRb := Lib.hid rb
  have HO := Lib.hid (ints_of (hO.grow hb0 hb0.size))
  have HO' := Lib.hid (ints_of (hO'.grow hb0 hb0.size))
  have HP := Lib.hid (hP.grow hb0 hb0.size)
  have HP' := Lib.hid (hP'.grow hb0 hb0.size)
  have HB0 := Lib.hid hb0
  have HW1 := Lib.hid hW1
  have HLn := Lib.hid hl
  have HMn := Lib.hid hm
  clear hO hO' hP hP' hb0 hW1 hl hm ra rb
  go_enter Tryd.func8, Tryd.ntmps8
  go_wp2_with fail
  rw [← HW1.out]
  refine (eqInts_any ini A A' cap b off cap' b' off' _ HLn.out HO.out HO'.out).mono ?_
  rintro e' w1 ⟨rfl, hb1⟩
  obtain ⟨g0, g1⟩ := (HRa.out.under hb1 HRa.out.lt).two
  obtain ⟨f0, f1⟩ := (HRb.out.under hb1 HRb.out.lt).two
  have HP1 := Lib.hid (HP.out.grow hb1 hb1.size)
  have HP1' := Lib.hid (HP'.out.grow hb1 hb1.size)
  have HB1 := Lib.hid (HB0.out.trans (hb1.mono HB0.out.size))
  clear hb1 g0 f0
  go_wp2_with fail
  refine (eqPrS_any ps B cbp c pff F B' cbp' c' pff' F' _ HMn.out HP1.out HP1'.out).mono ?_
  rintro e' w2 ⟨rfl, hb2⟩
  have HB2 := Lib.hid (HB1.out.trans (hb2.mono HB1.out.size))
  clear hb2 g1 f1
  go_wp2_with fail
  go_ret
  exact ⟨rfl, HB2.out⟩

end Go.Proofs.YtcipnecdeipeaaaDoor
