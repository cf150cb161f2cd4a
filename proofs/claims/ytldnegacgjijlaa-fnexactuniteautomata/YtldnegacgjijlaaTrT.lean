/- The walks of laws.szTransitionS, laws.eqTransition and laws.eqTransitionS. -/
import Derived.Test.YtldnegacgjijlaaAuT
import Derived.StillTailTactics
namespace Go.Proofs.Ytldnegacgjijlaa
open Go.RowKit

set_option maxHeartbeats 400000 in
theorem szTrS_any (A : Option Addr) (n cap : Nat) (left : Int) (w : World) (hl : n ≤ maxLen) (h0 : 0 ≤ left) (h1 : left ≤ 1048576) :
    Calls Try.prog 61 #[.slice A n cap, .int .i64 left] w fun e' w' => e' = .returned (.int .i64 (room left n)) ∧ w = w' := by
  unfold maxLen at hl
  by_cases h : left < n
  · have HR : Hid (room left n = -1) := by show _ = _; unfold room; rw [if_pos h]
    go_enter Try.func61, Try.ntmps61
    go_wp2_with fail
    go_ret
    exact ⟨ret_int HR.out.symm, rfl⟩
  · have HR : Hid (room left n = left - n) := by show _ = _; unfold room; rw [if_neg h]
    go_enter Try.func61, Try.ntmps61
    go_wp2_with fail
    go_ret
    exact ⟨ret_int (by rw [HR.out]), rfl⟩

set_option maxHeartbeats 400000 in
theorem eqTr_any (e : Tr) (C D : Nat → Value) (w : World) (hL : Lay.tr.lies w w.heap.size e C) (hL' : Lay.tr.lies w w.heap.size e D) :
    Calls Try.prog 114 #[.agg #[C 0, C 1, C 2, C 3], .agg #[D 0, D 1, D 2, D 3]] w fun e' w' => e' = .returned (.bool true) ∧ Below w.heap.size w w' := by
  obtain ⟨fr, ca, va, tt⟩ := e
  obtain ⟨c0, c1, c2, c3⟩ := tr_lies hL
  obtain ⟨d0, d1, d2, d3⟩ := tr_lies hL'
  rw [c0, c1, c2, c3, d0, d1, d2, d3]
  clear c0 c1 c2 c3 d0 d1 d2 d3 hL hL'
  obtain ⟨W1, hW1⟩ : ∃ W1, W1 = (w.alloc (.cells #[.int .i64 fr, .int .i64 ca, .int .i64 va, .int .i64 tt] 116)).alloc (.cells #[.int .i64 fr, .int .i64 ca, .int .i64 va, .int .i64 tt] 116) := ⟨_, rfl⟩
  have hrows := two_boxes w 116 #[.int .i64 fr, .int .i64 ca, .int .i64 va, .int .i64 tt] #[.int .i64 fr, .int .i64 ca, .int .i64 va, .int .i64 tt]
  rw [← hW1] at hrows
  have HB0 := Lib.hid hrows.2.2
  have HW1 := Lib.hid hW1
  clear hW1 hrows
  go_enter Try.func114, Try.ntmps114
  go_wp2_with fail
  go_ret
  rw [← HW1.out]
  exact ⟨rfl, HB0.out⟩

set_option maxHeartbeats 1000000 in
set_option maxRecDepth 100000 in
theorem eqTrS_any (xs : List Tr) (A : Option Addr) (cap b off : Nat) (C : Nat → Nat → Value) (A' : Option Addr) (cap' b' off' : Nat) (D : Nat → Nat → Value) (w : World) (hl : xs.length ≤ maxLen)
    (hO : Lay.tr.Opn w w.heap.size xs A b off C) (hO' : Lay.tr.Opn w w.heap.size xs A' b' off' D) :
    Calls Try.prog 69 #[.slice A xs.length cap, .slice A' xs.length cap'] w fun e' w' => e' = .returned (.bool true) ∧ Below w.heap.size w w' := by
  unfold maxLen at hl
  have HO := Lib.hid hO
  have HO' := Lib.hid hO'
  clear hO hO'
  go_enter Try.func69, Try.ntmps69
  go_wp2_with fail
  go_loopw [5] (fun i wl => ∃ j : Nat, j ≤ xs.length ∧ i = .int .i64 j ∧ Hid (Below w.heap.size w wl)) (fun i _ => xs.length - (intOf i).toNat)
  case atStart => exact ⟨0, Nat.zero_le _, rfl, Below.refl _ _⟩
  case round =>
    obtain ⟨j, hj, rfl, HB⟩ := hrel
    by_cases hlt : j < xs.length
    · obtain ⟨x, hx⟩ : ∃ x, xs[j]? = some x := ⟨_, List.getElem?_eq_getElem hlt⟩
      obtain ⟨rfl, hb, gc, gl⟩ := HO.out.below HB.out j x hx
      obtain ⟨rfl, hb', fc, fl⟩ := HO'.out.below HB.out j x hx
      have g0 : wr.cell? ⟨b, off + j * 4, none⟩ = some (C j 0) := gc 0 (by decide)
      have g1 : wr.cell? ⟨b, off + j * 4 + 1, none⟩ = some (C j 1) := gc 1 (by decide)
      have g2 : wr.cell? ⟨b, off + j * 4 + 2, none⟩ = some (C j 2) := gc 2 (by decide)
      have g3 : wr.cell? ⟨b, off + j * 4 + 3, none⟩ = some (C j 3) := gc 3 (by decide)
      have f0 : wr.cell? ⟨b', off' + j * 4, none⟩ = some (D j 0) := fc 0 (by decide)
      have f1 : wr.cell? ⟨b', off' + j * 4 + 1, none⟩ = some (D j 1) := fc 1 (by decide)
      have f2 : wr.cell? ⟨b', off' + j * 4 + 2, none⟩ = some (D j 2) := fc 2 (by decide)
      have f3 : wr.cell? ⟨b', off' + j * 4 + 3, none⟩ = some (D j 3) := fc 3 (by decide)
      have HG := Lib.hid (Lay.tr.later gl (Below.refl _ _).drew HB.out.size)
      have HG' := Lib.hid (Lay.tr.later fl (Below.refl _ _).drew HB.out.size)
      clear gl fl hx gc fc
      go_wp2_with fail
      go_still_tail 8, (by kernel_rfl)
      go_wp2_with fail
      refine (eqTr_any x (C j) (D j) wr.drew HG.out HG'.out).mono ?_
      rintro e' w1 ⟨rfl, hb1⟩
      have HB1 : Hid (Below w.heap.size w w1) := HB.out.drew.trans (hb1.mono HB.out.size)
      clear hb1 HB HG HG' g0 f0 g1 f1 g2 f2 g3 f3
      go_wp2_with fail
      go_roundw
      case rel => exact ⟨j + 1, by omega, by go_num, HB1⟩
      case measure => simp [intOf]; omega
    · go_wp2_with fail
      go_ret
      exact ⟨rfl, HB.out⟩

end Go.Proofs.Ytldnegacgjijlaa
