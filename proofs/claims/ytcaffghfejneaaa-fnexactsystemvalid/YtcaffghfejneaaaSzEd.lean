/- The walk of laws.szEdgeS. -/
import Derived.Test.YtcaffghfejneaaaEd
namespace Go.Proofs.Ytcaffghfejneaaa
open Go.RowKit

set_option maxHeartbeats 400000 in
theorem szEdS_any (xs : List Ed) (A : Option Addr) (cap b off : Nat) (D : Nat → Nat → Value) (left : Int) (w : World) (hl : xs.length ≤ maxLen)
    (hO : Lay.ed.Opn w w.heap.size xs A b off D) (h0 : 0 ≤ left) (h1 : left ≤ 1048576) :
    Calls Try.prog 58 #[.slice A xs.length cap, .int .i64 left] w fun e' w' => e' = .returned (.int .i64 (room left (Lay.ed.szL xs))) ∧ Below w.heap.size w w' := by
  unfold maxLen at hl
  have HO := Lib.hid hO
  clear hO
  have hlen := Lay.ed.szL_length xs
  by_cases hn : left < xs.length
  · have HR : Hid (room left (Lay.ed.szL xs) = -1) := by show _ = _; unfold room; rw [if_pos (by omega)]
    clear hlen
    go_enter Try.func58, Try.ntmps58
    go_wp2_with fail
    go_ret
    exact ⟨ret_int HR.out.symm, Below.refl _ _⟩
  · clear hlen
    go_enter Try.func58, Try.ntmps58
    go_wp2_with fail
    go_loopw [1, 5] (fun l i wl => ∃ (j : Nat) (M : Int), j ≤ xs.length ∧ i = .int .i64 j ∧ l = .int .i64 M ∧ 0 ≤ M ∧ M ≤ 1048576 ∧ Hid (M = left - xs.length + j - Lay.ed.szL (xs.take j)) ∧ Hid (Below w.heap.size w wl)) (fun _ i _ => xs.length - (intOf i).toNat)
    case atStart => exact ⟨0, left - xs.length, Nat.zero_le _, rfl, rfl, by omega, by omega, by show _ = _; simp [Lay.szL], Below.refl _ _⟩
    case round =>
      obtain ⟨j, M, hj, rfl, rfl, hL0, hL1, HL, HB⟩ := hrel
      by_cases hlt : j < xs.length
      · obtain ⟨x, hx⟩ : ∃ x, xs[j]? = some x := ⟨_, List.getElem?_eq_getElem hlt⟩
        obtain ⟨rfl, hb, gc, gl⟩ := HO.out.below HB.out j x hx
        have g0 : wr.cell? ⟨b, off + j * 10, none⟩ = some (D j 0) := gc 0 (by decide)
        have g1 : wr.cell? ⟨b, off + j * 10 + 1, none⟩ = some (D j 1) := gc 1 (by decide)
        have g2 : wr.cell? ⟨b, off + j * 10 + 2, none⟩ = some (D j 2) := gc 2 (by decide)
        have g3 : wr.cell? ⟨b, off + j * 10 + 3, none⟩ = some (D j 3) := gc 3 (by decide)
        have g4 : wr.cell? ⟨b, off + j * 10 + 4, none⟩ = some (D j 4) := gc 4 (by decide)
        have g5 : wr.cell? ⟨b, off + j * 10 + 5, none⟩ = some (D j 5) := gc 5 (by decide)
        have g6 : wr.cell? ⟨b, off + j * 10 + 6, none⟩ = some (D j 6) := gc 6 (by decide)
        have g7 : wr.cell? ⟨b, off + j * 10 + 7, none⟩ = some (D j 7) := gc 7 (by decide)
        have g8 : wr.cell? ⟨b, off + j * 10 + 8, none⟩ = some (D j 8) := gc 8 (by decide)
        have g9 : wr.cell? ⟨b, off + j * 10 + 9, none⟩ = some (D j 9) := gc 9 (by decide)
        have HT := Lib.hid (Lay.ed.szL_take_succ hx)
        have HM := Lib.hid (Lay.ed.szL_take_len xs (j + 1))
        have HG := Lib.hid gl
        clear gl hx gc
        obtain ⟨r, hr⟩ : ∃ r : Int, r = room M (Lay.ed.sz x) := ⟨_, rfl⟩
        have HR := Lib.hid hr
        clear hr
        by_cases hneg : M < Lay.ed.sz x
        · have hr : r < 0 := by rw [HR.out]; unfold room; rw [if_pos hneg]; omega
          have HF : Hid (room left (Lay.ed.szL xs) = -1) := by show _ = _; unfold room; rw [if_pos (by have := HT.out; have := HM.out; have := HL.out; omega)]
          clear hneg
          go_wp2_with fail
          refine (szEd_any x (D j) M _ (Lay.ed.more HG.out HB.out.size) hL0 hL1).mono ?_
          rintro e' w1 ⟨rfl, hb1⟩
          rw [← HR.out]
          have HB1 := Lib.hid (HB.out.trans (hb1.mono HB.out.size))
          clear hb1 HB
          go_wp2_with fail
          go_ret
          exact ⟨ret_int HF.out.symm, HB1.out⟩
        · have hr : 0 ≤ r ∧ r ≤ 1048576 := by rw [HR.out]; unfold room; rw [if_neg hneg]; omega
          obtain ⟨hr0, hr1⟩ := hr
          have HR2 : Hid (r = M - Lay.ed.sz x) := by show _ = _; rw [HR.out]; unfold room; rw [if_neg hneg]
          clear hneg
          go_wp2_with fail
          refine (szEd_any x (D j) M _ (Lay.ed.more HG.out HB.out.size) hL0 hL1).mono ?_
          rintro e' w1 ⟨rfl, hb1⟩
          rw [← HR.out]
          have HB1 := Lib.hid (HB.out.trans (hb1.mono HB.out.size))
          clear hb1 HB
          go_wp2_with fail
          go_roundw
          case rel => exact ⟨j + 1, r, by omega, by go_num, rfl, hr0, hr1, (by show _ = _; rw [HT.out, HR2.out, HL.out]; omega), HB1⟩
          case measure => simp [intOf]; omega
      · have hjj : j = xs.length := by omega
        subst hjj
        have HF : Hid (room left (Lay.ed.szL xs) = M) := by
          show _ = _
          have := HL.out
          rw [List.take_length] at this
          unfold room
          rw [if_neg (by omega)]
          omega
        go_wp2_with fail
        go_ret
        exact ⟨ret_int HF.out.symm, HB.out⟩

end Go.Proofs.Ytcaffghfejneaaa
