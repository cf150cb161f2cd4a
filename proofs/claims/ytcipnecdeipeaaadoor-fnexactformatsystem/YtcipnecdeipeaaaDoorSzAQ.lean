/- The sizes of edges, processes and systems (SzEd, SzPr, SzSy in one). -/
import Derived.Test.YtcipnecdeipeaaaDoorEdQ
import Derived.Test.YtcipnecdeipeaaaDoorJ03
namespace Go.Proofs.YtcipnecdeipeaaaDoor
open Go.RowKit

set_option maxHeartbeats 400000 in
theorem szEdS_any (xs : List Ed) (A : Option Addr) (cap b off : Nat) (D : Nat → Nat → Value) (left : Int) (w : World) (hl : xs.length ≤ maxLen)
    (hO : Lay.ed.Opn w w.heap.size xs A b off D) (h0 : 0 ≤ left) (h1 : left ≤ 1048576) :
    Calls Tryd.prog 32 #[.slice A xs.length cap, .int .i64 left] w fun e' w' => e' = .returned (.int .i64 (room left (Lay.ed.szL xs))) ∧ Below w.heap.size w w' := by
  unfold maxLen at hl
  have HO := Lib.hid hO
  clear hO
  have hlen := Lay.ed.szL_length xs
  by_cases hn : left < xs.length
  · have HR : Hid (room left (Lay.ed.szL xs) = -1) := by show _ = _; unfold room; rw [if_pos (by omega)]
    clear hlen
    go_enter Tryd.func32, Tryd.ntmps32
    go_wp2_with fail
    go_ret
    exact ⟨ret_int HR.out.symm, Below.refl _ _⟩
  · clear hlen
    go_enter Tryd.func32, Tryd.ntmps32
    go_wp2_with fail
    go_loopw [1, 5] (fun l i wl => ∃ (j : Nat) (M : Int), j ≤ xs.length ∧ i = .int .i64 j ∧ l = .int .i64 M ∧ 0 ≤ M ∧ M ≤ 1048576 ∧ Hid (M = left - xs.length + j - Lay.ed.szL (xs.take j)) ∧ Hid (Below w.heap.size w wl)) (fun _ i _ => xs.length - (intOf i).toNat)
    case atStart => exact ⟨0, left - xs.length, Nat.zero_le _, rfl, rfl, by omega, by omega, by show _ = _; simp [Lay.szL], Below.refl _ _⟩
    case round =>
      obtain ⟨j, M, hj, rfl, rfl, hL0, hL1, HL, HB⟩ := hrel
      by_cases hlt : j < xs.length
      · obtain ⟨x, hx⟩ : ∃ x, xs[j]? = some x := ⟨_, List.getElem?_eq_getElem hlt⟩
        obtain ⟨rfl, hb, gc, gl⟩ := HO.out.below HB.out j x hx
        have g0 : wr.cell? ⟨b, off + j * 10, none⟩ = some (D j 0) := gc 0 (by decide)
        have g1 : wr.cell? ⟨b, off + j * 10 + 1, none⟩ = some (D j 1) := gc 1 (by decide)
        have g2 : wr.cell? ⟨b, off + j * 10 + 2, none⟩ = some (D j 2) := gc 2 (by decide)
        have g3 : wr.cell? ⟨b, off + j * 10 + 3, none⟩ = some (D j 3) := gc 3 (by decide)
        have g4 : wr.cell? ⟨b, off + j * 10 + 4, none⟩ = some (D j 4) := gc 4 (by decide)
        have g5 : wr.cell? ⟨b, off + j * 10 + 5, none⟩ = some (D j 5) := gc 5 (by decide)
        have g6 : wr.cell? ⟨b, off + j * 10 + 6, none⟩ = some (D j 6) := gc 6 (by decide)
        have g7 : wr.cell? ⟨b, off + j * 10 + 7, none⟩ = some (D j 7) := gc 7 (by decide)
        have g8 : wr.cell? ⟨b, off + j * 10 + 8, none⟩ = some (D j 8) := gc 8 (by decide)
        have g9 : wr.cell? ⟨b, off + j * 10 + 9, none⟩ = some (D j 9) := gc 9 (by decide)
        have HT := Lib.hid (Lay.ed.szL_take_succ hx)
        have HM := Lib.hid (Lay.ed.szL_take_len xs (j + 1))
        have HG := Lib.hid gl
        clear gl hx gc
        obtain ⟨r, hr⟩ : ∃ r : Int, r = room M (Lay.ed.sz x) := ⟨_, rfl⟩
        have HR := Lib.hid hr
        clear hr
        by_cases hneg : M < Lay.ed.sz x
        · have hr : r < 0 := by rw [HR.out]; unfold room; rw [if_pos hneg]; omega
          have HF : Hid (room left (Lay.ed.szL xs) = -1) := by show _ = _; unfold room; rw [if_pos (by have := HT.out; have := HM.out; have := HL.out; omega)]
          clear hneg
          go_wp2_with fail
          refine (szEd_any x (D j) M _ (Lay.ed.more HG.out HB.out.size) hL0 hL1).mono ?_
          rintro e' w1 ⟨rfl, hb1⟩
          rw [← HR.out]
          have HB1 := Lib.hid (HB.out.trans (hb1.mono HB.out.size))
          clear hb1 HB
          go_wp2_with fail
          go_ret
          exact ⟨ret_int HF.out.symm, HB1.out⟩
        · have hr : 0 ≤ r ∧ r ≤ 1048576 := by rw [HR.out]; unfold room; rw [if_neg hneg]; omega
          obtain ⟨hr0, hr1⟩ := hr
          have HR2 : Hid (r = M - Lay.ed.sz x) := by show _ = _; rw [HR.out]; unfold room; rw [if_neg hneg]
          clear hneg
          go_wp2_with fail
          refine (szEd_any x (D j) M _ (Lay.ed.more HG.out HB.out.size) hL0 hL1).mono ?_
          rintro e' w1 ⟨rfl, hb1⟩
          rw [← HR.out]
          have HB1 := Lib.hid (HB.out.trans (hb1.mono HB.out.size))
          clear hb1 HB
          go_wp2_with fail
          go_roundw
          case rel => exact ⟨j + 1, r, by omega, by go_num, rfl, hr0, hr1, (by show _ = _; rw [HT.out, HR2.out, HL.out]; omega), HB1⟩
          case measure => simp [intOf]; omega
      · have hjj : j = xs.length := by omega
        subst hjj
        have HF : Hid (room left (Lay.ed.szL xs) = M) := by
          show _ = _
          have := HL.out
          rw [List.take_length] at this
          unfold room
          rw [if_neg (by omega)]
          omega
        go_wp2_with fail
        go_ret
        exact ⟨ret_int HF.out.symm, HB.out⟩


set_option maxHeartbeats 400000 in
theorem szPr_any (p : Pr) (C : Nat → Value) (left : Int) (w : World) (hL : Lay.pr.lies w w.heap.size p C) (h0 : 0 ≤ left) (h1 : left ≤ 1048576) :
    Calls Tryd.prog 22 #[.agg #[C 0, C 1], .int .i64 left] w fun e' w' => e' = .returned (.int .i64 (room left (Lay.pr.sz p))) ∧ Below w.heap.size w w' := by
  rw [pr_sz]
  obtain ⟨loc, es⟩ := p
  obtain ⟨e0, A, cap, b, off, D, e1, hl, hO⟩ := pr_lies hL
  rw [e0, e1]
  clear e0 e1 hL
  obtain ⟨W1, hW1⟩ : ∃ W1, W1 = w.alloc (.cells #[.int .i64 loc, .slice A es.length cap] 61) := ⟨_, rfl⟩
  have hb0 : Below w.heap.size w W1 := by rw [hW1]; exact (Below.refl _ _).alloc (Nat.le_refl _) _
  have HO := Lib.hid (hO.grow hb0 hb0.size)
  have HB0 := Lib.hid hb0
  have HW1 := Lib.hid hW1
  have HLn := Lib.hid hl
  obtain ⟨r, hr⟩ : ∃ r, r = room left (Lay.ed.szL es) := ⟨_, rfl⟩
  have hcs := room_cases left (Lay.ed.szL es)
  rw [← hr] at hcs
  have HR := Lib.hid hr
  clear hO hb0 hW1 hl hr
  go_enter Tryd.func22, Tryd.ntmps22
  go_wp2_with fail
  rw [← HW1.out]
  refine (szEdS_any es A cap b off D left _ HLn.out HO.out h0 h1).mono ?_
  rintro e' w1 ⟨rfl, hb1⟩
  rw [← HR.out]
  have HB1 := Lib.hid (HB0.out.trans (hb1.mono HB0.out.size))
  clear hb1
  by_cases hn : r < 0
  · have : r = -1 := by omega
    subst this
    go_wp2_with fail
    go_ret
    exact ⟨ret_int HR.out, HB1.out⟩
  · go_wp2_with fail
    go_ret
    exact ⟨ret_int HR.out, HB1.out⟩

set_option maxHeartbeats 400000 in
theorem szPrS_any (xs : List Pr) (A : Option Addr) (cap b off : Nat) (D : Nat → Nat → Value) (left : Int) (w : World) (hl : xs.length ≤ maxLen)
    (hO : Lay.pr.Opn w w.heap.size xs A b off D) (h0 : 0 ≤ left) (h1 : left ≤ 1048576) :
    Calls Tryd.prog 10 #[.slice A xs.length cap, .int .i64 left] w fun e' w' => e' = .returned (.int .i64 (room left (Lay.pr.szL xs))) ∧ Below w.heap.size w w' := by
  unfold maxLen at hl
  have HO := Lib.hid hO
  clear hO
  have hlen := Lay.pr.szL_length xs
  by_cases hn : left < xs.length
  · have HR : Hid (room left (Lay.pr.szL xs) = -1) := by show _ = _; unfold room; rw [if_pos (by omega)]
    clear hlen
    go_enter Tryd.func10, Tryd.ntmps10
    go_wp2_with fail
    go_ret
    exact ⟨ret_int HR.out.symm, Below.refl _ _⟩
  · clear hlen
    go_enter Tryd.func10, Tryd.ntmps10
    go_wp2_with fail
    go_loopw [1, 5] (fun l i wl => ∃ (j : Nat) (M : Int), j ≤ xs.length ∧ i = .int .i64 j ∧ l = .int .i64 M ∧ 0 ≤ M ∧ M ≤ 1048576 ∧ Hid (M = left - xs.length + j - Lay.pr.szL (xs.take j)) ∧ Hid (Below w.heap.size w wl)) (fun _ i _ => xs.length - (intOf i).toNat)
    case atStart => exact ⟨0, left - xs.length, Nat.zero_le _, rfl, rfl, by omega, by omega, by show _ = _; simp [Lay.szL], Below.refl _ _⟩
    case round =>
      obtain ⟨j, M, hj, rfl, rfl, hL0, hL1, HL, HB⟩ := hrel
      by_cases hlt : j < xs.length
      · obtain ⟨x, hx⟩ : ∃ x, xs[j]? = some x := ⟨_, List.getElem?_eq_getElem hlt⟩
        obtain ⟨rfl, hb, gc, gl⟩ := HO.out.below HB.out j x hx
        have g0 : wr.cell? ⟨b, off + j * 2, none⟩ = some (D j 0) := gc 0 (by decide)
        have g1 : wr.cell? ⟨b, off + j * 2 + 1, none⟩ = some (D j 1) := gc 1 (by decide)
        have HT := Lib.hid (Lay.pr.szL_take_succ hx)
        have HM := Lib.hid (Lay.pr.szL_take_len xs (j + 1))
        have HG := Lib.hid gl
        clear gl hx gc
        obtain ⟨r, hr⟩ : ∃ r : Int, r = room M (Lay.pr.sz x) := ⟨_, rfl⟩
        have HR := Lib.hid hr
        clear hr
        by_cases hneg : M < Lay.pr.sz x
        · have hr : r < 0 := by rw [HR.out]; unfold room; rw [if_pos hneg]; omega
          have HF : Hid (room left (Lay.pr.szL xs) = -1) := by show _ = _; unfold room; rw [if_pos (by have := HT.out; have := HM.out; have := HL.out; omega)]
          clear hneg
          go_wp2_with fail
          refine (szPr_any x (D j) M _ (Lay.pr.more HG.out HB.out.size) hL0 hL1).mono ?_
          rintro e' w1 ⟨rfl, hb1⟩
          rw [← HR.out]
          have HB1 := Lib.hid (HB.out.trans (hb1.mono HB.out.size))
          clear hb1 HB
          go_wp2_with fail
          go_ret
          exact ⟨ret_int HF.out.symm, HB1.out⟩
        · have hr : 0 ≤ r ∧ r ≤ 1048576 := by rw [HR.out]; unfold room; rw [if_neg hneg]; omega
          obtain ⟨hr0, hr1⟩ := hr
          have HR2 : Hid (r = M - Lay.pr.sz x) := by show _ = _; rw [HR.out]; unfold room; rw [if_neg hneg]
          clear hneg
          go_wp2_with fail
          refine (szPr_any x (D j) M _ (Lay.pr.more HG.out HB.out.size) hL0 hL1).mono ?_
          rintro e' w1 ⟨rfl, hb1⟩
          rw [← HR.out]
          have HB1 := Lib.hid (HB.out.trans (hb1.mono HB.out.size))
          clear hb1 HB
          go_wp2_with fail
          go_roundw
          case rel => exact ⟨j + 1, r, by omega, by go_num, rfl, hr0, hr1, (by show _ = _; rw [HT.out, HR2.out, HL.out]; omega), HB1⟩
          case measure => simp [intOf]; omega
      · have hjj : j = xs.length := by omega
        subst hjj
        have HF : Hid (room left (Lay.pr.szL xs) = M) := by
          show _ = _
          have := HL.out
          rw [List.take_length] at this
          unfold room
          rw [if_neg (by omega)]
          omega
        go_wp2_with fail
        go_ret
        exact ⟨ret_int HF.out.symm, HB.out⟩


set_option maxHeartbeats 400000 in
theorem szSy_any (s : Sy) (C : Nat → Value) (left : Int) (w : World) (hL : Lay.sy.lies w w.heap.size s C) (h0 : 0 ≤ left) (h1 : left ≤ 1048576) :
    Calls Tryd.prog 4 #[.agg #[C 0, C 1], .int .i64 left] w fun e' w' => e' = .returned (.int .i64 (room left (Lay.sy.sz s))) ∧ Below w.heap.size w w' := by
  rw [sy_sz, int_szL]
  obtain ⟨ini, ps⟩ := s
  obtain ⟨⟨A, cap, b, off, D, e0, hl, hO⟩, A', cap', b', off', D', e1, hl', hO'⟩ := sy_lies hL
  rw [e0, e1]
  clear e0 e1 hL hO
  dsimp only
  obtain ⟨W1, hW1⟩ : ∃ W1, W1 = w.alloc (.cells #[.slice A ini.length cap, .slice A' ps.length cap'] 25) := ⟨_, rfl⟩
  have hb0 : Below w.heap.size w W1 := by rw [hW1]; exact (Below.refl _ _).alloc (Nat.le_refl _) _
  have HRw : Hid (Row W1 w.heap.size 25 #[.slice A ini.length cap, .slice A' ps.length cap']) := by rw [hW1]; exact Row.new _ _ _
  have HO := Lib.hid (hO'.grow hb0 hb0.size)
  have HB0 := Lib.hid hb0
  have HW1 := Lib.hid hW1
  have HLn := Lib.hid hl
  have HLn' := Lib.hid hl'
  have HDd := Lib.hid (room_add (left := left) (a := ini.length) (b := Lay.pr.szL ps))
  have HN := Lib.hid (room_neg (left := left) (a := ini.length) (b := Lay.pr.szL ps))
  have hle : room left ini.length ≤ left := room_le h0
  have hcs := room_cases left ini.length
  obtain ⟨r, hr⟩ : ∃ r, r = room left ini.length := ⟨_, rfl⟩
  rw [← hr] at hle hcs
  have HRr := Lib.hid hr
  clear hO' hb0 hW1 hl hl' hr
  go_enter Tryd.func4, Tryd.ntmps4
  go_wp2_with fail
  rw [← HW1.out]
  refine (szInts_any A ini.length cap left _ HLn.out h0 h1).mono ?_
  rintro e' w1 ⟨rfl, rfl⟩
  rw [← HRr.out]
  by_cases hn : r < 0
  · go_wp2_with fail
    go_ret
    exact ⟨ret_int (by rw [HN.out (by rw [← HRr.out]; exact hn) h0]), HB0.out⟩
  · have hr0 : 0 ≤ r := by omega
    obtain ⟨g0, g1⟩ := HRw.out.two
    obtain ⟨s, hs⟩ : ∃ s, s = room r (Lay.pr.szL ps) := ⟨_, rfl⟩
    have hs2 := room_cases r (Lay.pr.szL ps)
    rw [← hs] at hs2
    have HS := Lib.hid hs
    clear hs g0
    go_wp2_with fail
    refine (szPrS_any ps A' cap' b' off' D' r _ HLn'.out HO.out hr0 (by omega)).mono ?_
    rintro e' w2 ⟨rfl, hb2⟩
    rw [← HS.out]
    have HBf := Lib.hid (HB0.out.trans (hb2.mono HB0.out.size))
    have HE : Hid (room left (ini.length + Lay.pr.szL ps) = s) := by
      show _ = _
      rw [← HDd.out (by rw [← HRr.out]; exact hr0), ← HRr.out, ← HS.out]
    clear hb2 g1
    by_cases hn2 : s < 0
    · have : s = -1 := by omega
      subst this
      go_wp2_with fail
      go_ret
      exact ⟨ret_int HE.out.symm, HBf.out⟩
    · go_wp2_with fail
      go_ret
      exact ⟨ret_int HE.out.symm, HBf.out⟩

end Go.Proofs.YtcipnecdeipeaaaDoor
