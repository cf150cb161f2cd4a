/- The walks of laws.szStateS, laws.szIntSS and laws.szGraph. -/
import Derived.Test.YtldnegacgjijlaaJ03
namespace Go.Proofs.Ytldnegacgjijlaa
open Go.RowKit

set_option maxHeartbeats 400000 in
theorem szStS_any (xs : List St) (A : Option Addr) (cap b off : Nat) (D : Nat → Nat → Value) (left : Int) (w : World) (hl : xs.length ≤ maxLen)
    (hO : Lay.sta.Opn w w.heap.size xs A b off D) (h0 : 0 ≤ left) (h1 : left ≤ 1048576) :
    Calls Try.prog 72 #[.slice A xs.length cap, .int .i64 left] w fun e' w' => e' = .returned (.int .i64 (room left (Lay.sta.szL xs))) ∧ Below w.heap.size w w' := by
  unfold maxLen at hl
  have HO := Lib.hid hO
  clear hO
  have hlen := Lay.sta.szL_length xs
  by_cases hn : left < xs.length
  · have HR : Hid (room left (Lay.sta.szL xs) = -1) := by show _ = _; unfold room; rw [if_pos (by omega)]
    clear hlen
    go_enter Try.func72, Try.ntmps72
    go_wp2_with fail
    go_ret
    exact ⟨ret_int HR.out.symm, Below.refl _ _⟩
  · clear hlen
    go_enter Try.func72, Try.ntmps72
    go_wp2_with fail
    go_loopw [1, 5] (fun l i wl => ∃ (j : Nat) (M : Int), j ≤ xs.length ∧ i = .int .i64 j ∧ l = .int .i64 M ∧ 0 ≤ M ∧ M ≤ 1048576 ∧ Hid (M = left - xs.length + j - Lay.sta.szL (xs.take j)) ∧ Hid (Below w.heap.size w wl)) (fun _ i _ => xs.length - (intOf i).toNat)
    case atStart => exact ⟨0, left - xs.length, Nat.zero_le _, rfl, rfl, by omega, by omega, by show _ = _; simp [Lay.szL], Below.refl _ _⟩
    case round =>
      obtain ⟨j, M, hj, rfl, rfl, hL0, hL1, HL, HB⟩ := hrel
      by_cases hlt : j < xs.length
      · obtain ⟨x, hx⟩ : ∃ x, xs[j]? = some x := ⟨_, List.getElem?_eq_getElem hlt⟩
        obtain ⟨rfl, hb, gc, gl⟩ := HO.out.below HB.out j x hx
        have g0 : wr.cell? ⟨b, off + j * 2, none⟩ = some (D j 0) := gc 0 (by decide)
        have g1 : wr.cell? ⟨b, off + j * 2 + 1, none⟩ = some (D j 1) := gc 1 (by decide)
        have HT := Lib.hid (Lay.sta.szL_take_succ hx)
        have HM := Lib.hid (Lay.sta.szL_take_len xs (j + 1))
        have HG := Lib.hid gl
        clear gl hx gc
        obtain ⟨r, hr⟩ : ∃ r : Int, r = room M (Lay.sta.sz x) := ⟨_, rfl⟩
        have HR := Lib.hid hr
        clear hr
        by_cases hneg : M < Lay.sta.sz x
        · have hr : r < 0 := by rw [HR.out]; unfold room; rw [if_pos hneg]; omega
          have HF : Hid (room left (Lay.sta.szL xs) = -1) := by show _ = _; unfold room; rw [if_pos (by have := HT.out; have := HM.out; have := HL.out; omega)]
          clear hneg
          go_wp2_with fail
          refine (szSt_any x (D j) M _ (Lay.sta.more HG.out HB.out.size) hL0 hL1).mono ?_
          rintro e' w1 ⟨rfl, hb1⟩
          rw [← HR.out]
          have HB1 := Lib.hid (HB.out.trans (hb1.mono HB.out.size))
          clear hb1 HB
          go_wp2_with fail
          go_ret
          exact ⟨ret_int HF.out.symm, HB1.out⟩
        · have hr : 0 ≤ r ∧ r ≤ 1048576 := by rw [HR.out]; unfold room; rw [if_neg hneg]; omega
          obtain ⟨hr0, hr1⟩ := hr
          have HR2 : Hid (r = M - Lay.sta.sz x) := by show _ = _; rw [HR.out]; unfold room; rw [if_neg hneg]
          clear hneg
          go_wp2_with fail
          refine (szSt_any x (D j) M _ (Lay.sta.more HG.out HB.out.size) hL0 hL1).mono ?_
          rintro e' w1 ⟨rfl, hb1⟩
          rw [← HR.out]
          have HB1 := Lib.hid (HB.out.trans (hb1.mono HB.out.size))
          clear hb1 HB
          go_wp2_with fail
          go_roundw
          case rel => exact ⟨j + 1, r, by omega, by go_num, rfl, hr0, hr1, (by show _ = _; rw [HT.out, HR2.out, HL.out]; omega), HB1⟩
          case measure => simp [intOf]; omega
      · have hjj : j = xs.length := by omega
        subst hjj
        have HF : Hid (room left (Lay.sta.szL xs) = M) := by
          show _ = _
          have := HL.out
          rw [List.take_length] at this
          unfold room
          rw [if_neg (by omega)]
          omega
        go_wp2_with fail
        go_ret
        exact ⟨ret_int HF.out.symm, HB.out⟩

set_option maxHeartbeats 400000 in
theorem szIsS_any (xs : List (List Int)) (A : Option Addr) (cap b off : Nat) (D : Nat → Nat → Value) (left : Int) (w : World) (hl : xs.length ≤ maxLen)
    (hO : Lay.ints.Opn w w.heap.size xs A b off D) (h0 : 0 ≤ left) (h1 : left ≤ 1048576) :
    Calls Try.prog 73 #[.slice A xs.length cap, .int .i64 left] w fun e' w' => e' = .returned (.int .i64 (room left (Lay.ints.szL xs))) ∧ Below w.heap.size w w' := by
  unfold maxLen at hl
  have HO := Lib.hid hO
  clear hO
  have hlen := Lay.ints.szL_length xs
  by_cases hn : left < xs.length
  · have HR : Hid (room left (Lay.ints.szL xs) = -1) := by show _ = _; unfold room; rw [if_pos (by omega)]
    clear hlen
    go_enter Try.func73, Try.ntmps73
    go_wp2_with fail
    go_ret
    exact ⟨ret_int HR.out.symm, Below.refl _ _⟩
  · clear hlen
    go_enter Try.func73, Try.ntmps73
    go_wp2_with fail
    go_loopw [1, 5] (fun l i wl => ∃ (j : Nat) (M : Int), j ≤ xs.length ∧ i = .int .i64 j ∧ l = .int .i64 M ∧ 0 ≤ M ∧ M ≤ 1048576 ∧ Hid (M = left - xs.length + j - Lay.ints.szL (xs.take j)) ∧ Hid (Below w.heap.size w wl)) (fun _ i _ => xs.length - (intOf i).toNat)
    case atStart => exact ⟨0, left - xs.length, Nat.zero_le _, rfl, rfl, by omega, by omega, by show _ = _; simp [Lay.szL], Below.refl _ _⟩
    case round =>
      obtain ⟨j, M, hj, rfl, rfl, hL0, hL1, HL, HB⟩ := hrel
      by_cases hlt : j < xs.length
      · obtain ⟨x, hx⟩ : ∃ x, xs[j]? = some x := ⟨_, List.getElem?_eq_getElem hlt⟩
        obtain ⟨rfl, hb, gc, gl⟩ := HO.out.below HB.out j x hx
        have g0 : wr.cell? ⟨b, off + j, none⟩ = some (D j 0) := by have h := gc 0 (by decide); rw [show Lay.ints.st = 1 from rfl, Nat.mul_one] at h; exact h
        have HT := Lib.hid (Lay.ints.szL_take_succ hx)
        have HM := Lib.hid (Lay.ints.szL_take_len xs (j + 1))
        have HG := Lib.hid gl
        clear gl hx gc
        obtain ⟨r, hr⟩ : ∃ r : Int, r = room M (Lay.ints.sz x) := ⟨_, rfl⟩
        have HR := Lib.hid hr
        clear hr
        by_cases hneg : M < Lay.ints.sz x
        · have hr : r < 0 := by rw [HR.out]; unfold room; rw [if_pos hneg]; omega
          have HF : Hid (room left (Lay.ints.szL xs) = -1) := by show _ = _; unfold room; rw [if_pos (by have := HT.out; have := HM.out; have := HL.out; omega)]
          clear hneg
          go_wp2_with fail
          refine (szIs_any x (D j) M _ (Lay.ints.more HG.out HB.out.size) hL0 hL1).mono ?_
          rintro e' w1 ⟨rfl, hb1⟩
          rw [← HR.out]
          have HB1 := Lib.hid (HB.out.trans (hb1.mono HB.out.size))
          clear hb1 HB
          go_wp2_with fail
          go_ret
          exact ⟨ret_int HF.out.symm, HB1.out⟩
        · have hr : 0 ≤ r ∧ r ≤ 1048576 := by rw [HR.out]; unfold room; rw [if_neg hneg]; omega
          obtain ⟨hr0, hr1⟩ := hr
          have HR2 : Hid (r = M - Lay.ints.sz x) := by show _ = _; rw [HR.out]; unfold room; rw [if_neg hneg]
          clear hneg
          go_wp2_with fail
          refine (szIs_any x (D j) M _ (Lay.ints.more HG.out HB.out.size) hL0 hL1).mono ?_
          rintro e' w1 ⟨rfl, hb1⟩
          rw [← HR.out]
          have HB1 := Lib.hid (HB.out.trans (hb1.mono HB.out.size))
          clear hb1 HB
          go_wp2_with fail
          go_roundw
          case rel => exact ⟨j + 1, r, by omega, by go_num, rfl, hr0, hr1, (by show _ = _; rw [HT.out, HR2.out, HL.out]; omega), HB1⟩
          case measure => simp [intOf]; omega
      · have hjj : j = xs.length := by omega
        subst hjj
        have HF : Hid (room left (Lay.ints.szL xs) = M) := by
          show _ = _
          have := HL.out
          rw [List.take_length] at this
          unfold room
          rw [if_neg (by omega)]
          omega
        go_wp2_with fail
        go_ret
        exact ⟨ret_int HF.out.symm, HB.out⟩

set_option maxHeartbeats 400000 in
theorem szGr_any (s : Gp) (C : Nat → Value) (left : Int) (w : World) (hL : Lay.gra.lies w w.heap.size s C) (h0 : 0 ≤ left) (h1 : left ≤ 1048576) :
    Calls Try.prog 27 #[.agg #[C 0, C 1], .int .i64 left] w fun e' w' => e' = .returned (.int .i64 (room left (Lay.gra.sz s))) ∧ Below w.heap.size w w' := by
  rw [gra_sz]
  obtain ⟨ini, ps⟩ := s
  obtain ⟨⟨A, cap, b, off, D, e0, hl, hO⟩, A', cap', b', off', D', e1, hl', hO'⟩ := gra_lies hL
  rw [e0, e1]
  clear e0 e1 hL
  dsimp only
  obtain ⟨W1, hW1⟩ : ∃ W1, W1 = w.alloc (.cells #[.slice A ini.length cap, .slice A' ps.length cap'] 61) := ⟨_, rfl⟩
  have hb0 : Below w.heap.size w W1 := by rw [hW1]; exact (Below.refl _ _).alloc (Nat.le_refl _) _
  have HRw : Hid (Row W1 w.heap.size 61 #[.slice A ini.length cap, .slice A' ps.length cap']) := by rw [hW1]; exact Row.new _ _ _
  have HO := Lib.hid (hO'.grow hb0 hb0.size)
  have HP := Lib.hid (hO.grow hb0 hb0.size)
  have HB0 := Lib.hid hb0
  have HW1 := Lib.hid hW1
  have HLn := Lib.hid hl
  have HLn' := Lib.hid hl'
  have HDd := Lib.hid (room_add (left := left) (a := Lay.sta.szL ini) (b := Lay.ints.szL ps))
  have HN := Lib.hid (room_neg (left := left) (a := Lay.sta.szL ini) (b := Lay.ints.szL ps))
  have hle : room left (Lay.sta.szL ini) ≤ left := room_le h0
  have hcs := room_cases left (Lay.sta.szL ini)
  obtain ⟨r, hr⟩ : ∃ r, r = room left (Lay.sta.szL ini) := ⟨_, rfl⟩
  rw [← hr] at hle hcs
  have HRr := Lib.hid hr
  clear hO hO' hb0 hW1 hl hl' hr
  go_enter Try.func27, Try.ntmps27
  go_wp2_with fail
  rw [← HW1.out]
  refine (szStS_any ini A cap b off D left _ HLn.out HP.out h0 h1).mono ?_
  rintro e' w1 ⟨rfl, hb1⟩
  rw [← HRr.out]
  have HB1 := Lib.hid (HB0.out.trans (hb1.mono HB0.out.size))
  have HO1 := Lib.hid (HO.out.grow hb1 hb1.size)
  have HRw1 := Lib.hid (HRw.out.under hb1 HRw.out.lt)
  clear hb1 HO HP HRw
  by_cases hn : r < 0
  · go_wp2_with fail
    go_ret
    exact ⟨ret_int (by rw [HN.out (by rw [← HRr.out]; exact hn) h0]), HB1.out⟩
  · have hr0 : 0 ≤ r := by omega
    obtain ⟨g0, g1⟩ := HRw1.out.two
    obtain ⟨s, hs⟩ : ∃ s, s = room r (Lay.ints.szL ps) := ⟨_, rfl⟩
    have hs2 := room_cases r (Lay.ints.szL ps)
    rw [← hs] at hs2
    have HS := Lib.hid hs
    clear hs g0
    go_wp2_with fail
    refine (szIsS_any ps A' cap' b' off' D' r _ HLn'.out HO1.out hr0 (by omega)).mono ?_
    rintro e' w2 ⟨rfl, hb2⟩
    rw [← HS.out]
    have HBf := Lib.hid (HB1.out.trans (hb2.mono HB1.out.size))
    have HE : Hid (room left (Lay.sta.szL ini + Lay.ints.szL ps) = s) := by
      show _ = _
      rw [← HDd.out (by rw [← HRr.out]; exact hr0), ← HRr.out, ← HS.out]
    clear hb2 g1
    by_cases hn2 : s < 0
    · have : s = -1 := by omega
      subst this
      go_wp2_with fail
      go_ret
      exact ⟨ret_int HE.out.symm, HBf.out⟩
    · go_wp2_with fail
      go_ret
      exact ⟨ret_int HE.out.symm, HBf.out⟩


end Go.Proofs.Ytldnegacgjijlaa
