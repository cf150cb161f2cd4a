/- The walks of laws.szExpr and laws.szExprS: the room that is left, or -1. -/
import Derived.Test.YtcipnecdeipeaaaDoorBs
import Derived.Lib.Hide
namespace Go.Proofs.YtcipnecdeipeaaaDoor
open Go.RowKit

def SzSaid (e : Ex) : Prop := ∀ (left : Int) (c0 c1 c2 : Value) (w : World), Lies w w.heap.size e c0 c1 c2 → 0 ≤ left → left ≤ 1048576 →
    Calls Tryd.prog 53 #[.agg #[c0, c1, c2], .int .i64 left] w fun e' w' => e' = .returned (.int .i64 (room left (desc e))) ∧ Below w.heap.size w w'

set_option maxHeartbeats 400000 in
theorem szS_any (kids : List Ex) (ih : ∀ (i : Nat) (x : Ex), kids[i]? = some x → SzSaid x) (left : Int) (A : Option Addr) (cap b off : Nat) (C0 C1 C2 : Nat → Value) (w : World) (hl : kids.length ≤ maxLen)
    (hO : Opened w w.heap.size kids A b off C0 C1 C2) (h0 : 0 ≤ left) (h1 : left ≤ 1048576) :
    Calls Tryd.prog 64 #[.slice A kids.length cap, .int .i64 left] w fun e' w' => e' = .returned (.int .i64 (room left (descL kids))) ∧ Below w.heap.size w w' := by
  unfold maxLen at hl
  have HIH := Lib.hid ih
  have HO := Lib.hid hO
  clear ih hO
  have hlen := descL_length kids
  by_cases hn : left < kids.length
  · have HR : Hid (room left (descL kids) = -1) := by show _ = _; unfold room; rw [if_pos (by omega)]
    go_enter Tryd.func64, Tryd.ntmps64
    go_wp2_with fail
    go_ret
    exact ⟨ret_int HR.out.symm, Below.refl _ _⟩
  · go_enter Tryd.func64, Tryd.ntmps64
    go_wp2_with fail
    go_loopw [1, 5] (fun l i wl => ∃ (j : Nat) (L : Int), j ≤ kids.length ∧ i = .int .i64 j ∧ l = .int .i64 L ∧ 0 ≤ L ∧ L ≤ 1048576 ∧ Hid (L = left - kids.length + j - descL (kids.take j)) ∧ Hid (Below w.heap.size w wl)) (fun _ i _ => kids.length - (intOf i).toNat)
    case atStart => exact ⟨0, left - kids.length, Nat.zero_le _, rfl, rfl, by omega, by omega, by show _ = _; simp [descL], Below.refl _ _⟩
    case round =>
      obtain ⟨j, L, hj, rfl, rfl, hL0, hL1, HL, HB⟩ := hrel
      by_cases hlt : j < kids.length
      · obtain ⟨x, hx⟩ : ∃ x, kids[j]? = some x := ⟨_, List.getElem?_eq_getElem hlt⟩
        obtain ⟨rfl, hb, g0, g1, g2, gl⟩ := HO.out.below HB.out j x hx
        have HT := Lib.hid (descL_take_succ hx)
        have HM := Lib.hid (descL_take_len kids (j + 1))
        have HG := Lib.hid gl
        have HX := Lib.hid hx
        clear gl hx
        obtain ⟨r, hr⟩ : ∃ r : Int, r = room L (desc x) := ⟨_, rfl⟩
        have HR := Lib.hid hr
        clear hr
        by_cases hneg : L < desc x
        · have hr : r < 0 := by rw [HR.out]; unfold room; rw [if_pos hneg]; omega
          have HF : Hid (room left (descL kids) = -1) := by show _ = _; unfold room; rw [if_pos (by have := HT.out; have := HM.out; have := HL.out; omega)]
          go_wp2_with fail
          refine (HIH.out j x HX.out L _ _ _ _ (HG.out.more HB.out.size) hL0 hL1).mono ?_
          rintro e' w1 ⟨rfl, hb1⟩
          rw [← HR.out]
          have HB1 := Lib.hid (HB.out.trans (hb1.mono HB.out.size))
          clear hb1 HB
          go_wp2_with fail
          go_ret
          exact ⟨ret_int HF.out.symm, HB1.out⟩
        · have hr : 0 ≤ r ∧ r ≤ 1048576 := by rw [HR.out]; unfold room; rw [if_neg hneg]; omega
          obtain ⟨hr0, hr1⟩ := hr
          have HR2 : Hid (r = L - desc x) := by show _ = _; rw [HR.out]; unfold room; rw [if_neg hneg]
          go_wp2_with fail
          refine (HIH.out j x HX.out L _ _ _ _ (HG.out.more HB.out.size) hL0 hL1).mono ?_
          rintro e' w1 ⟨rfl, hb1⟩
          rw [← HR.out]
          have HB1 := Lib.hid (HB.out.trans (hb1.mono HB.out.size))
          clear hb1 HB
          go_wp2_with fail
          go_roundw
          case rel => exact ⟨j + 1, r, by omega, by go_num, rfl, hr0, hr1, (by show _ = _; rw [HT.out, HR2.out, HL.out]; omega), HB1⟩
          case measure => simp [intOf]; omega
      · have hjj : j = kids.length := by omega
        subst hjj
        have HF : Hid (room left (descL kids) = L) := by
          show _ = _
          have := HL.out
          rw [List.take_length] at this
          unfold room
          rw [if_neg (by omega)]
          omega
        go_wp2_with fail
        go_ret
        exact ⟨ret_int HF.out.symm, HB.out⟩

set_option maxHeartbeats 400000 in
theorem sz_any : ∀ e : Ex, SzSaid e := by
  intro e
  induction e using Ex.ind with
  | h k v kids ih =>
    intro left c0 c1 c2 w hL h0 h1
    obtain ⟨A, cap, b, off, C0, C1, C2, rfl, rfl, rfl, hl, hO⟩ := hL.open_
    have HIH := Lib.hid ih
    have HO := Lib.hid hO
    have HLn := Lib.hid hl
    clear ih hL hO hl
    obtain ⟨r, hr⟩ : ∃ r : Int, r = room left (descL kids) := ⟨_, rfl⟩
    have HR := Lib.hid hr
    have hr1 : r = -1 ∨ 0 ≤ r := by rw [hr]; unfold room; split <;> omega
    clear hr
    go_enter Tryd.func53, Tryd.ntmps53
    go_wp2_with fail
    refine (szS_any kids HIH.out left A cap b off C0 C1 C2 (w.alloc (.cells #[.int .i64 k, .int .i64 v, .slice A kids.length cap] 75)) HLn.out (HO.out.grow ((Below.refl _ w).alloc (Nat.le_refl _) _) (by simp)) h0 h1).mono ?_
    rintro e' w1 ⟨rfl, hb1⟩
    rw [← HR.out]
    have HB1 := Lib.hid (boxed (hb1.mono (by simp)))
    clear hb1
    by_cases hn : r < 0
    · go_wp2_with fail
      go_ret
      exact ⟨ret_int (by simp only [desc]; rw [← HR.out]; omega), HB1.out⟩
    · go_wp2_with fail
      go_ret
      exact ⟨ret_int (by simp only [desc]; exact HR.out), HB1.out⟩

end Go.Proofs.YtcipnecdeipeaaaDoor
