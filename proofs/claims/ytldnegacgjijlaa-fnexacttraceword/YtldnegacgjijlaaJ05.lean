/- Joined texts: W3, Lay, OpenX, W6. Nothing is assumed. -/
import Derived.Test.YtldnegacgjijlaaBsQ
import Derived.Lib.Hide
import Derived.Test.YtldnegacgjijlaaLayBQ
import Derived.Test.YtldnegacgjijlaaT1Q
import Derived.Test.YtldnegacgjijlaaJ04
import Derived.Test.YtldnegacgjijlaaJ01
import Derived.StillTailTactics
namespace Go.Proofs.Ytldnegacgjijlaa
open Go.RowKit

def SzSaid (e : Ex) : Prop := ∀ (left : Int) (c0 c1 c2 : Value) (w : World), Lies w w.heap.size e c0 c1 c2 → 0 ≤ left → left ≤ 1048576 →
    Calls Try.prog 74 #[.agg #[c0, c1, c2], .int .i64 left] w fun e' w' => e' = .returned (.int .i64 (room left (desc e))) ∧ Below w.heap.size w w'

set_option maxHeartbeats 400000 in
theorem szS_any (kids : List Ex) (ih : ∀ (i : Nat) (x : Ex), kids[i]? = some x → SzSaid x) (left : Int) (A : Option Addr) (cap b off : Nat) (C0 C1 C2 : Nat → Value) (w : World) (hl : kids.length ≤ maxLen)
    (hO : Opened w w.heap.size kids A b off C0 C1 C2) (h0 : 0 ≤ left) (h1 : left ≤ 1048576) :
    Calls Try.prog 28 #[.slice A kids.length cap, .int .i64 left] w fun e' w' => e' = .returned (.int .i64 (room left (descL kids))) ∧ Below w.heap.size w w' := by
  unfold maxLen at hl
  have HIH := Lib.hid ih
  have HO := Lib.hid hO
  clear ih hO
  have hlen := descL_length kids
  by_cases hn : left < kids.length
  · have HR : Hid (room left (descL kids) = -1) := by show _ = _; unfold room; rw [if_pos (by omega)]
    go_enter Try.func28, Try.ntmps28
    go_wp2_with fail
    go_ret
    exact ⟨ret_int HR.out.symm, Below.refl _ _⟩
  · go_enter Try.func28, Try.ntmps28
    go_wp2_with fail
    go_loopw [1, 5] (fun l i wl => ∃ (j : Nat) (L : Int), j ≤ kids.length ∧ i = .int .i64 j ∧ l = .int .i64 L ∧ 0 ≤ L ∧ L ≤ 1048576 ∧ Hid (L = left - kids.length + j - descL (kids.take j)) ∧ Hid (Below w.heap.size w wl)) (fun _ i _ => kids.length - (intOf i).toNat)
    case atStart => exact ⟨0, left - kids.length, Nat.zero_le _, rfl, rfl, by omega, by omega, by show _ = _; simp [descL], Below.refl _ _⟩
    case round =>
      obtain ⟨j, L, hj, rfl, rfl, hL0, hL1, HL, HB⟩ := hrel
      by_cases hlt : j < kids.length
      · obtain ⟨x, hx⟩ : ∃ x, kids[j]? = some x := ⟨_, List.getElem?_eq_getElem hlt⟩
        obtain ⟨rfl, hb, g0, g1, g2, gl⟩ := HO.out.below HB.out j x hx
        have HT := Lib.hid (descL_take_succ hx)
        have HM := Lib.hid (descL_take_len kids (j + 1))
        have HG := Lib.hid gl
        have HX := Lib.hid hx
        clear gl hx
        obtain ⟨r, hr⟩ : ∃ r : Int, r = room L (desc x) := ⟨_, rfl⟩
        have HR := Lib.hid hr
        clear hr
        by_cases hneg : L < desc x
        · have hr : r < 0 := by rw [HR.out]; unfold room; rw [if_pos hneg]; omega
          have HF : Hid (room left (descL kids) = -1) := by show _ = _; unfold room; rw [if_pos (by have := HT.out; have := HM.out; have := HL.out; omega)]
          go_wp2_with fail
          refine (HIH.out j x HX.out L _ _ _ _ (HG.out.more HB.out.size) hL0 hL1).mono ?_
          rintro e' w1 ⟨rfl, hb1⟩
          rw [← HR.out]
          have HB1 := Lib.hid (HB.out.trans (hb1.mono HB.out.size))
          clear hb1 HB
          go_wp2_with fail
          go_ret
          exact ⟨ret_int HF.out.symm, HB1.out⟩
        · have hr : 0 ≤ r ∧ r ≤ 1048576 := by rw [HR.out]; unfold room; rw [if_neg hneg]; omega
          obtain ⟨hr0, hr1⟩ := hr
          have HR2 : Hid (r = L - desc x) := by show _ = _; rw [HR.out]; unfold room; rw [if_neg hneg]
          go_wp2_with fail
          refine (HIH.out j x HX.out L _ _ _ _ (HG.out.more HB.out.size) hL0 hL1).mono ?_
          rintro e' w1 ⟨rfl, hb1⟩
          rw [← HR.out]
          have HB1 := Lib.hid (HB.out.trans (hb1.mono HB.out.size))
          clear hb1 HB
          go_wp2_with fail
          go_roundw
          case rel => exact ⟨j + 1, r, by omega, by go_num, rfl, hr0, hr1, (by show _ = _; rw [HT.out, HR2.out, HL.out]; omega), HB1⟩
          case measure => simp [intOf]; omega
      · have hjj : j = kids.length := by omega
        subst hjj
        have HF : Hid (room left (descL kids) = L) := by
          show _ = _
          have := HL.out
          rw [List.take_length] at this
          unfold room
          rw [if_neg (by omega)]
          omega
        go_wp2_with fail
        go_ret
        exact ⟨ret_int HF.out.symm, HB.out⟩

set_option maxHeartbeats 400000 in
theorem sz_any : ∀ e : Ex, SzSaid e := by
  intro e
  induction e using Ex.ind with
  | h k v kids ih =>
    intro left c0 c1 c2 w hL h0 h1
    obtain ⟨A, cap, b, off, C0, C1, C2, rfl, rfl, rfl, hl, hO⟩ := hL.open_
    have HIH := Lib.hid ih
    have HO := Lib.hid hO
    have HLn := Lib.hid hl
    clear ih hL hO hl
    obtain ⟨r, hr⟩ : ∃ r : Int, r = room left (descL kids) := ⟨_, rfl⟩
    have HR := Lib.hid hr
    have hr1 : r = -1 ∨ 0 ≤ r := by rw [hr]; unfold room; split <;> omega
    clear hr
    go_enter Try.func74, Try.ntmps74
    go_wp2_with fail
    refine (szS_any kids HIH.out left A cap b off C0 C1 C2 (w.alloc (.cells #[.int .i64 k, .int .i64 v, .slice A kids.length cap] 127)) HLn.out (HO.out.grow ((Below.refl _ w).alloc (Nat.le_refl _) _) (by simp)) h0 h1).mono ?_
    rintro e' w1 ⟨rfl, hb1⟩
    rw [← HR.out]
    have HB1 := Lib.hid (boxed (hb1.mono (by simp)))
    clear hb1
    by_cases hn : r < 0
    · go_wp2_with fail
      go_ret
      exact ⟨ret_int (by simp only [desc]; rw [← HR.out]; omega), HB1.out⟩
    · go_wp2_with fail
      go_ret
      exact ⟨ret_int (by simp only [desc]; exact HR.out), HB1.out⟩

end Go.Proofs.Ytldnegacgjijlaa
namespace Go.Proofs.Ytldnegacgjijlaa
open Go.RowKit

namespace Lay
def ex : Lay Ex where
  st := 3
  sz := desc
  lies w B e C := Lies w B e (C 0) (C 1) (C 2)
  sep w lo hi e C := Sep w lo hi e (C 0) (C 1) (C 2)
  lies_keep hB hk h := h.keep hB hk
  lies_ext h k := by rw [h 0 (by omega), h 1 (by omega), h 2 (by omega)]; exact k
  sep_keep hk h := h.keep hk
  sep_more a b h := h.more a b
  sep_ext h k := by rw [h 0 (by omega), h 1 (by omega), h 2 (by omega)]; exact k
  sep_lies h := h.own.lies
end Lay

end Go.Proofs.Ytldnegacgjijlaa
namespace Go.Proofs.Ytldnegacgjijlaa
open Go.ChangeShapes Go.WideShapes Go.ChangeAt Go.RowKit Go.Deep Go.Joins

section
variable {H : Type} {X : Type} {enc : TypeId × Value → H} {W : World} {sp : Nat → Bool}

set_option maxRecDepth 100000 in
theorem opens_ex (hsp : ∀ b, sp b = true) : Opens enc W sp Lay.ex 127 := fun n cs x h => by
  obtain ⟨y0, y1, y2, k, hy, hl, u0, u1, u2⟩ := trod_struct3 Try.underlying127 h
  rw [Try.cells127] at hl
  match cs, hl with
  | [v0, v1, v2], _ =>
    simp [Try.cells3] at u0 u1
    simp [Try.cells62] at u2
    obtain ⟨k0, e0, _, _⟩ := DataW.trod_int Try.underlying3 u0
    obtain ⟨k1, e1, _, _⟩ := DataW.trod_int Try.underlying3 u1
    simp only [List.cons.injEq, and_true] at e0 e1
    obtain ⟨kids, A, cp, b2, o2, C0, C1, C2, e2, hkl, hO⟩ := open_kids hsp _ _ v2 y2.1 y2.2 (Nat.le_refl _) u2
    refine ⟨.node k0 k1 kids, ?_⟩
    show Lies W W.heap.size _ v0 v1 v2
    rw [e0, e1, e2]
    exact hO.mk_ hkl

end
end Go.Proofs.Ytldnegacgjijlaa
namespace Go.Proofs.Ytldnegacgjijlaa
open Go.RowKit

def EqSaid (e : Ex) : Prop := ∀ (c0 c1 c2 d0 d1 d2 : Value) (w : World), Lies w w.heap.size e c0 c1 c2 → Lies w w.heap.size e d0 d1 d2 →
    Calls Try.prog 88 #[.agg #[c0, c1, c2], .agg #[d0, d1, d2]] w fun e' w' => e' = .returned (.bool true) ∧ Below w.heap.size w w'

set_option maxHeartbeats 400000 in
set_option maxRecDepth 100000 in
theorem eqS_any (kids : List Ex) (ih : ∀ (i : Nat) (x : Ex), kids[i]? = some x → EqSaid x) (A : Option Addr) (cap b off : Nat) (C0 C1 C2 : Nat → Value) (A' : Option Addr) (cap' b' off' : Nat) (D0 D1 D2 : Nat → Value) (w : World) (hl : kids.length ≤ maxLen)
    (hO : Opened w w.heap.size kids A b off C0 C1 C2) (hO' : Opened w w.heap.size kids A' b' off' D0 D1 D2) :
    Calls Try.prog 35 #[.slice A kids.length cap, .slice A' kids.length cap'] w fun e' w' => e' = .returned (.bool true) ∧ Below w.heap.size w w' := by
  unfold maxLen at hl
  have HIH := Lib.hid ih
  have HO := Lib.hid hO
  have HO' := Lib.hid hO'
  clear ih hO hO'
  go_enter Try.func35, Try.ntmps35
  go_wp2_with fail
  go_loopw [5] (fun i wl => ∃ j : Nat, j ≤ kids.length ∧ i = .int .i64 j ∧ Hid (Below w.heap.size w wl)) (fun i _ => kids.length - (intOf i).toNat)
  case atStart => exact ⟨0, Nat.zero_le _, rfl, Below.refl _ _⟩
  case round =>
    obtain ⟨j, hj, rfl, HB⟩ := hrel
    by_cases hlt : j < kids.length
    · obtain ⟨x, hx⟩ : ∃ x, kids[j]? = some x := ⟨_, List.getElem?_eq_getElem hlt⟩
      obtain ⟨rfl, hb, g0, g1, g2, gl⟩ := HO.out.below HB.out j x hx
      obtain ⟨rfl, hb', g0', g1', g2', gl'⟩ := HO'.out.below HB.out j x hx
      have HG := Lib.hid (gl.more HB.out.size)
      have HG' := Lib.hid (gl'.more HB.out.size)
      have HX := Lib.hid hx
      clear gl gl' hx
      go_wp2_with fail
      go_still_tail 8, (by kernel_rfl)
      go_wp2_with fail
      refine (HIH.out j x HX.out _ _ _ _ _ _ wr.drew HG.out.drew HG'.out.drew).mono ?_
      rintro e' w1 ⟨rfl, hb1⟩
      have HB1 : Hid (Below w.heap.size w w1) := HB.out.drew.trans (hb1.mono HB.out.size)
      clear hb1 HB HG HG' g0 g1 g2 g0' g1' g2'
      go_wp2_with fail
      go_roundw
      case rel => exact ⟨j + 1, by omega, by go_num, HB1⟩
      case measure => simp [intOf]; omega
    · go_wp2_with fail
      go_ret
      exact ⟨rfl, HB.out⟩

set_option maxHeartbeats 400000 in
theorem eq_any : ∀ e : Ex, EqSaid e := by
  intro e
  induction e using Ex.ind with
  | h k v kids ih =>
    intro c0 c1 c2 d0 d1 d2 w hL hL'
    obtain ⟨A, cap, b, off, C0, C1, C2, rfl, rfl, rfl, hl, hO⟩ := hL.open_
    obtain ⟨A', cap', b', off', D0, D1, D2, rfl, rfl, rfl, _, hO'⟩ := hL'.open_
    have HIH := Lib.hid ih
    have HO := Lib.hid (hO.grow (B' := ((w.alloc (.cells #[.int .i64 k, .int .i64 v, .slice A kids.length cap] 99)).alloc (.cells #[.int .i64 k, .int .i64 v, .slice A' kids.length cap'] 99)).heap.size) (((Below.refl _ w).alloc (Nat.le_refl _) (.cells #[.int .i64 k, .int .i64 v, .slice A kids.length cap] 99)).alloc (by simp) (.cells #[.int .i64 k, .int .i64 v, .slice A' kids.length cap'] 99)) (by simp; omega))
    have HO' := Lib.hid (hO'.grow (B' := ((w.alloc (.cells #[.int .i64 k, .int .i64 v, .slice A kids.length cap] 99)).alloc (.cells #[.int .i64 k, .int .i64 v, .slice A' kids.length cap'] 99)).heap.size) (((Below.refl _ w).alloc (Nat.le_refl _) (.cells #[.int .i64 k, .int .i64 v, .slice A kids.length cap] 99)).alloc (by simp) (.cells #[.int .i64 k, .int .i64 v, .slice A' kids.length cap'] 99)) (by simp; omega))
    have HLn := Lib.hid hl
    clear ih hL hL' hO hO' hl
    go_enter Try.func88, Try.ntmps88
    go_wp2_with fail
    refine (eqS_any kids HIH.out A cap b off C0 C1 C2 A' cap' b' off' D0 D1 D2 _ HLn.out HO.out HO'.out).mono ?_
    rintro e' w1 ⟨rfl, hb1⟩
    have HB1 : Hid (Below w.heap.size w w1) := boxed_two (hb1.mono (by simp))
    clear hb1
    go_wp2_with fail
    go_ret
    exact ⟨rfl, HB1.out⟩

end Go.Proofs.Ytldnegacgjijlaa
