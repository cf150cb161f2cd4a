/- The walks of laws.eqExpr and laws.eqExprS on two copies of one tree. -/
import Derived.Test.YtcipnecdeipeaaaDoorBs
import Derived.StillTailTactics
namespace Go.Proofs.YtcipnecdeipeaaaDoor
open Go.RowKit

def EqSaid (e : Ex) : Prop := ∀ (c0 c1 c2 d0 d1 d2 : Value) (w : World), Lies w w.heap.size e c0 c1 c2 → Lies w w.heap.size e d0 d1 d2 →
    Calls Tryd.prog 63 #[.agg #[c0, c1, c2], .agg #[d0, d1, d2]] w fun e' w' => e' = .returned (.bool true) ∧ Below w.heap.size w w'

set_option maxHeartbeats 400000 in
set_option maxRecDepth 100000 in
theorem eqS_any (kids : List Ex) (ih : ∀ (i : Nat) (x : Ex), kids[i]? = some x → EqSaid x) (A : Option Addr) (cap b off : Nat) (C0 C1 C2 : Nat → Value) (A' : Option Addr) (cap' b' off' : Nat) (D0 D1 D2 : Nat → Value) (w : World) (hl : kids.length ≤ maxLen)
    (hO : Opened w w.heap.size kids A b off C0 C1 C2) (hO' : Opened w w.heap.size kids A' b' off' D0 D1 D2) :
    Calls Tryd.prog 74 #[.slice A kids.length cap, .slice A' kids.length cap'] w fun e' w' => e' = .returned (.bool true) ∧ Below w.heap.size w w' := by
  unfold maxLen at hl
  have HIH := Lib.hid ih
  have HO := Lib.hid hO
  have HO' := Lib.hid hO'
  clear ih hO hO'
  go_enter Tryd.func74, Tryd.ntmps74
  go_wp2_with fail
  go_loopw [5] (fun i wl => ∃ j : Nat, j ≤ kids.length ∧ i = .int .i64 j ∧ Hid (Below w.heap.size w wl)) (fun i _ => kids.length - (intOf i).toNat)
  case atStart => exact ⟨0, Nat.zero_le _, rfl, Below.refl _ _⟩
  case round =>
    obtain ⟨j, hj, rfl, HB⟩ := hrel
    by_cases hlt : j < kids.length
    · obtain ⟨x, hx⟩ : ∃ x, kids[j]? = some x := ⟨_, List.getElem?_eq_getElem hlt⟩
      obtain ⟨rfl, hb, g0, g1, g2, gl⟩ := HO.out.below HB.out j x hx
      obtain ⟨rfl, hb', g0', g1', g2', gl'⟩ := HO'.out.below HB.out j x hx
      have HG := Lib.hid (gl.more HB.out.size)
      have HG' := Lib.hid (gl'.more HB.out.size)
      have HX := Lib.hid hx
      clear gl gl' hx
      go_wp2_with fail
      go_still_tail 8, (by kernel_rfl)
      go_wp2_with fail
      refine (HIH.out j x HX.out _ _ _ _ _ _ wr.drew HG.out.drew HG'.out.drew).mono ?_
      rintro e' w1 ⟨rfl, hb1⟩
      have HB1 : Hid (Below w.heap.size w w1) := HB.out.drew.trans (hb1.mono HB.out.size)
      clear hb1 HB HG HG' g0 g1 g2 g0' g1' g2'
      go_wp2_with fail
      go_roundw
      case rel => exact ⟨j + 1, by omega, by go_num, HB1⟩
      case measure => simp [intOf]; omega
    · go_wp2_with fail
      go_ret
      exact ⟨rfl, HB.out⟩

set_option maxHeartbeats 400000 in
theorem eq_any : ∀ e : Ex, EqSaid e := by
  intro e
  induction e using Ex.ind with
  | h k v kids ih =>
    intro c0 c1 c2 d0 d1 d2 w hL hL'
    obtain ⟨A, cap, b, off, C0, C1, C2, rfl, rfl, rfl, hl, hO⟩ := hL.open_
    obtain ⟨A', cap', b', off', D0, D1, D2, rfl, rfl, rfl, _, hO'⟩ := hL'.open_
    have HIH := Lib.hid ih
    have HO := Lib.hid (hO.grow (B' := ((w.alloc (.cells #[.int .i64 k, .int .i64 v, .slice A kids.length cap] 44)).alloc (.cells #[.int .i64 k, .int .i64 v, .slice A' kids.length cap'] 44)).heap.size) (((Below.refl _ w).alloc (Nat.le_refl _) (.cells #[.int .i64 k, .int .i64 v, .slice A kids.length cap] 44)).alloc (by simp) (.cells #[.int .i64 k, .int .i64 v, .slice A' kids.length cap'] 44)) (by simp; omega))
    have HO' := Lib.hid (hO'.grow (B' := ((w.alloc (.cells #[.int .i64 k, .int .i64 v, .slice A kids.length cap] 44)).alloc (.cells #[.int .i64 k, .int .i64 v, .slice A' kids.length cap'] 44)).heap.size) (((Below.refl _ w).alloc (Nat.le_refl _) (.cells #[.int .i64 k, .int .i64 v, .slice A kids.length cap] 44)).alloc (by simp) (.cells #[.int .i64 k, .int .i64 v, .slice A' kids.length cap'] 44)) (by simp; omega))
    have HLn := Lib.hid hl
    clear ih hL hL' hO hO' hl
    go_enter Tryd.func63, Tryd.ntmps63
    go_wp2_with fail
    refine (eqS_any kids HIH.out A cap b off C0 C1 C2 A' cap' b' off' D0 D1 D2 _ HLn.out HO.out HO'.out).mono ?_
    rintro e' w1 ⟨rfl, hb1⟩
    have HB1 : Hid (Below w.heap.size w w1) := boxed_two (hb1.mono (by simp))
    clear hb1
    go_wp2_with fail
    go_ret
    exact ⟨rfl, HB1.out⟩

end Go.Proofs.YtcipnecdeipeaaaDoor
