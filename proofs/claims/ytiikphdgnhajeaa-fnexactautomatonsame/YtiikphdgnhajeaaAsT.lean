/- slices.Equal over transitions. -/
import Derived.Test.YtiikphdgnhajeaaAsE
namespace Go.Proofs.Ytiikphdgnhajeaa
open Go.RowKit

set_option maxHeartbeats 2000000 in
theorem equalTrs_any (xs ys : List Tr) (A A' : Option Addr) (cap b off cap' b' off' : Nat) (w : World) (hl : xs.length ≤ maxLen) (_ : ys.length ≤ maxLen) (hI : Trs w w.heap.size A b off xs) (hI' : Trs w w.heap.size A' b' off' ys) :
    Calls Try.prog 34 #[.slice A xs.length cap, .slice A' ys.length cap'] w fun e' w' => e' = .returned (.bool (lstSame xs ys)) ∧ Below w.heap.size w w' := by
  unfold maxLen at hl
  have HI := Lib.hid hI
  have HI' := Lib.hid hI'
  clear hI hI'
  by_cases hlen : xs.length = ys.length
  case neg =>
    have hlenI : ¬ ((xs.length : Int) = (ys.length : Int)) := by omega
    go_enter Try.func34, Try.ntmps34
    go_wp2_with fail
    go_ret
    exact ⟨ret_bool (lstSame_len hlen).symm, Below.refl _ _⟩
  have hlenI : (xs.length : Int) = (ys.length : Int) := by omega
  have HLn := Lib.hid hlen
  clear hlen
  go_enter Try.func34, Try.ntmps34
  go_wp2_with fail
  go_loopw [13] (fun i wl => ∃ j n : Nat, j ≤ xs.length ∧ i = .int .i64 j ∧ Hid (∀ (q : Nat) (x y : Tr), q < j → xs[q]? = some x → ys[q]? = some y → x = y) ∧ wl = w.drewN n) (fun i _ => xs.length - (intOf i).toNat)
  case atStart => exact ⟨0, 0, Nat.zero_le _, rfl, (fun q x y h => absurd h (Nat.not_lt_zero _)), rfl⟩
  case round =>
    obtain ⟨j, n, hj, rfl, HT, rfl⟩ := hrel
    by_cases hlt : j < xs.length
    · obtain ⟨x, hx⟩ : ∃ x, xs[j]? = some x := ⟨_, List.getElem?_eq_getElem hlt⟩
      have hlp : j < ys.length := by have := HLn.out; omega
      obtain ⟨y, hy⟩ : ∃ y, ys[j]? = some y := ⟨_, List.getElem?_eq_getElem hlp⟩
      obtain ⟨rfl, hb, c0, c1, c2, c3, _⟩ := HI.out j x hx
      obtain ⟨rfl, hb', d0, d1, d2, d3, _⟩ := HI'.out j y hy
      have HX := Lib.hid hx
      have HY := Lib.hid hy
      clear hx hy
      by_cases hxy : x = y
      · have HT2 : Hid (∀ (q : Nat) (x y : Tr), q < j + 1 → xs[q]? = some x → ys[q]? = some y → x = y) := fun q x' y' hq h1 h2 => by
          by_cases e : q = j
          · subst e
            rw [HX.out] at h1
            rw [HY.out] at h2
            injection h1 with h1
            injection h2 with h2
            rw [← h1, ← h2]
            exact hxy
          · exact HT.out q x' y' (by omega) h1 h2
        subst hxy
        obtain ⟨fr, ca, va, tt⟩ := x
        dsimp only at c0 c1 c2 c3 d0 d1 d2 d3
        go_wp2_with fail
        go_quiet (fail)
        go_wp2_with fail
        go_roundw
        case rel => exact ⟨j + 1, _, by omega, by go_num, HT2, rfl⟩
        case measure => simp [intOf]; omega
      · have HFx := Lib.hid (lstSame_at HX.out HY.out hxy)
        clear HX HY
        obtain ⟨fr, ca, va, tt⟩ := x
        obtain ⟨fr', ca', va', tt'⟩ := y
        dsimp only at c0 c1 c2 c3 d0 d1 d2 d3
        have HN : Hid (¬ (fr = fr' ∧ ca = ca' ∧ va = va' ∧ tt = tt')) := fun h => hxy (by rw [h.1, h.2.1, h.2.2.1, h.2.2.2])
        clear hxy
        by_cases e0 : fr = fr'
        case neg =>
          go_wp2_with fail
          go_quiet (fail)
          go_wp2_with fail
          go_ret
          exact ⟨ret_bool HFx.out.symm, below_drewN (below_drewN (Below.refl _ _) _) _⟩
        subst e0
        by_cases e1 : ca = ca'
        case neg =>
          go_wp2_with fail
          go_quiet (fail)
          go_wp2_with fail
          go_ret
          exact ⟨ret_bool HFx.out.symm, below_drewN (below_drewN (Below.refl _ _) _) _⟩
        subst e1
        by_cases e2 : va = va'
        case neg =>
          go_wp2_with fail
          go_quiet (fail)
          go_wp2_with fail
          go_ret
          exact ⟨ret_bool HFx.out.symm, below_drewN (below_drewN (Below.refl _ _) _) _⟩
        subst e2
        have e3 : ¬ tt = tt' := fun h => HN.out ⟨rfl, rfl, rfl, h⟩
        go_wp2_with fail
        go_quiet (fail)
        go_wp2_with fail
        go_ret
        exact ⟨ret_bool HFx.out.symm, below_drewN (below_drewN (Below.refl _ _) _) _⟩
    · have hjj : j = xs.length := by omega
      subst hjj
      go_wp2_with fail
      go_ret
      exact ⟨ret_bool (lstSame_all HLn.out (fun q x y h1 h2 => HT.out q x y (List.getElem?_eq_some_iff.1 h1).1 h1 h2)).symm, below_drewN (Below.refl _ _) _⟩


end Go.Proofs.Ytiikphdgnhajeaa
