/- slices.Equal of numbers only reads. -/
import Derived.Test.YtogfpgkdofhoaaaIsV
import Derived.BigQuiet
namespace Go.Proofs.Ytogfpgkdofhoaaa
namespace La
open Go.RowKit

theorem quiet_d1 {P : Program} {f : FuncId} {args : Array Value} {w : World} {x : Nat} {v : Value} (h : Calls P f args (w.drewN x) fun e w' => e = .returned v ∧ ∃ d, w' = (w.drewN x).drewN d) : Calls P f args (w.drewN x) fun e w'' => e = .returned v ∧ ∃ m, w'' = w.drewN m :=
  h.mono fun _ _ ⟨he, d, hd⟩ => ⟨he, x + d, by rw [hd, World.drewN_drewN]⟩
theorem quiet_d2 {P : Program} {f : FuncId} {args : Array Value} {w : World} {n x : Nat} {v : Value} (h : Calls P f args (w.drewN (n + x)) fun e w' => e = .returned v ∧ ∃ d, w' = (w.drewN (n + x)).drewN d) : Calls P f args (w.drewN (n + x)) fun e w'' => e = .returned v ∧ ∃ m, w'' = w.drewN (n + m) :=
  h.mono fun _ _ ⟨he, d, hd⟩ => ⟨he, x + d, by rw [hd, World.drewN_drewN, Nat.add_assoc]⟩

set_option maxHeartbeats 400000 in
theorem equalQ_any (xs ys : List Int) (A A' : Option Addr) (cap b off cap' b' off' : Nat) (w : World) (hl : xs.length ≤ maxLen) (_ : ys.length ≤ maxLen) (hI : Ints w w.heap.size A b off xs) (hI' : Ints w w.heap.size A' b' off' ys) :
    Calls Try.prog 29 #[.slice A xs.length cap, .slice A' ys.length cap'] w fun e' w' => e' = .returned (.bool (intsSame xs ys)) ∧ ∃ d, w' = w.drewN d := by
  unfold maxLen at hl
  have HI := Lib.hid hI
  have HI' := Lib.hid hI'
  clear hI hI'
  by_cases hlen : xs.length = ys.length
  case neg =>
    have hlenI : ¬ ((xs.length : Int) = (ys.length : Int)) := by omega
    go_enter Try.func29, Try.ntmps29
    go_wp2_with fail
    go_ret
    exact ⟨ret_bool (intsSame_len hlen).symm, 0, rfl⟩
  have hlenI : (xs.length : Int) = (ys.length : Int) := by omega
  have HLn := Lib.hid hlen
  clear hlen
  go_enter Try.func29, Try.ntmps29
  go_wp2_with fail
  go_loopw [13] (fun i wl => ∃ j n : Nat, j ≤ xs.length ∧ i = .int .i64 j ∧ Hid (∀ (q : Nat) (x y : Int), q < j → xs[q]? = some x → ys[q]? = some y → x = y) ∧ wl = w.drewN n) (fun i _ => xs.length - (intOf i).toNat)
  case atStart => exact ⟨0, 0, Nat.zero_le _, rfl, (fun q x y h => absurd h (Nat.not_lt_zero _)), rfl⟩
  case round =>
    obtain ⟨j, n, hj, rfl, HT, rfl⟩ := hrel
    by_cases hlt : j < xs.length
    · obtain ⟨x, hx⟩ : ∃ x, xs[j]? = some x := ⟨_, List.getElem?_eq_getElem hlt⟩
      have hlp : j < ys.length := by have := HLn.out; omega
      obtain ⟨y, hy⟩ : ∃ y, ys[j]? = some y := ⟨_, List.getElem?_eq_getElem hlp⟩
      obtain ⟨rfl, hb, c0⟩ := HI.out j x hx
      obtain ⟨rfl, hb', d0⟩ := HI'.out j y hy
      have HX := Lib.hid hx
      have HY := Lib.hid hy
      clear hx hy
      by_cases hxy : x = y
      · have HT2 : Hid (∀ (q : Nat) (x y : Int), q < j + 1 → xs[q]? = some x → ys[q]? = some y → x = y) := fun q x' y' hq h1 h2 => by
          by_cases e : q = j
          · subst e
            rw [HX.out] at h1
            rw [HY.out] at h2
            injection h1 with h1
            injection h2 with h2
            omega
          · exact HT.out q x' y' (by omega) h1 h2
        subst hxy
        go_wp2_with fail
        go_quiet (fail)
        go_wp2_with fail
        go_roundw
        case rel => exact ⟨j + 1, _, by omega, by go_num, HT2, rfl⟩
        case measure => simp [intOf]; omega
      · go_wp2_with fail
        go_quiet (fail)
        go_wp2_with fail
        go_ret
        exact ⟨ret_bool (intsSame_at HX.out HY.out hxy).symm, _, (by first | (rw [World.drewN_drewN]) | rfl)⟩
    · have hjj : j = xs.length := by omega
      subst hjj
      go_wp2_with fail
      go_ret
      exact ⟨ret_bool (intsSame_all HLn.out (fun q x y h1 h2 => HT.out q x y (List.getElem?_eq_some_iff.1 h1).1 h1 h2)).symm, _, rfl⟩


end La
end Go.Proofs.Ytogfpgkdofhoaaa
