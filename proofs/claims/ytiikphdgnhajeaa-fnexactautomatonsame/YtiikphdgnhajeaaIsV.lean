/- The walks of spec.l2Ints and slices.Equal. -/
import Derived.Test.YtiikphdgnhajeaaStD
import Derived.BigQuiet
namespace Go.Proofs.Ytiikphdgnhajeaa
open Go.RowKit

def intsSame (a b : List Int) : Bool := decide (a = b)
/-- The states are equal. -/
def stSame (e f : St) : Bool := intsSame e.locs f.locs && intsSame e.vals f.vals

theorem intsSame_len {a b : List Int} (h : ¬ a.length = b.length) : intsSame a b = false := decide_eq_false fun e => h (by rw [e])
theorem intsSame_at {a b : List Int} {i : Nat} {x y : Int} (hx : a[i]? = some x) (hy : b[i]? = some y) (h : ¬ x = y) : intsSame a b = false := decide_eq_false fun e => h (by rw [e, hy] at hx; injection hx with hx; exact hx.symm)
theorem intsSame_all {a b : List Int} (hl : a.length = b.length) (h : ∀ (i : Nat) (x y : Int), a[i]? = some x → b[i]? = some y → x = y) : intsSame a b = true := decide_eq_true (List.ext_getElem? fun i => by
  rcases Nat.lt_or_ge i a.length with hi | hi
  · have hb : i < b.length := by omega
    rw [List.getElem?_eq_getElem hi, List.getElem?_eq_getElem hb]
    exact congrArg some (h i _ _ (List.getElem?_eq_getElem hi) (List.getElem?_eq_getElem hb))
  · rw [List.getElem?_eq_none hi, List.getElem?_eq_none (by omega)])

set_option maxHeartbeats 400000 in
theorem l2Ints_any (xs ys : List Int) (A A' : Option Addr) (cap b off cap' b' off' : Nat) (w : World) (hl : xs.length ≤ maxLen) (_ : ys.length ≤ maxLen) (hI : Ints w w.heap.size A b off xs) (hI' : Ints w w.heap.size A' b' off' ys) :
    Calls Try.prog 31 #[.slice A xs.length cap, .slice A' ys.length cap'] w fun e' w' => e' = .returned (.bool (intsSame xs ys)) ∧ Below w.heap.size w w' := by
  unfold maxLen at hl
  have HI := Lib.hid hI
  have HI' := Lib.hid hI'
  clear hI hI'
  by_cases hlen : xs.length = ys.length
  case neg =>
    have hlenI : ¬ ((xs.length : Int) = (ys.length : Int)) := by omega
    go_enter Try.func31, Try.ntmps31
    go_wp2_with fail
    go_ret
    exact ⟨ret_bool (intsSame_len hlen).symm, Below.refl _ _⟩
  have hlenI : (xs.length : Int) = (ys.length : Int) := by omega
  have HLn := Lib.hid hlen
  clear hlen
  go_enter Try.func31, Try.ntmps31
  go_wp2_with fail
  go_loopw [5] (fun i wl => ∃ j n : Nat, j ≤ xs.length ∧ i = .int .i64 j ∧ Hid (∀ (q : Nat) (x y : Int), q < j → xs[q]? = some x → ys[q]? = some y → x = y) ∧ wl = w.drewN n) (fun i _ => xs.length - (intOf i).toNat)
  case atStart => exact ⟨0, 0, Nat.zero_le _, rfl, (fun q x y h => absurd h (Nat.not_lt_zero _)), rfl⟩
  case round =>
    obtain ⟨j, n, hj, rfl, HT, rfl⟩ := hrel
    by_cases hlt : j < xs.length
    · obtain ⟨x, hx⟩ : ∃ x, xs[j]? = some x := ⟨_, List.getElem?_eq_getElem hlt⟩
      have hlp : j < ys.length := by have := HLn.out; omega
      obtain ⟨y, hy⟩ : ∃ y, ys[j]? = some y := ⟨_, List.getElem?_eq_getElem hlp⟩
      obtain ⟨rfl, hb, c0⟩ := HI.out j x hx
      obtain ⟨rfl, hb', d0⟩ := HI'.out j y hy
      have HX := Lib.hid hx
      have HY := Lib.hid hy
      clear hx hy
      by_cases hxy : x = y
      · have HT2 : Hid (∀ (q : Nat) (x y : Int), q < j + 1 → xs[q]? = some x → ys[q]? = some y → x = y) := fun q x' y' hq h1 h2 => by
          by_cases e : q = j
          · subst e
            rw [HX.out] at h1
            rw [HY.out] at h2
            injection h1 with h1
            injection h2 with h2
            omega
          · exact HT.out q x' y' (by omega) h1 h2
        subst hxy
        go_wp2_with fail
        go_quiet (fail)
        go_wp2_with fail
        go_roundw
        case rel => exact ⟨j + 1, _, by omega, by go_num, HT2, rfl⟩
        case measure => simp [intOf]; omega
      · go_wp2_with fail
        go_quiet (fail)
        go_wp2_with fail
        go_ret
        exact ⟨ret_bool (intsSame_at HX.out HY.out hxy).symm, below_drewN (below_drewN (Below.refl _ _) _) _⟩
    · have hjj : j = xs.length := by omega
      subst hjj
      go_wp2_with fail
      go_ret
      exact ⟨ret_bool (intsSame_all HLn.out (fun q x y h1 h2 => HT.out q x y (List.getElem?_eq_some_iff.1 h1).1 h1 h2)).symm, below_drewN (Below.refl _ _) _⟩

set_option maxHeartbeats 400000 in
theorem equalInts_any (xs ys : List Int) (A A' : Option Addr) (cap b off cap' b' off' : Nat) (w : World) (hl : xs.length ≤ maxLen) (_ : ys.length ≤ maxLen) (hI : Ints w w.heap.size A b off xs) (hI' : Ints w w.heap.size A' b' off' ys) :
    Calls Try.prog 32 #[.slice A xs.length cap, .slice A' ys.length cap'] w fun e' w' => e' = .returned (.bool (intsSame xs ys)) ∧ Below w.heap.size w w' := by
  unfold maxLen at hl
  have HI := Lib.hid hI
  have HI' := Lib.hid hI'
  clear hI hI'
  by_cases hlen : xs.length = ys.length
  case neg =>
    have hlenI : ¬ ((xs.length : Int) = (ys.length : Int)) := by omega
    go_enter Try.func32, Try.ntmps32
    go_wp2_with fail
    go_ret
    exact ⟨ret_bool (intsSame_len hlen).symm, Below.refl _ _⟩
  have hlenI : (xs.length : Int) = (ys.length : Int) := by omega
  have HLn := Lib.hid hlen
  clear hlen
  go_enter Try.func32, Try.ntmps32
  go_wp2_with fail
  go_loopw [13] (fun i wl => ∃ j n : Nat, j ≤ xs.length ∧ i = .int .i64 j ∧ Hid (∀ (q : Nat) (x y : Int), q < j → xs[q]? = some x → ys[q]? = some y → x = y) ∧ wl = w.drewN n) (fun i _ => xs.length - (intOf i).toNat)
  case atStart => exact ⟨0, 0, Nat.zero_le _, rfl, (fun q x y h => absurd h (Nat.not_lt_zero _)), rfl⟩
  case round =>
    obtain ⟨j, n, hj, rfl, HT, rfl⟩ := hrel
    by_cases hlt : j < xs.length
    · obtain ⟨x, hx⟩ : ∃ x, xs[j]? = some x := ⟨_, List.getElem?_eq_getElem hlt⟩
      have hlp : j < ys.length := by have := HLn.out; omega
      obtain ⟨y, hy⟩ : ∃ y, ys[j]? = some y := ⟨_, List.getElem?_eq_getElem hlp⟩
      obtain ⟨rfl, hb, c0⟩ := HI.out j x hx
      obtain ⟨rfl, hb', d0⟩ := HI'.out j y hy
      have HX := Lib.hid hx
      have HY := Lib.hid hy
      clear hx hy
      by_cases hxy : x = y
      · have HT2 : Hid (∀ (q : Nat) (x y : Int), q < j + 1 → xs[q]? = some x → ys[q]? = some y → x = y) := fun q x' y' hq h1 h2 => by
          by_cases e : q = j
          · subst e
            rw [HX.out] at h1
            rw [HY.out] at h2
            injection h1 with h1
            injection h2 with h2
            omega
          · exact HT.out q x' y' (by omega) h1 h2
        subst hxy
        go_wp2_with fail
        go_quiet (fail)
        go_wp2_with fail
        go_roundw
        case rel => exact ⟨j + 1, _, by omega, by go_num, HT2, rfl⟩
        case measure => simp [intOf]; omega
      · go_wp2_with fail
        go_quiet (fail)
        go_wp2_with fail
        go_ret
        exact ⟨ret_bool (intsSame_at HX.out HY.out hxy).symm, below_drewN (below_drewN (Below.refl _ _) _) _⟩
    · have hjj : j = xs.length := by omega
      subst hjj
      go_wp2_with fail
      go_ret
      exact ⟨ret_bool (intsSame_all HLn.out (fun q x y h1 h2 => HT.out q x y (List.getElem?_eq_some_iff.1 h1).1 h1 h2)).symm, below_drewN (Below.refl _ _) _⟩

end Go.Proofs.Ytiikphdgnhajeaa
