/- slices.Equal over truth values. -/
import Derived.Test.YtiikphdgnhajeaaAuT
import Derived.Test.YtiikphdgnhajeaaIsV
namespace Go.Proofs.Ytiikphdgnhajeaa
open Go.RowKit

def lstSame {X : Type} [DecidableEq X] (a b : List X) : Bool := decide (a = b)
theorem lstSame_len {X : Type} [DecidableEq X] {a b : List X} (h : ¬ a.length = b.length) : lstSame a b = false := decide_eq_false fun e => h (by rw [e])
theorem lstSame_at {X : Type} [DecidableEq X] {a b : List X} {i : Nat} {x y : X} (hx : a[i]? = some x) (hy : b[i]? = some y) (h : ¬ x = y) : lstSame a b = false := decide_eq_false fun e => h (by rw [e, hy] at hx; injection hx with hx; exact hx.symm)
theorem lstSame_all {X : Type} [DecidableEq X] {a b : List X} (hl : a.length = b.length) (h : ∀ (i : Nat) (x y : X), a[i]? = some x → b[i]? = some y → x = y) : lstSame a b = true := decide_eq_true (List.ext_getElem? fun i => by
  rcases Nat.lt_or_ge i a.length with hi | hi
  · have hb : i < b.length := by omega
    rw [List.getElem?_eq_getElem hi, List.getElem?_eq_getElem hb]
    exact congrArg some (h i _ _ (List.getElem?_eq_getElem hi) (List.getElem?_eq_getElem hb))
  · rw [List.getElem?_eq_none hi, List.getElem?_eq_none (by omega)])
/-- The automata are equal. -/
def auSame (e f : Au) : Bool := intsSame e.ini f.ini && (lstSame e.acc f.acc && lstSame e.es f.es)

set_option maxHeartbeats 400000 in
theorem equalBools_any (xs ys : List Bool) (A A' : Option Addr) (cap b off cap' b' off' : Nat) (w : World) (hl : xs.length ≤ maxLen) (_ : ys.length ≤ maxLen) (hI : Bools w w.heap.size A b off xs) (hI' : Bools w w.heap.size A' b' off' ys) :
    Calls Try.prog 33 #[.slice A xs.length cap, .slice A' ys.length cap'] w fun e' w' => e' = .returned (.bool (lstSame xs ys)) ∧ Below w.heap.size w w' := by
  unfold maxLen at hl
  have HI := Lib.hid hI
  have HI' := Lib.hid hI'
  clear hI hI'
  by_cases hlen : xs.length = ys.length
  case neg =>
    have hlenI : ¬ ((xs.length : Int) = (ys.length : Int)) := by omega
    go_enter Try.func33, Try.ntmps33
    go_wp2_with fail
    go_ret
    exact ⟨ret_bool (lstSame_len hlen).symm, Below.refl _ _⟩
  have hlenI : (xs.length : Int) = (ys.length : Int) := by omega
  have HLn := Lib.hid hlen
  clear hlen
  go_enter Try.func33, Try.ntmps33
  go_wp2_with fail
  go_loopw [13] (fun i wl => ∃ j n : Nat, j ≤ xs.length ∧ i = .int .i64 j ∧ Hid (∀ (q : Nat) (x y : Bool), q < j → xs[q]? = some x → ys[q]? = some y → x = y) ∧ wl = w.drewN n) (fun i _ => xs.length - (intOf i).toNat)
  case atStart => exact ⟨0, 0, Nat.zero_le _, rfl, (fun q x y h => absurd h (Nat.not_lt_zero _)), rfl⟩
  case round =>
    obtain ⟨j, n, hj, rfl, HT, rfl⟩ := hrel
    by_cases hlt : j < xs.length
    · obtain ⟨x, hx⟩ : ∃ x, xs[j]? = some x := ⟨_, List.getElem?_eq_getElem hlt⟩
      have hlp : j < ys.length := by have := HLn.out; omega
      obtain ⟨y, hy⟩ : ∃ y, ys[j]? = some y := ⟨_, List.getElem?_eq_getElem hlp⟩
      obtain ⟨rfl, hb, c0⟩ := HI.out j x hx
      obtain ⟨rfl, hb', d0⟩ := HI'.out j y hy
      have HX := Lib.hid hx
      have HY := Lib.hid hy
      clear hx hy
      by_cases hxy : x = y
      · have HT2 : Hid (∀ (q : Nat) (x y : Bool), q < j + 1 → xs[q]? = some x → ys[q]? = some y → x = y) := fun q x' y' hq h1 h2 => by
          by_cases e : q = j
          · subst e
            rw [HX.out] at h1
            rw [HY.out] at h2
            injection h1 with h1
            injection h2 with h2
            rw [← h1, ← h2]
            exact hxy
          · exact HT.out q x' y' (by omega) h1 h2
        subst hxy
        cases x <;>
        (go_wp2_with fail
         go_quiet (fail)
         go_wp2_with fail
         go_roundw
         case rel => exact ⟨j + 1, _, by omega, by go_num, HT2, rfl⟩
         case measure => simp [intOf]; omega)
      · have HFx := Lib.hid (lstSame_at HX.out HY.out hxy)
        clear HX HY
        cases x <;> cases y <;> first | exact absurd rfl hxy | skip
        all_goals
        (go_wp2_with fail
         go_quiet (fail)
         go_wp2_with fail
         go_ret
         exact ⟨ret_bool HFx.out.symm, below_drewN (below_drewN (Below.refl _ _) _) _⟩)
    · have hjj : j = xs.length := by omega
      subst hjj
      go_wp2_with fail
      go_ret
      exact ⟨ret_bool (lstSame_all HLn.out (fun q x y h1 h2 => HT.out q x y (List.getElem?_eq_some_iff.1 h1).1 h1 h2)).symm, below_drewN (Below.refl _ _) _⟩


end Go.Proofs.Ytiikphdgnhajeaa
