/- Formulas as plain data: which are valid; nothing is assumed. -/
import Derived.Test.YtipicboilegieaaDoorPlain
namespace Go.Proofs.YtipicboilegieaaDoor

/-- The number of operands of a formula's kind, or -1. -/
def fArity (k : Int) : Int := if k = 1 ∨ k = 2 then 0 else if k = 3 ∨ k = 6 ∨ k = 9 ∨ k = 10 then 1 else if k = 4 ∨ k = 5 ∨ k = 7 ∨ k = 8 then 2 else -1

/-- The largest Atom of a kind. -/
def fLimit (k : Int) : Int := if k = 2 then 2 else 0

/-- Whether the root by itself is well formed. -/
def fRoot (k v : Int) (n : Nat) : Bool := decide ((n : Int) = fArity k) && (decide (0 ≤ v) && decide (v ≤ fLimit k))

def fShape : Nat → Ex → Bool
  | 0, _ => false
  | d + 1, .node k v kids => fRoot k v kids.length && kids.all (fShape d)

/-- The whole verdict. -/
def fValid (e : Ex) : Bool := fShape 6 e && decide (cnt 6 e ≤ 12)

/-- The number of nodes of a valid formula, or 0. -/
def fNodes (e : Ex) : Int := if fValid e then (cnt 6 e : Int) else 0

theorem fShape_pred {dd : Int} {k v : Int} {kids : List Ex} (h : ¬ dd < 1) : fShape dd.toNat (.node k v kids) = (fRoot k v kids.length && kids.all (fShape (dd - 1).toNat)) := by
  obtain ⟨n, rfl⟩ : ∃ n : Nat, dd = n + 1 := ⟨(dd - 1).toNat, by omega⟩
  rw [show ((n : Int) + 1).toNat = n + 1 by omega, show ((n : Int) + 1 - 1).toNat = n by omega]
  rfl

theorem fArity_range {k : Int} (h : fArity k ≠ -1) : 1 ≤ k ∧ k ≤ 10 := by
  unfold fArity at h
  by_cases h1 : k = 1 ∨ k = 2
  · omega
  · rw [if_neg h1] at h
    by_cases h2 : k = 3 ∨ k = 6 ∨ k = 9 ∨ k = 10
    · omega
    · rw [if_neg h2] at h
      by_cases h3 : k = 4 ∨ k = 5 ∨ k = 7 ∨ k = 8
      · omega
      · rw [if_neg h3] at h; exact absurd rfl h

/-- What the first result of the program's count is. -/
def fcOut (d : Nat) (e : Ex) : Int := if fShape d e then (cnt d e : Int) else 0
theorem fcOut_true {d : Nat} {e : Ex} (h : fShape d e = true) : fcOut d e = cnt d e := by unfold fcOut; rw [if_pos h]
theorem fcOut_false {d : Nat} {e : Ex} (h : fShape d e = false) : fcOut d e = 0 := by unfold fcOut; rw [if_neg (by simp [h])]

theorem fShape_of_valid {e : Ex} (h : true = fValid e) : fShape 6 e = true := by
  unfold fValid at h
  cases hs : fShape 6 e
  · rw [hs] at h; exact absurd h (by simp)
  · rfl

theorem fNodes_pos {e : Ex} : decide (0 < fNodes e) = fValid e := by
  unfold fNodes
  cases h : fValid e
  · simp
  · have := cnt_pos 6 e
    simp; omega

end Go.Proofs.YtipicboilegieaaDoor
