/- The period of a loop and the reduced lasso, as plain data. -/
import Derived.Test.YtogfpgkdofhoaaaStD
namespace Go.Proofs.Ytogfpgkdofhoaaa
namespace La
open Go.RowKit

/-- Up to place i each letter equals the one p places before; p divides the length. -/
def okAt (zs : List Int) (p i : Nat) : Bool := decide (zs.length % p = 0) && (List.range i).all fun j => decide (j < p) || decide (zs[j]? = zs[j - p]?)
def isPer (zs : List Int) (p : Nat) : Bool := okAt zs p zs.length
theorem okAt_start {zs : List Int} {p : Nat} : okAt zs p p = decide (zs.length % p = 0) := by
  unfold okAt
  have : ((List.range p).all fun j => decide (j < p) || decide (zs[j]? = zs[j - p]?)) = true := by
    rw [List.all_eq_true]
    intro j hj
    rw [decide_eq_true (List.mem_range.1 hj)]
    rfl
  rw [this, Bool.and_true]
theorem okAt_step {zs : List Int} {p i : Nat} (h : p ≤ i) : okAt zs p (i + 1) = (okAt zs p i && decide (zs[i]? = zs[i - p]?)) := by
  unfold okAt
  rw [List.range_succ, List.all_append, ← Bool.and_assoc]
  congr 1
  simp only [List.all_cons, List.all_nil, Bool.and_true]
  rw [decide_eq_false (show ¬ i < p by omega), Bool.false_or]
theorem okAt_false {zs : List Int} {p i : Nat} (hp : p ≤ i) (h : okAt zs p i = false) : ∀ d, okAt zs p (i + d) = false := by
  intro d
  induction d with
  | zero => exact h
  | succ d ih =>
    show okAt zs p (i + d + 1) = false
    rw [okAt_step (by omega), ih]
    rfl
theorem isPer_false {zs : List Int} {p i : Nat} (hp : p ≤ i) (hi : i ≤ zs.length) (h : okAt zs p i = false) : isPer zs p = false := by
  have := okAt_false hp h (zs.length - i)
  rw [show i + (zs.length - i) = zs.length by omega] at this
  exact this
theorem isPer_all (zs : List Int) : isPer zs zs.length = true := by
  unfold isPer
  rw [okAt_start, Nat.mod_self]
  rfl
theorem isPer_no {zs : List Int} {p : Nat} (h : zs.length % p ≠ 0) : isPer zs p = false := by
  unfold isPer okAt
  rw [decide_eq_false h, Bool.false_and]
theorem isPer_cut {zs : List Int} {p : Nat} (h : zs.length % p = 0) (hp : p ≤ zs.length) : isPer zs p = decide (zs.drop p = zs.take (zs.length - p)) := by
  unfold isPer okAt
  rw [decide_eq_true h, Bool.true_and, Bool.eq_iff_iff, List.all_eq_true, decide_eq_true_eq]
  constructor
  · intro ha
    apply List.ext_getElem?
    intro j
    rw [List.getElem?_drop, List.getElem?_take]
    by_cases hj : j < zs.length - p
    · rw [if_pos hj]
      have := ha (p + j) (List.mem_range.2 (by omega))
      simp only [Bool.or_eq_true, decide_eq_true_eq] at this
      rcases this with h1 | h1
      · omega
      · rw [h1, show p + j - p = j by omega]
    · rw [if_neg hj, List.getElem?_eq_none (by omega)]
  · intro he j hj
    have hj' := List.mem_range.1 hj
    by_cases hjp : j < p
    · rw [decide_eq_true hjp]; rfl
    · have h1 : (zs.drop p)[j - p]? = (zs.take (zs.length - p))[j - p]? := by rw [he]
      rw [List.getElem?_drop, List.getElem?_take, if_pos (by omega), show p + (j - p) = j by omega] at h1
      rw [decide_eq_true h1, Bool.or_true]
def perGo (zs : List Int) : Nat → Nat → Nat
  | 0, p => p
  | f + 1, p => if isPer zs p then p else perGo zs f (p + 1)
/-- The least period. -/
def per (zs : List Int) : Nat := perGo zs zs.length 1
theorem perGo_eq {zs : List Int} {t : Nat} (ht : isPer zs t = true) : ∀ f p, p ≤ t → t < p + f → (∀ q, p ≤ q → q < t → isPer zs q = false) → perGo zs f p = t := by
  intro f
  induction f with
  | zero => intro p h1 h2 _; omega
  | succ f ih =>
    intro p h1 h2 h3
    unfold perGo
    by_cases e : p = t
    · subst e
      rw [if_pos ht]
    · rw [if_neg (by rw [h3 p (Nat.le_refl _) (by omega)]; exact Bool.false_ne_true)]
      exact ih (p + 1) (by omega) (by omega) (fun q a b => h3 q (by omega) b)
theorem per_eq {zs : List Int} {t : Nat} (ht : isPer zs t = true) (h1 : 1 ≤ t) (h2 : t ≤ zs.length) (h3 : ∀ q, 1 ≤ q → q < t → isPer zs q = false) : per zs = t := perGo_eq ht _ _ h1 (by omega) h3
theorem perGo_bound {zs : List Int} : ∀ f p, p + f = zs.length + 1 → 1 ≤ p → 1 ≤ f → p ≤ perGo zs f p ∧ perGo zs f p ≤ zs.length := by
  intro f
  induction f with
  | zero => intro p _ _ h; omega
  | succ f ih =>
    intro p h1 h2 _
    unfold perGo
    by_cases e : isPer zs p = true
    · rw [if_pos e]; omega
    · rw [if_neg e]
      by_cases hp : p = zs.length
      · subst hp; rw [isPer_all] at e; exact absurd rfl e
      · have := ih (p + 1) (by omega) (by omega) (by omega)
        omega
theorem per_bound {zs : List Int} (hl : 1 ≤ zs.length) : 1 ≤ per zs ∧ per zs ≤ zs.length := perGo_bound _ _ (by omega) (Nat.le_refl _) hl

/-- The last letter goes to the front. -/
def rotL (l : List Int) : List Int := l.drop (l.length - 1) ++ l.take (l.length - 1)
theorem rotL_length (l : List Int) : (rotL l).length = l.length := by unfold rotL; rw [List.length_append, List.length_drop, List.length_take]; omega
theorem rotL_cons {l : List Int} {m : Nat} {z : Int} (hm : l.length = m + 1) (hz : l[m]? = some z) : rotL l = [z] ++ l.take m := by
  unfold rotL
  rw [hm, show m + 1 - 1 = m by omega]
  congr 1
  apply List.ext_getElem?
  intro i
  rw [List.getElem?_drop]
  cases i with
  | zero => rw [Nat.add_zero, hz]; rfl
  | succ i => rw [List.getElem?_eq_none (by omega)]; rfl
/-- The first k letters of a stem and a loop, reduced. -/
def redK (S : List Int) : Nat → List Int → St
  | 0, l => ⟨[], l⟩
  | k + 1, l => if S[k]? = l[l.length - 1]? then redK S k (rotL l) else ⟨S.take (k + 1), l⟩
theorem redK_go {S l : List Int} {k : Nat} (h : S[k]? = l[l.length - 1]?) : redK S (k + 1) l = redK S k (rotL l) := by
  rw [redK, if_pos h]
theorem redK_stop {S l : List Int} {k : Nat} (h : ¬ S[k]? = l[l.length - 1]?) : redK S (k + 1) l = ⟨S.take (k + 1), l⟩ := by
  rw [redK, if_neg h]
theorem redK_len (S : List Int) : ∀ k l, (redK S k l).locs.length ≤ k ∧ (redK S k l).vals.length = l.length := by
  intro k
  induction k with
  | zero => intro l; exact ⟨Nat.le_refl _, rfl⟩
  | succ k ih =>
    intro l
    rw [redK]
    split
    · have := ih (rotL l)
      rw [rotL_length] at this
      exact ⟨by omega, this.2⟩
    · refine ⟨?_, rfl⟩
      show (S.take (k + 1)).length ≤ _
      rw [List.length_take]
      omega

end La
end Go.Proofs.Ytogfpgkdofhoaaa
