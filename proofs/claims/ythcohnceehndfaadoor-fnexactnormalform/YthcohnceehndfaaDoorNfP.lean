/- The normal form as plain data, and its size. Nothing is assumed. -/
import Derived.Test.YthcohnceehndfaaDoorNgP
namespace Go.Proofs.YthcohnceehndfaaDoor
open Go.RowKit

/-- The dual of a binary kind. -/
def fDual (k : Int) : Int := if k = 4 then 5 else if k = 5 then 4 else if k = 7 then 8 else 7
/-- The formula that is always true. -/
def fTrue : Ex := .node 1 0 []
/-- A leaf, or its negation. -/
def fLit (p : Bool) (e : Ex) : Ex := if p then e else fNot e

/-- The normal form of a formula (p), or of its negation. -/
def nf : Nat → Bool → Ex → Ex
  | 0, _, _ => zeroE
  | d + 1, p, .node k v kids =>
    if k = 1 ∨ k = 2 then fLit p (.node k v [])
    else if k = 3 then nf d (!p) (kids.getD 0 default)
    else if k = 6 then .node 6 0 [nf d p (kids.getD 0 default)]
    else if k = 9 then .node (if p then 7 else 8) 0 [fLit p fTrue, nf d p (kids.getD 0 default)]
    else if k = 10 then .node (if p then 8 else 7) 0 [fLit (!p) fTrue, nf d p (kids.getD 0 default)]
    else .node (if p then k else fDual k) 0 [nf d p (kids.getD 0 default), nf d p (kids.getD 1 default)]

theorem nf_leaf (d : Nat) (p : Bool) {k : Int} (v : Int) (kids : List Ex) (hk : k = 1 ∨ k = 2) : nf (d + 1) p (.node k v kids) = fLit p (.node k v []) := by
  simp only [nf]; rw [if_pos hk]
theorem nf_not (d : Nat) (p : Bool) (v : Int) (x : Ex) : nf (d + 1) p (.node 3 v [x]) = nf d (!p) x := by
  simp [nf]
theorem nf_next (d : Nat) (p : Bool) (v : Int) (x : Ex) : nf (d + 1) p (.node 6 v [x]) = .node 6 0 [nf d p x] := by
  simp [nf]
theorem nf_ev (d : Nat) (p : Bool) (v : Int) (x : Ex) : nf (d + 1) p (.node 9 v [x]) = .node (if p then 7 else 8) 0 [fLit p fTrue, nf d p x] := by
  simp [nf]
theorem nf_al (d : Nat) (p : Bool) (v : Int) (x : Ex) : nf (d + 1) p (.node 10 v [x]) = .node (if p then 8 else 7) 0 [fLit (!p) fTrue, nf d p x] := by
  simp [nf]
theorem nf_two (d : Nat) (p : Bool) {k : Int} (v : Int) (x y : Ex) (hk : k = 4 ∨ k = 5 ∨ k = 7 ∨ k = 8) : nf (d + 1) p (.node k v [x, y]) = .node (if p then k else fDual k) 0 [nf d p x, nf d p y] := by
  simp only [nf]; rw [if_neg (by omega), if_neg (by omega), if_neg (by omega), if_neg (by omega), if_neg (by omega)]; rfl

theorem desc_fLit (p : Bool) (k v : Int) : desc (fLit p (.node k v [])) ≤ 1 := by
  cases p <;> simp [fLit, fNot, desc, descL]

theorem nf_size : ∀ (d : Nat) (p : Bool) (e : Ex), desc (nf d p e) + 4 ≤ 4 * 2 ^ d := by
  intro d
  induction d with
  | zero => intro p e; simp [nf, zeroE, desc, descL]
  | succ d ih =>
    rintro p ⟨k, v, kids⟩
    have h2 : 1 ≤ 2 ^ d := Nat.one_le_two_pow
    have h3 : 2 ^ (d + 1) = 2 ^ d + 2 ^ d := by rw [Nat.pow_succ]; omega
    have i0 := ih p (kids.getD 0 default)
    have i1 := ih p (kids.getD 1 default)
    have j0 := ih (!p) (kids.getD 0 default)
    have l0 := desc_fLit p k v
    have l1 := desc_fLit p 1 0
    have l2 := desc_fLit (!p) 1 0
    simp only [nf]
    split
    · omega
    split
    · omega
    split
    · simp only [desc, descL]; omega
    split
    · simp only [desc, descL, fTrue] at *; omega
    split
    · simp only [desc, descL, fTrue] at *; omega
    · simp only [desc, descL]; omega
theorem nf_small {d : Nat} (h : d ≤ 6) (p : Bool) (e : Ex) : desc (nf d p e) ≤ 252 := by
  have h1 := nf_size d p e
  have h2 : 2 ^ d ≤ 2 ^ 6 := Nat.pow_le_pow_right (by omega) h
  omega

/-- What NormalForm answers. -/
def nfOk (e : Ex) : Bool := fValid e && fValid (nf 6 true e)
def nfOut (e : Ex) : Ex := if fValid e then onlyOut (nf 6 true e) else zeroE

theorem desc_nfOut (e : Ex) : desc (nfOut e) ≤ 64 := by
  unfold nfOut
  split
  · have := desc_onlyOut (nf 6 true e); omega
  · simp [zeroE, desc, descL]

end Go.Proofs.YthcohnceehndfaaDoor
