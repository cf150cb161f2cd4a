/- The text of a formula, as plain data. -/
import Derived.Test.YthcohnceehndfaaDoorNgP
import Derived.Test.YthcohnceehndfaaDoorFvR
import Derived.Laws.BytesArg
namespace Go.Proofs.YthcohnceehndfaaDoor
open Go.RowKit

/-- The sign of a kind. -/
def fSg (k : Int) : ByteArray := fSigns.getD k.toNat ⟨#[]⟩
/-- The text of a formula of a depth. -/
def fmtF : Nat → Ex → ByteArray
  | 0, _ => ⟨#[]⟩
  | d + 1, .node k v kids => if k = 1 then ⟨#[84]⟩ else if k = 2 then strOfNums [112 + v] else if fArity k = 1 then fSg k ++ fmtF d (kids.getD 0 default)
    else (⟨#[40]⟩ : ByteArray) ++ fmtF d (kids.getD 0 default) ++ fSg k ++ fmtF d (kids.getD 1 default) ++ (⟨#[41]⟩ : ByteArray)

theorem fmtF_true (d : Nat) (v : Int) (kids : List Ex) : fmtF (d + 1) (.node 1 v kids) = ⟨#[84]⟩ := by simp [fmtF]
theorem fmtF_atom (d : Nat) (v : Int) (kids : List Ex) : fmtF (d + 1) (.node 2 v kids) = strOfNums [112 + v] := by simp [fmtF]
theorem fmtF_one (d : Nat) {k : Int} (v : Int) {kids : List Ex} {x : Ex} (hk : k = 3 ∨ k = 6 ∨ k = 9 ∨ k = 10) (h : kids[0]? = some x) : fmtF (d + 1) (.node k v kids) = fSg k ++ fmtF d x := by
  have ha : fArity k = 1 := by unfold fArity; rw [if_neg (by omega), if_pos hk]
  simp only [fmtF, List.getD, h, Option.getD_some]
  rw [if_neg (by omega), if_neg (by omega), if_pos ha]
theorem fmtF_two (d : Nat) {k : Int} (v : Int) {kids : List Ex} {x y : Ex} (hk : k = 4 ∨ k = 5 ∨ k = 7 ∨ k = 8) (h : kids[0]? = some x) (h1 : kids[1]? = some y) : fmtF (d + 1) (.node k v kids) = (⟨#[40]⟩ : ByteArray) ++ fmtF d x ++ fSg k ++ fmtF d y ++ (⟨#[41]⟩ : ByteArray) := by
  have ha : ¬ fArity k = 1 := by unfold fArity; rw [if_neg (by omega), if_neg (by omega), if_pos hk]; omega
  simp only [fmtF, List.getD, h, h1, Option.getD_some]
  rw [if_neg (by omega), if_neg (by omega), if_neg ha]

theorem fSg_size (k : Int) : (fSg k).size ≤ 1 := by
  unfold fSg
  generalize k.toNat = n
  match n with
  | 0 | 1 | 2 | 3 | 4 | 5 | 6 | 7 | 8 | 9 | 10 => exact Nat.le_of_ble_eq_true rfl
  | n + 11 => exact Nat.le_of_ble_eq_true rfl

theorem fmtF_size : ∀ (d : Nat) (e : Ex), (fmtF d e).size + 3 ≤ 3 * 2 ^ d := by
  intro d
  induction d with
  | zero => intro e; exact Nat.le_refl _
  | succ d ih =>
    rintro ⟨k, v, kids⟩
    have h2 : 1 ≤ 2 ^ d := Nat.one_le_two_pow
    have h3 : 2 ^ (d + 1) = 2 ^ d + 2 ^ d := by rw [Nat.pow_succ]; omega
    have i0 := ih (kids.getD 0 default)
    have i1 := ih (kids.getD 1 default)
    have c0 : (⟨#[84]⟩ : ByteArray).size = 1 := rfl
    have c1 : (⟨#[40]⟩ : ByteArray).size = 1 := rfl
    have c2 : (⟨#[41]⟩ : ByteArray).size = 1 := rfl
    have c3 := fSg_size k
    simp only [fmtF]
    split
    · rw [c0]; omega
    split
    · rw [strOfNums_size]; show 1 + 3 ≤ _; omega
    split
    · rw [ByteArray.size_append]; omega
    · rw [ByteArray.size_append, ByteArray.size_append, ByteArray.size_append, ByteArray.size_append, c1, c2]
      omega
theorem fmtF_small {d : Nat} (h : d ≤ 6) (e : Ex) : (fmtF d e).size ≤ 192 := by
  have h1 := fmtF_size d e
  have h2 : 2 ^ d ≤ 2 ^ 6 := Nat.pow_le_pow_right (by omega) h
  omega

/-- The text that FormatFormula answers. -/
def fmtFX (e : Ex) : ByteArray := if fValid e then fmtF 6 e else ⟨#[]⟩

theorem fRoot_cases {k v : Int} {n : Nat} (h : fRoot k v n = true) : k = 1 ∧ v = 0 ∧ n = 0 ∨ k = 2 ∧ 0 ≤ v ∧ v ≤ 2 ∧ n = 0 ∨ (k = 3 ∨ k = 6 ∨ k = 9 ∨ k = 10) ∧ v = 0 ∧ n = 1 ∨ (k = 4 ∨ k = 5 ∨ k = 7 ∨ k = 8) ∧ v = 0 ∧ n = 2 := by
  obtain ⟨h1, h2, h3⟩ := fRoot_parts h
  unfold fLimit at h3
  unfold fArity at h1
  by_cases a : k = 1
  · rw [if_pos (by omega)] at h1; rw [if_neg (by omega)] at h3; omega
  by_cases b : k = 2
  · rw [if_pos (by omega)] at h1; rw [if_pos b] at h3; omega
  rw [if_neg (by omega)] at h1 h3
  by_cases c : k = 3 ∨ k = 6 ∨ k = 9 ∨ k = 10
  · rw [if_pos c] at h1; omega
  rw [if_neg c] at h1
  by_cases e : k = 4 ∨ k = 5 ∨ k = 7 ∨ k = 8
  · rw [if_pos e] at h1; omega
  · rw [if_neg e] at h1; omega

end Go.Proofs.YthcohnceehndfaaDoor
