/- Joined texts: Ft, Fm. Nothing is assumed. -/
import Derived.Test.YtcipnecdeipeaaaDoorE0
import Derived.Laws.BytesArg
import Derived.Test.YtcipnecdeipeaaaDoorBs
namespace Go.Proofs.YtcipnecdeipeaaaDoor
open Go.RowKit

/-- The sign of a kind. -/
def signB (k : Int) : Int := if k = 4 then 38 else if k = 5 then 124 else if k = 6 then 61 else if k = 7 then 60 else if k = 8 then 43 else 45
/-- The text of an expression of a depth. -/
def fmtE : Nat → Ex → ByteArray
  | 0, _ => ⟨#[]⟩
  | d + 1, .node k v kids => if k = 1 then strOfNums [48 + v] else if k = 2 then strOfNums [120 + v] else if k = 3 then (⟨#[33]⟩ : ByteArray) ++ fmtE d (kids.getD 0 default)
    else (⟨#[40]⟩ : ByteArray) ++ fmtE d (kids.getD 0 default) ++ strOfNums [signB k] ++ fmtE d (kids.getD 1 default) ++ (⟨#[41]⟩ : ByteArray)

theorem fmtE_const (d : Nat) (v : Int) (kids : List Ex) : fmtE (d + 1) (.node 1 v kids) = strOfNums [48 + v] := by simp [fmtE]
theorem fmtE_var (d : Nat) (v : Int) (kids : List Ex) : fmtE (d + 1) (.node 2 v kids) = strOfNums [120 + v] := by simp [fmtE]
theorem fmtE_not (d : Nat) (v : Int) {kids : List Ex} {x : Ex} (h : kids[0]? = some x) : fmtE (d + 1) (.node 3 v kids) = (⟨#[33]⟩ : ByteArray) ++ fmtE d x := by simp [fmtE, List.getD, h]
theorem fmtE_two (d : Nat) {k : Int} (v : Int) {kids : List Ex} {x y : Ex} (hk : 4 ≤ k) (h : kids[0]? = some x) (h1 : kids[1]? = some y) : fmtE (d + 1) (.node k v kids) = (⟨#[40]⟩ : ByteArray) ++ fmtE d x ++ strOfNums [signB k] ++ fmtE d y ++ (⟨#[41]⟩ : ByteArray) := by
  simp only [fmtE, List.getD, h, h1, Option.getD_some]
  rw [if_neg (by omega), if_neg (by omega), if_neg (by omega)]

theorem fmtE_size : ∀ (d : Nat) (e : Ex), (fmtE d e).size + 3 ≤ 3 * 2 ^ d := by
  intro d
  induction d with
  | zero => intro e; exact Nat.le_refl _
  | succ d ih =>
    rintro ⟨k, v, kids⟩
    have h2 : 1 ≤ 2 ^ d := Nat.one_le_two_pow
    have h3 : 2 ^ (d + 1) = 2 ^ d + 2 ^ d := by rw [Nat.pow_succ]; omega
    have i0 := ih (kids.getD 0 default)
    have i1 := ih (kids.getD 1 default)
    have c0 : (⟨#[33]⟩ : ByteArray).size = 1 := rfl
    have c1 : (⟨#[40]⟩ : ByteArray).size = 1 := rfl
    have c2 : (⟨#[41]⟩ : ByteArray).size = 1 := rfl
    simp only [fmtE]
    split
    · rw [strOfNums_size]; show 1 + 3 ≤ _; omega
    split
    · rw [strOfNums_size]; show 1 + 3 ≤ _; omega
    split
    · rw [ByteArray.size_append, c0]; omega
    · rw [ByteArray.size_append, ByteArray.size_append, ByteArray.size_append, ByteArray.size_append, strOfNums_size, c1, c2]
      simp only [List.length_cons, List.length_nil]
      omega
theorem fmtE_small {d : Nat} (h : d ≤ 6) (e : Ex) : (fmtE d e).size ≤ 192 := by
  have h1 := fmtE_size d e
  have h2 : 2 ^ d ≤ 2 ^ 6 := Nat.pow_le_pow_right (by omega) h
  omega

end Go.Proofs.YtcipnecdeipeaaaDoor
namespace Go.Proofs.YtcipnecdeipeaaaDoor
open Go.RowKit

/-- A text is returned. -/
def FmPost (b : ByteArray) (w : World) (e' : Ending) (w' : World) : Prop := e' = .returned (.string b) ∧ Below w.heap.size w w'
theorem ret_str {a b : ByteArray} (h : a = b) : Ending.returned (.string a) = Ending.returned (.string b) := by rw [h]

end Go.Proofs.YtcipnecdeipeaaaDoor
