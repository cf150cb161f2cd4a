/- Of a valid formula's operands: each is valid, and their nodes and one more are the formula's. -/
import Derived.Test.YtipicboilegieaaDoorNgP
namespace Go.Proofs.YtipicboilegieaaDoor
open Go.RowKit

theorem fShape_deeper : ∀ (d : Nat) (e : Ex), fShape d e = true → fShape (d + 1) e = true := by
  intro d
  induction d with
  | zero => intro e h; simp [fShape] at h
  | succ d ih =>
    rintro ⟨k, v, kids⟩ h
    have h' : (fRoot k v kids.length && kids.all (fShape d)) = true := h
    show (fRoot k v kids.length && kids.all (fShape (d + 1))) = true
    rw [Bool.and_eq_true] at h' ⊢
    exact ⟨h'.1, List.all_eq_true.2 fun x hx => ih x (List.all_eq_true.1 h'.2 x hx)⟩

theorem kid_fnodes {k v : Int} {kids : List Ex} (h : true = fValid (.node k v kids)) {i : Nat} {x : Ex} (hx : kids[i]? = some x) : fNodes x = (cnt 5 x : Int) ∧ cnt 5 x ≤ 12 := by
  have h5 : fShape 5 x = true := fShape_kid (fShape_of_valid h) hx
  have h6 := fShape_deeper 5 x h5
  have hc : cnt 6 x = cnt 5 x := by rw [cnt_fShape 6 x h6, cnt_fShape 5 x h5]
  have hle : cnt 6 (.node k v kids) ≤ 12 := by
    unfold fValid at h
    simp only [Bool.true_eq, Bool.and_eq_true, decide_eq_true_eq] at h
    exact h.2
  have hlt : cnt 5 x < cnt 6 (.node k v kids) := by
    have h1 := sum_take_succ (f := cnt 5) hx
    have h2 := sum_take_le (cnt 5) kids (i + 1)
    show cnt 5 x < 1 + (kids.map (cnt 5)).sum
    omega
  have hv : fValid x = true := by
    unfold fValid
    rw [h6, Bool.true_and, decide_eq_true_eq]
    omega
  refine ⟨?_, by omega⟩
  unfold fNodes
  rw [if_pos hv, hc]

theorem root_fnodes {k v : Int} {kids : List Ex} (h : true = fValid (.node k v kids)) : fNodes (.node k v kids) = ((1 + (kids.map (cnt 5)).sum : Nat) : Int) ∧ 1 + (kids.map (cnt 5)).sum ≤ 12 := by
  refine ⟨?_, ?_⟩
  · unfold fNodes
    rw [if_pos h.symm]
    rfl
  · unfold fValid at h
    simp only [Bool.true_eq, Bool.and_eq_true, decide_eq_true_eq] at h
    exact h.2

end Go.Proofs.YtipicboilegieaaDoor
