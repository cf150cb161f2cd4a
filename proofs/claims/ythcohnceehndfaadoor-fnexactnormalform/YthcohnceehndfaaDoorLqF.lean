/- A row that a loop fills with one value for each operand, of which something is known. Nothing is assumed. -/
import Derived.Test.YthcohnceehndfaaDoorOwn
namespace Go.Proofs.YthcohnceehndfaaDoor
open Go.RowKit

/-- The values of the first j operands have been laid. -/
def LaidQ (w : World) (g : Nat) (t : TypeId) (P : Ex → Value → Prop) (kids : List Ex) (j : Nat) : Prop :=
  ∃ cs : Array Value, Row w g t cs ∧ cs.size = kids.length ∧ ∀ (i : Nat) (x : Ex), kids[i]? = some x → i < j → ∃ nv, cs[i]? = some nv ∧ P x nv

section
variable {w w' : World} {g : Nat} {t : TypeId} {P : Ex → Value → Prop} {kids : List Ex} {j : Nat}
theorem LaidQ.under (h : LaidQ w g t P kids j) {B : Nat} (hb : Below B w w') (hg : g < B) : LaidQ w' g t P kids j := by
  obtain ⟨cs, hr, hs, hk⟩ := h
  exact ⟨cs, hr.under hb hg, hs, hk⟩
theorem LaidQ.cell (h : LaidQ w g t P kids j) (hj : j < kids.length) : (∃ u, w.cell? ⟨g, j, none⟩ = some u) ∧ w.frozen? ⟨g, j, none⟩ = false := by
  obtain ⟨cs, hr, hs, hk⟩ := h
  exact ⟨⟨cs[j], by rw [hr.cell]; exact Array.getElem?_eq_getElem _⟩, hr.frozen j⟩
theorem LaidQ.lt (h : LaidQ w g t P kids j) : g < w.heap.size := by
  obtain ⟨cs, hr, _⟩ := h
  exact hr.lt
theorem LaidQ.step (h : LaidQ w g t P kids j) (hj : j < kids.length) {x : Ex} (hx : kids[j]? = some x) {nv : Value} (hn : P x nv) :
    LaidQ (w.setCell ⟨g, j, none⟩ nv) g t P kids (j + 1) := by
  obtain ⟨cs, hr, hs, hk⟩ := h
  refine ⟨cs.setIfInBounds j nv, hr.set_ _ _, by simpa using hs, fun i y hy hi => ?_⟩
  rw [Array.getElem?_setIfInBounds]
  by_cases e : j = i
  · subst e
    rw [hx] at hy
    injection hy with hy
    subst hy
    exact ⟨nv, by rw [if_pos rfl, if_pos (by omega)], hn⟩
  · rw [if_neg e]
    exact hk i y hy (by omega)
theorem LaidQ.get (h : LaidQ w g t P kids kids.length) {i : Nat} {x : Ex} (hx : kids[i]? = some x) : ∃ nv, w.cell? ⟨g, i, none⟩ = some nv ∧ P x nv := by
  obtain ⟨cs, hr, hs, hk⟩ := h
  obtain ⟨nv, h1, h2⟩ := hk i x hx (List.getElem?_eq_some_iff.1 hx).1
  exact ⟨nv, by rw [hr.cell]; exact h1, h2⟩
end

end Go.Proofs.YthcohnceehndfaaDoor
