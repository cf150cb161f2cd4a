/- A row of texts that a loop fills, one for each operand. Nothing is assumed. -/
import Derived.Test.YtljjbffdenfngaaDoorOwn
import Derived.Test.YtljjbffdenfngaaDoorOpenY
namespace Go.Proofs.YtljjbffdenfngaaDoor
open Go.RowKit

/-- The texts of the first j operands have been laid. -/
def LaidT (w : World) (g : Nat) (f : Ex → ByteArray) (kids : List Ex) (j : Nat) : Prop :=
  ∃ cs : Array Value, Row w g 9 cs ∧ cs.size = kids.length ∧ ∀ (i : Nat) (x : Ex), kids[i]? = some x → i < j → cs[i]? = some (.string (f x))

theorem LaidT.under {w w' : World} {g : Nat} {f : Ex → ByteArray} {kids : List Ex} {j : Nat} (h : LaidT w g f kids j) {B : Nat} (hb : Below B w w') (hg : g < B) : LaidT w' g f kids j := by
  obtain ⟨cs, hr, hs, hk⟩ := h
  exact ⟨cs, hr.under hb hg, hs, hk⟩
theorem LaidT.cell {w : World} {g : Nat} {f : Ex → ByteArray} {kids : List Ex} {j : Nat} (h : LaidT w g f kids j) (hj : j < kids.length) : (∃ u, w.cell? ⟨g, j, none⟩ = some u) ∧ w.frozen? ⟨g, j, none⟩ = false := by
  obtain ⟨cs, hr, hs, hk⟩ := h
  exact ⟨⟨cs[j], by rw [hr.cell]; exact Array.getElem?_eq_getElem _⟩, hr.frozen j⟩
theorem LaidT.lt {w : World} {g : Nat} {f : Ex → ByteArray} {kids : List Ex} {j : Nat} (h : LaidT w g f kids j) : g < w.heap.size := by
  obtain ⟨cs, hr, _⟩ := h
  exact hr.lt
theorem LaidT.step {w : World} {g : Nat} {f : Ex → ByteArray} {kids : List Ex} {j : Nat} (h : LaidT w g f kids j) (hj : j < kids.length) {x : Ex} (hx : kids[j]? = some x) :
    LaidT (w.setCell ⟨g, j, none⟩ (.string (f x))) g f kids (j + 1) := by
  obtain ⟨cs, hr, hs, hk⟩ := h
  refine ⟨cs.setIfInBounds j _, hr.set_ _ _, by simpa using hs, fun i y hy hi => ?_⟩
  rw [Array.getElem?_setIfInBounds]
  by_cases e : j = i
  · subst e
    rw [hx] at hy
    injection hy with hy
    subst hy
    rw [if_pos rfl, if_pos (by omega)]
  · rw [if_neg e]
    exact hk i y hy (by omega)
theorem LaidT.get {w : World} {g : Nat} {f : Ex → ByteArray} {kids : List Ex} (h : LaidT w g f kids kids.length) {i : Nat} {x : Ex} (hx : kids[i]? = some x) : w.cell? ⟨g, i, none⟩ = some (.string (f x)) := by
  obtain ⟨cs, hr, hs, hk⟩ := h
  rw [hr.cell]
  exact hk i x hx (List.getElem?_eq_some_iff.1 hx).1

theorem Tryd.info9 : (Tryd.prog.info? 9).map (fun i => (i.zero, i.size, i.bytes)) = some (some (.string ⟨#[]⟩), 1, 16) := by kernel_rfl

end Go.Proofs.YtljjbffdenfngaaDoor
