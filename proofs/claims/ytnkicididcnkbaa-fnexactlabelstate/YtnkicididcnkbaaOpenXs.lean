/- An argument that is a slice of expressions, opened. -/
import Derived.Test.YtnkicididcnkbaaOpenX
import Derived.Test.YtnkicididcnkbaaExS
namespace Go.Proofs.Ytnkicididcnkbaa
open Go.ChangeShapes Go.WideShapes Go.ChangeAt Go.RowKit Go.Deep Go.Joins

section
variable {H : Type} {enc : TypeId × Value → H} {W : World} {sp : Nat → Bool}

theorem opens_exs (hsp : ∀ b, sp b = true) : Opens enc W sp Lay.exs 22 := opens_slice (t' := 76) hsp Try.underlying22 Try.cells72 (by decide) (opens_ex hsp)

set_option maxRecDepth 100000 in
theorem open_exs {base : Nat} {v : Value} {d : DataW H} {p : List MemPlace} (hval : Value.okWide Try.prog W .any base 22 v) (h : DataW.Trod enc Try.prog W 0 (fun _ => true) true 22 v d p) :
    ∃ (s : List Ex) (C : Nat → Value), v = C 0 ∧ Lay.exs.lies W W.heap.size s C := by
  obtain ⟨a, l, c, rfl⟩ := okWide_slice Try.underlying22 hval
  obtain ⟨fuel, hf⟩ := h
  obtain ⟨s, hs⟩ := opens_exs (fun _ => rfl) _ _ _ hf
  exact ⟨s, _, rfl, hs⟩

end
end Go.Proofs.Ytnkicididcnkbaa
