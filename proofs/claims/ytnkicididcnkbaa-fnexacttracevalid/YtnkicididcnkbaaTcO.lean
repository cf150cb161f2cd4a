/- An argument of the type laws.Trace, opened. -/
import Derived.Test.YtnkicididcnkbaaOpenG
import Derived.Test.YtnkicididcnkbaaTcY
namespace Go.Proofs.Ytnkicididcnkbaa
namespace Tc
open Go.ChangeShapes Go.WideShapes Go.ChangeAt Go.RowKit Go.Deep Go.Joins

section
variable {H : Type} {enc : TypeId × Value → H} {W : World} {sp : Nat → Bool}

theorem Try.cells44 : Try.prog.cellsOf 44 = 2 := by kernel_rfl

set_option maxRecDepth 100000 in
theorem opens_trace (hsp : ∀ b, sp b = true) : Opens enc W sp trc 44 := fun n cs x h => by
  obtain ⟨xs, n, _, rfl, hl, hlen, hf⟩ := DataW.trod_struct Try.underlying44 h
  rw [Try.cells44] at hl
  match xs, hlen, cs, hl with
  | [y0, y1], _, [c0, c1], _ =>
    have u0 := hf 0 _ rfl
    have u1 := hf 1 _ rfl
    simp [Try.cells29] at u0
    simp [Try.cells29] at u1
    obtain ⟨z0, p0⟩ := opens_ints hsp _ _ _ u0
    obtain ⟨z1, p1⟩ := opens_ints hsp _ _ _ u1
    exact ⟨⟨z0, z1⟩, p0, p1⟩

set_option maxRecDepth 100000 in
theorem open_trace {base : Nat} {v : Value} {d : DataW H} {p : List MemPlace} (hval : Value.okWide Try.prog W .any base 44 v) (h : DataW.Trod enc Try.prog W 0 (fun _ => true) true 44 v d p) :
    ∃ (s : St) (C : Nat → Value), v = .agg #[C 0, C 1] ∧ trc.lies W W.heap.size s C := by
  obtain ⟨cs, rfl, hsz⟩ := okWide_struct Try.underlying44 hval
  obtain ⟨c0, c1, rfl⟩ := array2 (hsz.trans Try.cells44)
  obtain ⟨fuel, hf⟩ := h
  obtain ⟨s, hs⟩ := opens_trace (fun _ => rfl) _ _ _ hf
  exact ⟨s, fun j => [c0, c1].getD j undef, rfl, hs⟩

end
end Tc
end Go.Proofs.Ytnkicididcnkbaa
