/- Arguments of the type laws.System, opened. -/
import Derived.Test.YtponbjclecdafaaOpenL
import Derived.Test.YtponbjclecdafaaSys
namespace Go.Proofs.Ytponbjclecdafaa
open Go.ChangeShapes Go.WideShapes Go.ChangeAt Go.RowKit Go.Deep Go.Joins

section
variable {H : Type} {enc : TypeId × Value → H} {W : World} {sp : Nat → Bool}

theorem Try.cells203 : Try.prog.cellsOf 203 = 2 := by kernel_rfl
theorem Try.cells90 : Try.prog.cellsOf 90 = 2 := by kernel_rfl
theorem Try.cells201 : Try.prog.cellsOf 201 = 1 := by kernel_rfl
theorem Try.cells88 : Try.prog.cellsOf 88 = 1 := by kernel_rfl

set_option maxRecDepth 100000 in
theorem opens_pr (hsp : ∀ b, sp b = true) : Opens enc W sp Lay.pr 203 := fun n cs x h => by
  obtain ⟨xs, n, _, rfl, hl, hlen, hf⟩ := DataW.trod_struct Try.underlying203 h
  rw [Try.cells203] at hl
  match xs, hlen, cs, hl with
  | [y0, y1], _, [c0, c1], _ =>
    have u0 := hf 0 _ rfl
    have u1 := hf 1 _ rfl
    simp [Try.cells3] at u0
    simp [Try.cells201] at u1
    obtain ⟨z0, p0⟩ := opens_int _ _ _ u0
    obtain ⟨z1, p1⟩ := opens_slice (t' := 154) hsp Try.underlying201 Try.cells222 (by decide) (opens_ed hsp) _ _ _ u1
    exact ⟨⟨z0, z1⟩, p0, p1⟩

set_option maxRecDepth 100000 in
theorem opens_sy (hsp : ∀ b, sp b = true) : Opens enc W sp Lay.sy 90 := fun n cs x h => by
  obtain ⟨xs, n, _, rfl, hl, hlen, hf⟩ := DataW.trod_struct Try.underlying90 h
  rw [Try.cells90] at hl
  match xs, hlen, cs, hl with
  | [y0, y1], _, [c0, c1], _ =>
    have u0 := hf 0 _ rfl
    have u1 := hf 1 _ rfl
    simp [Try.cells29] at u0
    simp [Try.cells88] at u1
    obtain ⟨z0, p0⟩ := opens_slice (t' := 3) hsp Try.underlying29 Try.cells3 (by decide) opens_int _ _ _ u0
    obtain ⟨z1, p1⟩ := opens_slice (t' := 152) hsp Try.underlying88 Try.cells203 (by decide) (opens_pr hsp) _ _ _ u1
    exact ⟨⟨z0, z1⟩, p0, p1⟩

set_option maxRecDepth 100000 in
theorem open_system {base : Nat} {v : Value} {d : DataW H} {p : List MemPlace} (hval : Value.okWide Try.prog W .any base 90 v) (h : DataW.Trod enc Try.prog W 0 (fun _ => true) true 90 v d p) :
    ∃ (s : Sy) (C : Nat → Value), v = .agg #[C 0, C 1] ∧ Lay.sy.lies W W.heap.size s C := by
  obtain ⟨cs, rfl, hsz⟩ := okWide_struct Try.underlying90 hval
  obtain ⟨c0, c1, rfl⟩ := array2 (hsz.trans Try.cells90)
  obtain ⟨fuel, hf⟩ := h
  obtain ⟨s, hs⟩ := opens_sy (fun _ => rfl) _ _ _ hf
  exact ⟨s, fun j => [c0, c1].getD j undef, rfl, hs⟩

end
end Go.Proofs.Ytponbjclecdafaa
