/- Arguments of the type laws.System, opened. -/
import Derived.Test.YtanmlgnjgbdjiaaDoorOpenL
import Derived.Test.YtanmlgnjgbdjiaaDoorSys
namespace Go.Proofs.YtanmlgnjgbdjiaaDoor
open Go.ChangeShapes Go.WideShapes Go.ChangeAt Go.RowKit Go.Deep Go.Joins

section
variable {H : Type} {enc : TypeId × Value → H} {W : World} {sp : Nat → Bool}

theorem Tryd.cells79 : Tryd.prog.cellsOf 79 = 2 := by kernel_rfl
theorem Tryd.cells36 : Tryd.prog.cellsOf 36 = 2 := by kernel_rfl
theorem Tryd.cells77 : Tryd.prog.cellsOf 77 = 1 := by kernel_rfl
theorem Tryd.cells34 : Tryd.prog.cellsOf 34 = 1 := by kernel_rfl
theorem Tryd.cells33 : Tryd.prog.cellsOf 33 = 1 := by kernel_rfl

set_option maxRecDepth 100000 in
theorem opens_pr (hsp : ∀ b, sp b = true) : Opens enc W sp Lay.pr 79 := fun n cs x h => by
  obtain ⟨xs, n, _, rfl, hl, hlen, hf⟩ := DataW.trod_struct Tryd.underlying79 h
  rw [Tryd.cells79] at hl
  match xs, hlen, cs, hl with
  | [y0, y1], _, [c0, c1], _ =>
    have u0 := hf 0 _ rfl
    have u1 := hf 1 _ rfl
    simp [Tryd.cells3] at u0
    simp [Tryd.cells77] at u1
    obtain ⟨z0, p0⟩ := opens_int _ _ _ u0
    obtain ⟨z1, p1⟩ := opens_slice (t' := 60) hsp Tryd.underlying77 Tryd.cells93 (by decide) (opens_ed hsp) _ _ _ u1
    exact ⟨⟨z0, z1⟩, p0, p1⟩

set_option maxRecDepth 100000 in
theorem opens_sy (hsp : ∀ b, sp b = true) : Opens enc W sp Lay.sy 36 := fun n cs x h => by
  obtain ⟨xs, n, _, rfl, hl, hlen, hf⟩ := DataW.trod_struct Tryd.underlying36 h
  rw [Tryd.cells36] at hl
  match xs, hlen, cs, hl with
  | [y0, y1], _, [c0, c1], _ =>
    have u0 := hf 0 _ rfl
    have u1 := hf 1 _ rfl
    simp [Tryd.cells33] at u0
    simp [Tryd.cells34] at u1
    obtain ⟨z0, p0⟩ := opens_slice (t' := 3) hsp Tryd.underlying33 Tryd.cells3 (by decide) opens_int _ _ _ u0
    obtain ⟨z1, p1⟩ := opens_slice (t' := 57) hsp Tryd.underlying34 Tryd.cells79 (by decide) (opens_pr hsp) _ _ _ u1
    exact ⟨⟨z0, z1⟩, p0, p1⟩

set_option maxRecDepth 100000 in
theorem open_system {base : Nat} {v : Value} {d : DataW H} {p : List MemPlace} (hval : Value.okWide Tryd.prog W .any base 36 v) (h : DataW.Trod enc Tryd.prog W 0 (fun _ => true) true 36 v d p) :
    ∃ (s : Sy) (C : Nat → Value), v = .agg #[C 0, C 1] ∧ Lay.sy.lies W W.heap.size s C := by
  obtain ⟨cs, rfl, hsz⟩ := okWide_struct Tryd.underlying36 hval
  obtain ⟨c0, c1, rfl⟩ := array2 (hsz.trans Tryd.cells36)
  obtain ⟨fuel, hf⟩ := h
  obtain ⟨s, hs⟩ := opens_sy (fun _ => rfl) _ _ _ hf
  exact ⟨s, fun j => [c0, c1].getD j undef, rfl, hs⟩

end
end Go.Proofs.YtanmlgnjgbdjiaaDoor
