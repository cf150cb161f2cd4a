/- Arguments of the type laws.Automaton, opened. -/
import Derived.Test.YtldnegacgjijlaaOpenC
import Derived.Test.YtldnegacgjijlaaAuT
namespace Go.Proofs.Ytldnegacgjijlaa
open Go.ChangeShapes Go.WideShapes Go.ChangeAt Go.RowKit Go.Deep Go.Joins

section
variable {H : Type} {enc : TypeId × Value → H} {W : World} {sp : Nat → Bool}

theorem Try.cells4 : Try.prog.cellsOf 4 = 1 := by kernel_rfl
theorem Try.cells160 : Try.prog.cellsOf 160 = 4 := by kernel_rfl
theorem Try.cells27 : Try.prog.cellsOf 27 = 1 := by kernel_rfl
theorem Try.cells45 : Try.prog.cellsOf 45 = 1 := by kernel_rfl
theorem Try.cells47 : Try.prog.cellsOf 47 = 3 := by kernel_rfl

theorem opens_bo : Opens enc W sp Lay.bo 4 := fun n cs x h => by
  obtain ⟨k, rfl, _⟩ := DataW.trod_bool Try.underlying4 h
  exact ⟨k, rfl⟩
theorem opens_rin : Opens enc W sp Lay.rin 3 := fun n cs x h => by
  obtain ⟨k, rfl, _, hw⟩ := DataW.trod_int Try.underlying3 h
  refine ⟨k, rfl, ?_⟩
  simp [Lit.wf, IntKind.min, IntKind.max, IntKind.signed, IntKind.bits] at hw
  exact hw

set_option maxRecDepth 100000 in
theorem opens_tr : Opens enc W sp Lay.tr 160 := fun n cs x h => by
  obtain ⟨xs, n, _, rfl, hl, hlen, hf⟩ := DataW.trod_struct Try.underlying160 h
  rw [Try.cells160] at hl
  match xs, hlen, cs, hl with
  | [y0, y1, y2, y3], _, [c0, c1, c2, c3], _ =>
    have u0 := hf 0 _ rfl
    have u1 := hf 1 _ rfl
    have u2 := hf 2 _ rfl
    have u3 := hf 3 _ rfl
    simp [Try.cells3] at u0
    simp [Try.cells3] at u1
    simp [Try.cells3] at u2
    simp [Try.cells3] at u3
    obtain ⟨z0, p0⟩ := opens_rin _ _ _ u0
    obtain ⟨z1, p1⟩ := opens_rin _ _ _ u1
    obtain ⟨z2, p2⟩ := opens_rin _ _ _ u2
    obtain ⟨z3, p3⟩ := opens_rin _ _ _ u3
    exact ⟨⟨z0, z1, z2, z3⟩, p0, p1, p2, p3⟩

set_option maxRecDepth 100000 in
theorem opens_au (hsp : ∀ b, sp b = true) : Opens enc W sp Lay.au 47 := fun n cs x h => by
  obtain ⟨xs, n, _, rfl, hl, hlen, hf⟩ := DataW.trod_struct Try.underlying47 h
  rw [Try.cells47] at hl
  match xs, hlen, cs, hl with
  | [y0, y1, y2], _, [c0, c1, c2], _ =>
    have u0 := hf 0 _ rfl
    have u1 := hf 1 _ rfl
    have u2 := hf 2 _ rfl
    simp [Try.cells22] at u0
    simp [Try.cells27] at u1
    simp [Try.cells45] at u2
    obtain ⟨z0, p0⟩ := opens_slice (t' := 3) hsp Try.underlying22 Try.cells3 (by decide) opens_int _ _ _ u0
    obtain ⟨z1, p1⟩ := opens_slice (t' := 4) hsp Try.underlying27 Try.cells4 (by decide) opens_bo _ _ _ u1
    obtain ⟨z2, p2⟩ := opens_slice (t' := 116) hsp Try.underlying45 Try.cells160 (by decide) opens_tr _ _ _ u2
    exact ⟨⟨z0, z1, z2⟩, p0, p1, p2⟩

theorem array3 {cs : Array Value} (h : cs.size = 3) : ∃ a b c, cs = #[a, b, c] := by
  match cs, h with
  | ⟨[a, b, c]⟩, _ => exact ⟨a, b, c, rfl⟩

set_option maxRecDepth 100000 in
theorem open_automaton {base : Nat} {v : Value} {d : DataW H} {p : List MemPlace} (hval : Value.okWide Try.prog W .any base 47 v) (h : DataW.Trod enc Try.prog W 0 (fun _ => true) true 47 v d p) :
    ∃ (s : Au) (C : Nat → Value), v = .agg #[C 0, C 1, C 2] ∧ Lay.au.lies W W.heap.size s C := by
  obtain ⟨cs, rfl, hsz⟩ := okWide_struct Try.underlying47 hval
  obtain ⟨c0, c1, c2, rfl⟩ := array3 (hsz.trans Try.cells47)
  obtain ⟨fuel, hf⟩ := h
  obtain ⟨s, hs⟩ := opens_au (fun _ => rfl) _ _ _ hf
  exact ⟨s, fun j => [c0, c1, c2].getD j undef, rfl, hs⟩

end
end Go.Proofs.Ytldnegacgjijlaa
