/- Arguments of the type laws.State, opened. -/
import Derived.Test.YtldnegacgjijlaaOpenC
import Derived.Test.YtldnegacgjijlaaSta
namespace Go.Proofs.Ytldnegacgjijlaa
open Go.ChangeShapes Go.WideShapes Go.ChangeAt Go.RowKit Go.Deep Go.Joins

section
variable {H : Type} {enc : TypeId × Value → H} {W : World} {sp : Nat → Bool}

theorem Try.cells172 : Try.prog.cellsOf 172 = 2 := by kernel_rfl

set_option maxRecDepth 100000 in
theorem opens_sta (hsp : ∀ b, sp b = true) : Opens enc W sp Lay.sta 172 := fun n cs x h => by
  obtain ⟨xs, n, _, rfl, hl, hlen, hf⟩ := DataW.trod_struct Try.underlying172 h
  rw [Try.cells172] at hl
  match xs, hlen, cs, hl with
  | [y0, y1], _, [c0, c1], _ =>
    have u0 := hf 0 _ rfl
    have u1 := hf 1 _ rfl
    simp [Try.cells22] at u0
    simp [Try.cells22] at u1
    obtain ⟨z0, p0⟩ := opens_slice (t' := 3) hsp Try.underlying22 Try.cells3 (by decide) opens_int _ _ _ u0
    obtain ⟨z1, p1⟩ := opens_slice (t' := 3) hsp Try.underlying22 Try.cells3 (by decide) opens_int _ _ _ u1
    exact ⟨⟨z0, z1⟩, p0, p1⟩

set_option maxRecDepth 100000 in
theorem open_state {base : Nat} {v : Value} {d : DataW H} {p : List MemPlace} (hval : Value.okWide Try.prog W .any base 172 v) (h : DataW.Trod enc Try.prog W 0 (fun _ => true) true 172 v d p) :
    ∃ (s : St) (C : Nat → Value), v = .agg #[C 0, C 1] ∧ Lay.sta.lies W W.heap.size s C := by
  obtain ⟨cs, rfl, hsz⟩ := okWide_struct Try.underlying172 hval
  obtain ⟨c0, c1, rfl⟩ := array2 (hsz.trans Try.cells172)
  obtain ⟨fuel, hf⟩ := h
  obtain ⟨s, hs⟩ := opens_sta (fun _ => rfl) _ _ _ hf
  exact ⟨s, fun j => [c0, c1].getD j undef, rfl, hs⟩

end
end Go.Proofs.Ytldnegacgjijlaa
