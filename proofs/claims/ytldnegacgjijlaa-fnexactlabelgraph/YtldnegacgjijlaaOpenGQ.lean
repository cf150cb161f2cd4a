/- Arguments of the type laws.Graph, opened. -/
import Derived.Test.YtldnegacgjijlaaJ03
namespace Go.Proofs.Ytldnegacgjijlaa
open Go.ChangeShapes Go.WideShapes Go.ChangeAt Go.RowKit Go.Deep Go.Joins

section
variable {H : Type} {enc : TypeId × Value → H} {W : World} {sp : Nat → Bool}

theorem Try.cells61 : Try.prog.cellsOf 61 = 2 := by kernel_rfl
theorem Try.cells59 : Try.prog.cellsOf 59 = 1 := by kernel_rfl
theorem Try.cells58 : Try.prog.cellsOf 58 = 1 := by kernel_rfl

theorem opens_ints (hsp : ∀ b, sp b = true) : Opens enc W sp Lay.ints 22 := fun n cs x h => by
  obtain ⟨y, hy⟩ := opens_slice (t' := 3) hsp Try.underlying22 Try.cells3 (by decide) opens_int n cs x h
  refine ⟨y, hy, ?_⟩
  rcases DataW.trod_slice Try.underlying22 h with ⟨rfl, _⟩ | ⟨a, len, cap, _, _, _, _, rfl, _, _, hlc, _⟩
  · intro A l c e
    have e' : Value.slice none 0 0 = .slice A l c := e
    injection e' with _ h1 h2
    omega
  · intro A l c e
    have e' : Value.slice (some a) len cap = .slice A l c := e
    injection e' with _ h1 h2
    omega

set_option maxRecDepth 100000 in
theorem open_ints {base : Nat} {v : Value} {d : DataW H} {p : List MemPlace} (hval : Value.okWide Try.prog W .any base 22 v) (h : DataW.Trod enc Try.prog W 0 (fun _ => true) true 22 v d p) :
    ∃ (s : List Int) (A : Option Addr) (cap b off : Nat), v = .slice A s.length cap ∧ s.length ≤ maxLen ∧ Ints W W.heap.size A b off s := by
  obtain ⟨a, l, c, rfl⟩ := okWide_slice Try.underlying22 hval
  obtain ⟨fuel, hf⟩ := h
  obtain ⟨s, hs⟩ := opens_ints (fun _ => rfl) _ _ _ hf
  obtain ⟨A, cap, b, off, e0, hl, hI⟩ := ints_lies hs
  exact ⟨s, A, cap, b, off, e0, hl, hI⟩

set_option maxRecDepth 100000 in
theorem opens_gra (hsp : ∀ b, sp b = true) : Opens enc W sp Lay.gra 61 := fun n cs x h => by
  obtain ⟨xs, n, _, rfl, hl, hlen, hf⟩ := DataW.trod_struct Try.underlying61 h
  rw [Try.cells61] at hl
  match xs, hlen, cs, hl with
  | [y0, y1], _, [c0, c1], _ =>
    have u0 := hf 0 _ rfl
    have u1 := hf 1 _ rfl
    simp [Try.cells58] at u0
    simp [Try.cells59] at u1
    obtain ⟨z0, p0⟩ := opens_slice (t' := 136) hsp Try.underlying58 Try.cells172 (by decide) (opens_sta hsp) _ _ _ u0
    obtain ⟨z1, p1⟩ := opens_slice (t' := 22) hsp Try.underlying59 Try.cells22 (by decide) (opens_ints hsp) _ _ _ u1
    exact ⟨⟨z0, z1⟩, p0, p1⟩

set_option maxRecDepth 100000 in
theorem open_graph {base : Nat} {v : Value} {d : DataW H} {p : List MemPlace} (hval : Value.okWide Try.prog W .any base 61 v) (h : DataW.Trod enc Try.prog W 0 (fun _ => true) true 61 v d p) :
    ∃ (s : Gp) (C : Nat → Value), v = .agg #[C 0, C 1] ∧ Lay.gra.lies W W.heap.size s C := by
  obtain ⟨cs, rfl, hsz⟩ := okWide_struct Try.underlying61 hval
  obtain ⟨c0, c1, rfl⟩ := array2 (hsz.trans Try.cells61)
  obtain ⟨fuel, hf⟩ := h
  obtain ⟨s, hs⟩ := opens_gra (fun _ => rfl) _ _ _ hf
  exact ⟨s, fun j => [c0, c1].getD j undef, rfl, hs⟩

end
end Go.Proofs.Ytldnegacgjijlaa
