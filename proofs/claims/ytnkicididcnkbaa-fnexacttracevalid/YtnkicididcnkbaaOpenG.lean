/- Arguments of the type laws.Graph, opened. -/
import Derived.Test.YtnkicididcnkbaaOpenA
import Derived.Test.YtnkicididcnkbaaGra
namespace Go.Proofs.Ytnkicididcnkbaa
open Go.ChangeShapes Go.WideShapes Go.ChangeAt Go.RowKit Go.Deep Go.Joins

section
variable {H : Type} {enc : TypeId × Value → H} {W : World} {sp : Nat → Bool}

theorem Try.cells42 : Try.prog.cellsOf 42 = 2 := by kernel_rfl
theorem Try.cells40 : Try.prog.cellsOf 40 = 1 := by kernel_rfl
theorem Try.cells39 : Try.prog.cellsOf 39 = 1 := by kernel_rfl

theorem opens_ints (hsp : ∀ b, sp b = true) : Opens enc W sp Lay.ints 29 := fun n cs x h => by
  obtain ⟨y, hy⟩ := opens_slice (t' := 3) hsp Try.underlying29 Try.cells3 (by decide) opens_int n cs x h
  refine ⟨y, hy, ?_⟩
  rcases DataW.trod_slice Try.underlying29 h with ⟨rfl, _⟩ | ⟨a, len, cap, _, _, _, _, rfl, _, _, hlc, _⟩
  · intro A l c e
    have e' : Value.slice none 0 0 = .slice A l c := e
    injection e' with _ h1 h2
    omega
  · intro A l c e
    have e' : Value.slice (some a) len cap = .slice A l c := e
    injection e' with _ h1 h2
    omega

set_option maxRecDepth 100000 in
theorem open_ints {base : Nat} {v : Value} {d : DataW H} {p : List MemPlace} (hval : Value.okWide Try.prog W .any base 29 v) (h : DataW.Trod enc Try.prog W 0 (fun _ => true) true 29 v d p) :
    ∃ (s : List Int) (A : Option Addr) (cap b off : Nat), v = .slice A s.length cap ∧ s.length ≤ maxLen ∧ Ints W W.heap.size A b off s := by
  obtain ⟨a, l, c, rfl⟩ := okWide_slice Try.underlying29 hval
  obtain ⟨fuel, hf⟩ := h
  obtain ⟨s, hs⟩ := opens_ints (fun _ => rfl) _ _ _ hf
  obtain ⟨A, cap, b, off, e0, hl, hI⟩ := ints_lies hs
  exact ⟨s, A, cap, b, off, e0, hl, hI⟩

set_option maxRecDepth 100000 in
theorem opens_gra (hsp : ∀ b, sp b = true) : Opens enc W sp Lay.gra 42 := fun n cs x h => by
  obtain ⟨xs, n, _, rfl, hl, hlen, hf⟩ := DataW.trod_struct Try.underlying42 h
  rw [Try.cells42] at hl
  match xs, hlen, cs, hl with
  | [y0, y1], _, [c0, c1], _ =>
    have u0 := hf 0 _ rfl
    have u1 := hf 1 _ rfl
    simp [Try.cells39] at u0
    simp [Try.cells40] at u1
    obtain ⟨z0, p0⟩ := opens_slice (t' := 35) hsp Try.underlying39 Try.cells31 (by decide) (opens_sta hsp) _ _ _ u0
    obtain ⟨z1, p1⟩ := opens_slice (t' := 29) hsp Try.underlying40 Try.cells29 (by decide) (opens_ints hsp) _ _ _ u1
    exact ⟨⟨z0, z1⟩, p0, p1⟩

set_option maxRecDepth 100000 in
theorem open_graph {base : Nat} {v : Value} {d : DataW H} {p : List MemPlace} (hval : Value.okWide Try.prog W .any base 42 v) (h : DataW.Trod enc Try.prog W 0 (fun _ => true) true 42 v d p) :
    ∃ (s : Gp) (C : Nat → Value), v = .agg #[C 0, C 1] ∧ Lay.gra.lies W W.heap.size s C := by
  obtain ⟨cs, rfl, hsz⟩ := okWide_struct Try.underlying42 hval
  obtain ⟨c0, c1, rfl⟩ := array2 (hsz.trans Try.cells42)
  obtain ⟨fuel, hf⟩ := h
  obtain ⟨s, hs⟩ := opens_gra (fun _ => rfl) _ _ _ hf
  exact ⟨s, fun j => [c0, c1].getD j undef, rfl, hs⟩

end
end Go.Proofs.Ytnkicididcnkbaa
