/- An argument that is a slice of ints, opened. -/
import Derived.Test.YtponbjclecdafaaOpen
import Derived.Test.YtponbjclecdafaaV1
namespace Go.Proofs.Ytponbjclecdafaa
open Go.ChangeShapes Go.WideShapes Go.ChangeAt Go.RowKit Go.Deep Go.Joins

section
variable {H : Type} {enc : TypeId × Value → H} {W : World}

set_option maxRecDepth 100000 in
theorem open_intsArg {base : Nat} {v : Value} {d : DataW H} {p : List MemPlace} (hval : Value.okWide Try.prog W .any base 29 v) (h : DataW.Trod enc Try.prog W 0 (fun _ => true) true 29 v d p) :
    ∃ (zs : List Int) (A : Option Addr) (b off cap : Nat), v = .slice A zs.length cap ∧ zs.length ≤ maxLen ∧ Ints W W.heap.size A b off zs := by
  obtain ⟨a0, len, cap, rfl⟩ := okWide_slice Try.underlying29 hval
  obtain ⟨fuel, hf⟩ := h
  rcases open_ints Try.underlying29 Try.underlying3 (by kernel_rfl) hf with ⟨hcs, _⟩ | ⟨x, l, c, zs, hcs, _, hl, hm, hz, _, hcell, _⟩
  · simp [Value.cells] at hcs
    obtain ⟨rfl, rfl, rfl⟩ := hcs
    exact ⟨[], none, 0, 0, 0, rfl, Nat.zero_le _, fun i z hz => by simp at hz⟩
  · simp [Value.cells] at hcs
    obtain ⟨rfl, rfl, rfl⟩ := hcs
    have hz' : zs.length = cap := by simpa using hz
    obtain ⟨b, off, spot⟩ := x
    refine ⟨zs.take len, _, b, off, cap, by rw [List.length_take]; congr 1; omega, by rw [List.length_take]; omega, fun i z hi => ?_⟩
    have hlt : i < len := by
      have := (List.getElem?_eq_some_iff.1 hi).1
      rw [List.length_take] at this
      omega
    have hs : spot = none := by
      have := hcell 0 (by omega)
      simpa [Addr.add] using World.cell?_spot this
    subst hs
    have hc := hcell i (by omega)
    rw [add_plain] at hc
    have hv : zs.getD i 0 = z := by
      rw [List.getElem?_take_of_lt hlt] at hi
      simp [List.getD, hi]
    rw [hv] at hc
    exact ⟨rfl, World.block_lt_of_cell? W _ hc, hc⟩
end
end Go.Proofs.Ytponbjclecdafaa
