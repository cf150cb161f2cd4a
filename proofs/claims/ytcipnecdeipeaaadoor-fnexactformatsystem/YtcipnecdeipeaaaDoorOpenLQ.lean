/- Arguments of the mirror types, opened by their layouts. -/
import Derived.Test.YtcipnecdeipeaaaDoorJ01
import Derived.Test.YtcipnecdeipeaaaDoorEdQ
namespace Go.Proofs.YtcipnecdeipeaaaDoor
open Go.ChangeShapes Go.WideShapes Go.ChangeAt Go.RowKit Go.Deep Go.Joins

instance : Inhabited Ed := ⟨⟨0, 0, default, 0, default, 0⟩⟩

section
variable {H : Type} {X : Type} {enc : TypeId × Value → H} {W : World} {sp : Nat → Bool}

theorem Tryd.cells77 : Tryd.prog.cellsOf 77 = 10 := by kernel_rfl

set_option maxRecDepth 100000 in
theorem opens_ed (hsp : ∀ b, sp b = true) : Opens enc W sp Lay.ed 77 := fun n cs x h => by
  obtain ⟨xs, n, _, rfl, hl, hlen, hf⟩ := DataW.trod_struct Tryd.underlying77 h
  rw [Tryd.cells77] at hl
  match xs, hlen, cs, hl with
  | [y0, y1, y2, y3, y4, y5], _, [c0, c1, c2, c3, c4, c5, c6, c7, c8, c9], _ =>
    have u0 := hf 0 _ rfl
    have u1 := hf 1 _ rfl
    have u2 := hf 2 _ rfl
    have u3 := hf 3 _ rfl
    have u4 := hf 4 _ rfl
    have u5 := hf 5 _ rfl
    simp [Tryd.cells3] at u0 u1 u3 u5
    simp [Tryd.cells75] at u2 u4
    obtain ⟨z0, p0⟩ := opens_int _ _ _ u0
    obtain ⟨z1, p1⟩ := opens_int _ _ _ u1
    obtain ⟨z2, p2⟩ := opens_ex hsp _ _ _ u2
    obtain ⟨z3, p3⟩ := opens_int _ _ _ u3
    obtain ⟨z4, p4⟩ := opens_ex hsp _ _ _ u4
    obtain ⟨z5, p5⟩ := opens_int _ _ _ u5
    exact ⟨⟨z0, z1, z2, z3, z4, z5⟩, p0, p1, p2, p3, p4, p5⟩

theorem array10 {α : Type} {cs : Array α} (h : cs.size = 10) : ∃ c0 c1 c2 c3 c4 c5 c6 c7 c8 c9, cs = #[c0, c1, c2, c3, c4, c5, c6, c7, c8, c9] := by
  obtain ⟨l⟩ := cs
  match l, h with
  | [c0, c1, c2, c3, c4, c5, c6, c7, c8, c9], _ => exact ⟨c0, c1, c2, c3, c4, c5, c6, c7, c8, c9, rfl⟩

set_option maxRecDepth 100000 in
theorem open_edge {base : Nat} {v : Value} {d : DataW H} {p : List MemPlace} (hval : Value.okWide Tryd.prog W .any base 77 v) (h : DataW.Trod enc Tryd.prog W 0 (fun _ => true) true 77 v d p) :
    ∃ (e : Ed) (C : Nat → Value), v = .agg #[C 0, C 1, C 2, C 3, C 4, C 5, C 6, C 7, C 8, C 9] ∧ Lay.ed.lies W W.heap.size e C := by
  obtain ⟨cs, rfl, hsz⟩ := okWide_struct Tryd.underlying77 hval
  obtain ⟨c0, c1, c2, c3, c4, c5, c6, c7, c8, c9, rfl⟩ := array10 (hsz.trans Tryd.cells77)
  obtain ⟨fuel, hf⟩ := h
  obtain ⟨e, he⟩ := opens_ed (fun _ => rfl) _ _ _ hf
  exact ⟨e, fun j => [c0, c1, c2, c3, c4, c5, c6, c7, c8, c9].getD j undef, rfl, he⟩

end
end Go.Proofs.YtcipnecdeipeaaaDoor
