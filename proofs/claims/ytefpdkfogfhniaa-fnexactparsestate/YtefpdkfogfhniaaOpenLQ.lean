/- Arguments of the mirror types, opened by their layouts. -/
import Derived.Test.YtefpdkfogfhniaaJ00
import Derived.Test.YtefpdkfogfhniaaOpenCQ
import Derived.Test.YtefpdkfogfhniaaEdQ
namespace Go.Proofs.Ytefpdkfogfhniaa
open Go.ChangeShapes Go.WideShapes Go.ChangeAt Go.RowKit Go.Deep Go.Joins

instance : Inhabited Ed := ⟨⟨0, 0, default, 0, default, 0⟩⟩

section
variable {H : Type} {X : Type} {enc : TypeId × Value → H} {W : World} {sp : Nat → Bool}

set_option maxRecDepth 100000 in
theorem opens_ex (hsp : ∀ b, sp b = true) : Opens enc W sp Lay.ex 116 := fun n cs x h => by
  obtain ⟨y0, y1, y2, k, hy, hl, u0, u1, u2⟩ := trod_struct3 Try.underlying116 h
  rw [Try.cells116] at hl
  match cs, hl with
  | [v0, v1, v2], _ =>
    simp [Try.cells3] at u0 u1
    simp [Try.cells114] at u2
    obtain ⟨k0, e0, _, _⟩ := DataW.trod_int Try.underlying3 u0
    obtain ⟨k1, e1, _, _⟩ := DataW.trod_int Try.underlying3 u1
    simp only [List.cons.injEq, and_true] at e0 e1
    obtain ⟨kids, A, cp, b2, o2, C0, C1, C2, e2, hkl, hO⟩ := open_kids hsp _ _ v2 y2.1 y2.2 (Nat.le_refl _) u2
    refine ⟨.node k0 k1 kids, ?_⟩
    show Lies W W.heap.size _ v0 v1 v2
    rw [e0, e1, e2]
    exact hO.mk_ hkl

theorem Try.cells118 : Try.prog.cellsOf 118 = 10 := by kernel_rfl

set_option maxRecDepth 100000 in
theorem opens_ed (hsp : ∀ b, sp b = true) : Opens enc W sp Lay.ed 118 := fun n cs x h => by
  obtain ⟨xs, n, _, rfl, hl, hlen, hf⟩ := DataW.trod_struct Try.underlying118 h
  rw [Try.cells118] at hl
  match xs, hlen, cs, hl with
  | [y0, y1, y2, y3, y4, y5], _, [c0, c1, c2, c3, c4, c5, c6, c7, c8, c9], _ =>
    have u0 := hf 0 _ rfl
    have u1 := hf 1 _ rfl
    have u2 := hf 2 _ rfl
    have u3 := hf 3 _ rfl
    have u4 := hf 4 _ rfl
    have u5 := hf 5 _ rfl
    simp [Try.cells3] at u0 u1 u3 u5
    simp [Try.cells116] at u2 u4
    obtain ⟨z0, p0⟩ := opens_int _ _ _ u0
    obtain ⟨z1, p1⟩ := opens_int _ _ _ u1
    obtain ⟨z2, p2⟩ := opens_ex hsp _ _ _ u2
    obtain ⟨z3, p3⟩ := opens_int _ _ _ u3
    obtain ⟨z4, p4⟩ := opens_ex hsp _ _ _ u4
    obtain ⟨z5, p5⟩ := opens_int _ _ _ u5
    exact ⟨⟨z0, z1, z2, z3, z4, z5⟩, p0, p1, p2, p3, p4, p5⟩

theorem array10 {α : Type} {cs : Array α} (h : cs.size = 10) : ∃ c0 c1 c2 c3 c4 c5 c6 c7 c8 c9, cs = #[c0, c1, c2, c3, c4, c5, c6, c7, c8, c9] := by
  obtain ⟨l⟩ := cs
  match l, h with
  | [c0, c1, c2, c3, c4, c5, c6, c7, c8, c9], _ => exact ⟨c0, c1, c2, c3, c4, c5, c6, c7, c8, c9, rfl⟩

set_option maxRecDepth 100000 in
theorem open_edge {base : Nat} {v : Value} {d : DataW H} {p : List MemPlace} (hval : Value.okWide Try.prog W .any base 118 v) (h : DataW.Trod enc Try.prog W 0 (fun _ => true) true 118 v d p) :
    ∃ (e : Ed) (C : Nat → Value), v = .agg #[C 0, C 1, C 2, C 3, C 4, C 5, C 6, C 7, C 8, C 9] ∧ Lay.ed.lies W W.heap.size e C := by
  obtain ⟨cs, rfl, hsz⟩ := okWide_struct Try.underlying118 hval
  obtain ⟨c0, c1, c2, c3, c4, c5, c6, c7, c8, c9, rfl⟩ := array10 (hsz.trans Try.cells118)
  obtain ⟨fuel, hf⟩ := h
  obtain ⟨e, he⟩ := opens_ed (fun _ => rfl) _ _ _ hf
  exact ⟨e, fun j => [c0, c1, c2, c3, c4, c5, c6, c7, c8, c9].getD j undef, rfl, he⟩

end
end Go.Proofs.Ytefpdkfogfhniaa
