/- Joined texts: Lay, OpenX. Nothing is assumed. -/
import Derived.Test.YtcipnecdeipeaaaDoorLayB
import Derived.Test.YtcipnecdeipeaaaDoorT1
import Derived.Test.YtcipnecdeipeaaaDoorW3
import Derived.Test.YtcipnecdeipeaaaDoorJ00
import Derived.Test.YtcipnecdeipeaaaDoorOpenCQ
namespace Go.Proofs.YtcipnecdeipeaaaDoor
open Go.RowKit

namespace Lay
def ex : Lay Ex where
  st := 3
  sz := desc
  lies w B e C := Lies w B e (C 0) (C 1) (C 2)
  sep w lo hi e C := Sep w lo hi e (C 0) (C 1) (C 2)
  lies_keep hB hk h := h.keep hB hk
  lies_ext h k := by rw [h 0 (by omega), h 1 (by omega), h 2 (by omega)]; exact k
  sep_keep hk h := h.keep hk
  sep_more a b h := h.more a b
  sep_ext h k := by rw [h 0 (by omega), h 1 (by omega), h 2 (by omega)]; exact k
  sep_lies h := h.own.lies
end Lay

end Go.Proofs.YtcipnecdeipeaaaDoor
namespace Go.Proofs.YtcipnecdeipeaaaDoor
open Go.ChangeShapes Go.WideShapes Go.ChangeAt Go.RowKit Go.Deep Go.Joins

section
variable {H : Type} {X : Type} {enc : TypeId × Value → H} {W : World} {sp : Nat → Bool}

set_option maxRecDepth 100000 in
theorem opens_ex (hsp : ∀ b, sp b = true) : Opens enc W sp Lay.ex 75 := fun n cs x h => by
  obtain ⟨y0, y1, y2, k, hy, hl, u0, u1, u2⟩ := trod_struct3 Tryd.underlying75 h
  rw [Tryd.cells75] at hl
  match cs, hl with
  | [v0, v1, v2], _ =>
    simp [Tryd.cells3] at u0 u1
    simp [Tryd.cells73] at u2
    obtain ⟨k0, e0, _, _⟩ := DataW.trod_int Tryd.underlying3 u0
    obtain ⟨k1, e1, _, _⟩ := DataW.trod_int Tryd.underlying3 u1
    simp only [List.cons.injEq, and_true] at e0 e1
    obtain ⟨kids, A, cp, b2, o2, C0, C1, C2, e2, hkl, hO⟩ := open_kids hsp _ _ v2 y2.1 y2.2 (Nat.le_refl _) u2
    refine ⟨.node k0 k1 kids, ?_⟩
    show Lies W W.heap.size _ v0 v1 v2
    rw [e0, e1, e2]
    exact hO.mk_ hkl

end
end Go.Proofs.YtcipnecdeipeaaaDoor
