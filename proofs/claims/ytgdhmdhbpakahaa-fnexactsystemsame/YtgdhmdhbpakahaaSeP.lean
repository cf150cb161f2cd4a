/- Equality of systems as plain data; slices whose elements lie apart. -/
import Derived.Test.YtgdhmdhbpakahaaSmF
import Derived.Test.YtgdhmdhbpakahaaSmS
import Derived.Test.YtgdhmdhbpakahaaToSy
import Derived.Test.YtgdhmdhbpakahaaSzSy
import Derived.Test.YtgdhmdhbpakahaaEqSy
import Derived.Test.YtgdhmdhbpakahaaIsV
import Derived.Test.YtgdhmdhbpakahaaLit
namespace Go.Proofs.Ytgdhmdhbpakahaa
open Go.RowKit

def edSame (x y : Ed) : Bool := decide (x.1 = y.1) && (decide (x.2 = y.2) && (decide (x.4 = y.4) && (decide (x.6 = y.6) && (sameE x.3 y.3 && sameE x.5 y.5))))
def edsSame (xs ys : List Ed) : Bool := decide (xs.length = ys.length) && (xs.zip ys).all fun q => edSame q.1 q.2
def prSame (p q : Pr) : Bool := decide (p.loc = q.loc) && edsSame p.es q.es
def prsSame (xs ys : List Pr) : Bool := decide (xs.length = ys.length) && (xs.zip ys).all fun q => prSame q.1 q.2
def sySame (a b : Sy) : Bool := intsSame a.ini b.ini && prsSame a.ps b.ps
theorem sepF_of {w : World} {lo hi : Nat} {e : Ex} {c0 c1 c2 : Value} (h : Sep w lo hi e c0 c1 c2) : SepF w lo hi e c0 c1 c2 := by
  induction h with
  | mk => constructor <;> assumption
theorem ed_seps {w : World} {lo hi : Nat} {e : Ed} {C : Nat → Value} (h : Lay.ed.sep w lo hi e C) : SepF w lo hi e.3 (C 2) (C 3) (C 4) ∧ SepF w lo hi e.5 (C 6) (C 7) (C 8) := by
  obtain ⟨m1, a1, b1, _, m2, a2, b2, _, m3, a3, b3, hg, m4, a4, b4, _, m5, a5, b5, hv, _⟩ := h
  exact ⟨(sepF_of hg).more (by omega) (by omega), (sepF_of hv).more (by omega) (by omega)⟩
/-- A slice whose elements lie apart. -/
def SOp {X : Type} (L : Lay X) (w : World) (lo hi : Nat) (xs : List X) (A : Option Addr) (g : Nat) (D : Nat → Nat → Value) : Prop :=
  ∀ (i : Nat) (x : X), xs[i]? = some x → A = some ⟨g, 0, none⟩ ∧ g < hi ∧ (∀ j, j < L.st → w.cell? ⟨g, i * L.st + j, none⟩ = some (D i j)) ∧ L.sep w lo hi x (D i)
theorem SOp.of {X : Type} {L : Lay X} {t : TypeId} {w : World} {lo hi : Nat} {xs : List X} {C : Nat → Value} (h : (L.slice t).sep w lo hi xs C) : ∃ A cap g D, C 0 = .slice A xs.length cap ∧ xs.length ≤ maxLen ∧ SOp L w lo hi xs A g D := by
  obtain ⟨A, cap, g, cs, D, s, hC, hl, h3, h4, h5, h6⟩ := h
  refine ⟨A, cap, g, D, hC, hl, fun i x hx => ?_⟩
  have hi := (List.getElem?_eq_some_iff.1 hx).1
  obtain ⟨a1, a2, a3, a4, a5, a6, a7⟩ := h6 i x hx
  have hsj := mono_to h3 i 0 (Nat.zero_le _) (by omega)
  have hsn := mono_to h3 xs.length (i + 1) (by omega) (Nat.le_refl _)
  exact ⟨a1, a3, fun j hj => by rw [a5.cell]; exact a6 j hj, L.sep_more (by omega) (by omega) a7⟩
theorem SOp.below {X : Type} {L : Lay X} {w w' : World} {lo hi B g : Nat} {xs : List X} {A : Option Addr} {D : Nat → Nat → Value} (h : SOp L w lo hi xs A g D) (hb : Below B w w') (hB : hi ≤ B) : SOp L w' lo hi xs A g D := fun i x hx => by
  obtain ⟨h1, h2, h3, h4⟩ := h i x hx
  exact ⟨h1, h2, fun j hj => (hb.cell (p := ⟨g, i * L.st + j, none⟩) (by show g < B; omega)).trans (h3 j hj), L.sunder h4 hb hB⟩

end Go.Proofs.Ytgdhmdhbpakahaa
