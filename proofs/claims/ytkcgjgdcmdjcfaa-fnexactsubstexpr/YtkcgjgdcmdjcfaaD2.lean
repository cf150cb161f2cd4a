/- How what a picking call leaves is carried on; a node that is built while the source is picked from. Nothing is assumed. -/
import Derived.Test.YtkcgjgdcmdjcfaaD1
import Derived.Test.YtkcgjgdcmdjcfaaBld
import Derived.Test.YtkcgjgdcmdjcfaaGr
namespace Go.Proofs.Ytkcgjgdcmdjcfaa
open Go.RowKit

section
variable {g : Nat} {A : Option Addr} {b off n cap : Nat} {p m : Int} {w w1 w2 : World}

theorem Src.under (h : Src w g A b off n cap p) {B : Nat} (hb : Below B w w1) (hB : g < B) : Src w1 g A b off n cap p :=
  ⟨h.1.under hb hB, h.2.1.under (hb.mono (by omega)) (Nat.le_refl _), h.2.2⟩

theorem Picked.begin_ (h : Src w g A b off n cap p) (hb : Below w.heap.size w w1) : Picked g A b off n cap p 0 w w1 :=
  ⟨⟨hb.os, hb.tape, hb.output, hb.size, fun k hk _ => hb.block k hk⟩, p, Int.le_refl _, by omega, h.under hb h.lt⟩

theorem Picked.then_ {m2 p' : Int} (hg : w.grownBy w1 (some g)) (h2 : Picked g A b off n cap p' m2 w1 w2) (hp : p ≤ p') (hm : p' + m2 ≤ p + m) : Picked g A b off n cap p m w w2 := by
  obtain ⟨g2, q, h3, h4, h5⟩ := h2
  exact ⟨⟨g2.os.trans hg.os, g2.tape.trans hg.tape, g2.output.trans hg.output, Nat.le_trans hg.size g2.size, fun k hk hne => (g2.block k (by have := hg.size; omega) hne).trans (hg.block k hk hne)⟩, q, by omega, by omega, h5⟩

end

/-- The node that is being built stands in block g with its numbers and its slice. -/
def Mk (t : TypeId) (g : Nat) (k v : Int) (es : List Ex) (A : Option Addr) (cap : Nat) (w : World) : Prop :=
  Row w g t #[.int .i64 k, .int .i64 v, .slice A es.length cap] ∧ Built w t (g + 1) (.slice A es.length cap) es

theorem Mk.keep {t : TypeId} {g : Nat} {k v : Int} {es : List Ex} {A : Option Addr} {cap : Nat} {w w1 : World} (h : Mk t g k v es A cap w) (hsz : w.heap.size ≤ w1.heap.size) (hk : ∀ q, g ≤ q → q < w.heap.size → w1.heap[q]? = w.heap[q]?) : Mk t g k v es A cap w1 :=
  ⟨(hk g (Nat.le_refl _) h.1.lt).trans h.1, h.2.keep hsz fun q h1 h2 => hk q (by omega) h2⟩

theorem Mk.step {w w1 w2 : World} {t : TypeId} {g : Nat} {k v : Int} {es : List Ex} {A : Option Addr} {cap : Nat} (h : Mk t g k v es A cap w) (hsz : w.heap.size ≤ w1.heap.size) (hk : ∀ q, g ≤ q → q < w.heap.size → w1.heap[q]? = w.heap[q]?)
    {x : Ex} {d0 d1 d2 : Value} (hx : Own w1 t w.heap.size w1.heap.size x d0 d1 d2) {xs : List Value} (hxs : (w1.alloc (.cells #[d0, d1, d2] t)).ownsRow (g + 1) t 3 (.slice A es.length cap) es.length xs) {b cap' : Nat}
    (ho : w2.ownsRow (g + 1) t 3 (.slice (some ⟨b, 0, none⟩) (es.length + 1) cap') (es.length + 1) (xs ++ [d0, d1, d2])) (hg : (w1.alloc (.cells #[d0, d1, d2] t)).grownBy w2 (Value.slice A es.length cap).ownBlock)
    (hat : (Value.slice A es.length cap).ownBlock = some b ∨ b = w1.heap.size + 1) :
    (w2.cell? ⟨g, 2, none⟩ = some (.slice A es.length cap) ∧ w2.frozen? ⟨g, 2, none⟩ = false) ∧ Mk t g k v (es ++ [x]) (some ⟨b, 0, none⟩) cap' (w2.setCell ⟨g, 2, none⟩ (.slice (some ⟨b, 0, none⟩) (es.length + 1) cap')) ∧
      Below g w1 (w2.setCell ⟨g, 2, none⟩ (.slice (some ⟨b, 0, none⟩) (es.length + 1) cap')) := by
  obtain ⟨_, _, _, _, hS⟩ := h.2.form
  have hgl : g < w.heap.size := h.1.lt
  have hsz1 : (w1.alloc (.cells #[d0, d1, d2] t)).heap.size = w1.heap.size + 1 := by simp
  have h1 : Mk t g k v es A cap (w1.alloc (.cells #[d0, d1, d2] t)) := h.keep (by omega) fun q h1 h2 => (Below.heap_alloc _ _ _ (by omega)).trans (hk q h1 h2)
  have hne : some g ≠ (Value.slice A es.length cap).ownBlock := fun e => by have := (hS g e.symm).1; omega
  have hr2 : Row w2 g t #[.int .i64 k, .int .i64 v, .slice A es.length cap] := (hg.block g (by omega) hne).trans h1.1
  have hx1 : OwnP (w1.alloc (.cells #[d0, d1, d2] t)) t (fun b => g + 1 ≤ b ∧ b < (w1.alloc (.cells #[d0, d1, d2] t)).heap.size ∧ (Value.slice A es.length cap).ownBlock ≠ some b) x d0 d1 d2 := by
    have h1 := hx.ownP (ok := fun b => w.heap.size ≤ b ∧ b < w1.heap.size) (fun q h1 h2 => ⟨h1, h2⟩)
    refine h1.keep (fun q hq => ⟨by omega, by omega, fun e => ?_⟩) (fun q hq => Below.heap_alloc _ _ _ hq.2)
    have := (hS q e).2
    omega
  have hmade := h1.2.append hx1 hxs ho hg (by rw [hsz1]; exact hat)
  refine ⟨⟨hr2.cell 2, hr2.frozen 2⟩, ⟨?_, ?_⟩, ?_⟩
  · have := hr2.set_ 2 (.slice (some ⟨b, 0, none⟩) (es.length + 1) cap')
    simpa using this
  · have hl : (es ++ [x]).length = es.length + 1 := by simp
    rw [hl]
    exact hmade.keep (by simp) fun q hq _ => Below.heap_setCell _ _ _ _ (by simp; omega)
  · refine Below.setCell (p := ⟨g, 2, none⟩) ?_ (Nat.le_refl g) _
    refine ((Below.refl g w1).alloc (by omega) _).grown hg (by omega) fun q hq => ?_
    have := (hS q hq).1
    omega

theorem Mk.start {w : World} {t : TypeId} {k v : Int} : Mk t w.heap.size k v [] none 0 (w.alloc (.cells #[.int .i64 k, .int .i64 v, .slice none 0 0] t)) := ⟨Row.new _ _ _, Built.nil _ _ _⟩

theorem Mk.own {t : TypeId} {g : Nat} {k v : Int} {es : List Ex} {A : Option Addr} {cap : Nat} {w : World} (h : Mk t g k v es A cap w) : Own w t (g + 1) w.heap.size (.node k v es) (.int .i64 k) (.int .i64 v) (.slice A es.length cap) := h.2.own k v

/-- Bounds of a drawn tree. -/
def dsc : Nat → Nat
  | 0 => 0
  | d + 1 => 2 + 2 * dsc d
def mx : Nat → Int
  | 0 => 3
  | d + 1 => 3 + 2 * mx d

theorem mx_pos : ∀ d, 3 ≤ mx d := by
  intro d
  induction d with
  | zero => simp [mx]
  | succ d ih => simp only [mx]; omega

end Go.Proofs.Ytkcgjgdcmdjcfaa
