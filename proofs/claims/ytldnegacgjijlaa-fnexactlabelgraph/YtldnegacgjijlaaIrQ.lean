/- Rows of numbers of one's own. Nothing is assumed. -/
import Derived.Test.YtldnegacgjijlaaJ08
import Derived.Test.YtldnegacgjijlaaGrQ
import Derived.OwnWalk
import Derived.Maps.AppendAt
namespace Go.Proofs.Ytldnegacgjijlaa
open Go.RowKit

theorem irow_of_owns {w : World} {base : Nat} {g n cap : Nat} {xs : List Value} (h : w.ownsRow base 3 1 (.slice (some ⟨g, 0, none⟩) n cap) n xs) : ∃ cs : Array Value, base ≤ g ∧ Row w g 3 cs ∧ ∀ (i : Nat) (u : Value), xs[i]? = some u → cs[i]? = some u := by
  rcases h.2 with ⟨h1, _⟩ | ⟨g', cap', cur, hv, hb, hh, _, _, _, ht⟩
  · cases h1
  · injection hv with e1 e2 e3
    injection e1 with e1
    injection e1 with e1
    subst e1
    refine ⟨cur, hb, hh, fun i u hu => ?_⟩
    rw [← ht, List.getElem?_take] at hu
    split at hu
    · simpa using hu
    · cases hu
theorem owns_same {w w1 : World} {base g n cap : Nat} {xs : List Value} (h : w.ownsRow base 3 1 (.slice (some ⟨g, 0, none⟩) n cap) n xs) (hb : w1.heap[g]? = w.heap[g]?) : w1.ownsRow base 3 1 (.slice (some ⟨g, 0, none⟩) n cap) n xs := by
  refine ⟨h.1, ?_⟩
  rcases h.2 with ⟨h1, _⟩ | ⟨g', cap', cur, hv, hb', hh, hr⟩
  · cases h1
  · refine .inr ⟨g', cap', cur, hv, hb', ?_, hr⟩
    injection hv with e1 e2 e3
    injection e1 with e1
    injection e1 with e1
    subst e1
    exact hb.trans hh

/-- A row of numbers of one's own. -/
def IRow (w : World) (g : Nat) (zs : List Int) : Prop := ∃ cs : Array Value, Row w g 3 cs ∧ ∀ (i : Nat) (z : Int), zs[i]? = some z → cs[i]? = some (.int .i64 z)
theorem IRow.ints {w : World} {g : Nat} {zs : List Int} (h : IRow w g zs) : Ints w w.heap.size (some ⟨g, 0, none⟩) g 0 zs := fun i z hz => by
  obtain ⟨cs, hr, hk⟩ := h
  refine ⟨rfl, hr.lt, ?_⟩
  rw [hr.cell, Nat.zero_add]
  exact hk i z hz
theorem IRow.cell {w : World} {g : Nat} {zs : List Int} (h : IRow w g zs) {i : Nat} {z : Int} (hz : zs[i]? = some z) : w.cell? ⟨g, i, none⟩ = some (.int .i64 z) := by
  obtain ⟨cs, hr, hk⟩ := h
  rw [hr.cell]; exact hk i z hz
theorem IRow.lt {w : World} {g : Nat} {zs : List Int} (h : IRow w g zs) : g < w.heap.size := by
  obtain ⟨cs, hr, hk⟩ := h
  exact hr.lt
theorem IRow.frozen {w : World} {g : Nat} {zs : List Int} (h : IRow w g zs) (i : Nat) : w.frozen? ⟨g, i, none⟩ = false := by
  obtain ⟨cs, hr, hk⟩ := h
  exact hr.frozen i
theorem IRow.same {w w1 : World} {g : Nat} {zs : List Int} (h : IRow w g zs) (hb : w1.heap[g]? = w.heap[g]?) : IRow w1 g zs := by
  obtain ⟨cs, hr, hk⟩ := h
  exact ⟨cs, hb.trans hr, hk⟩
theorem IRow.set {w : World} {g : Nat} {zs : List Int} (h : IRow w g zs) {m : Nat} (hm : m < zs.length) (x : Int) : IRow (w.setCell ⟨g, m, none⟩ (.int .i64 x)) g (zs.set m x) := by
  obtain ⟨cs, hr, hk⟩ := h
  refine ⟨cs.setIfInBounds m (.int .i64 x), hr.set_ _ _, fun i z hz => ?_⟩
  rw [Array.getElem?_setIfInBounds]
  have hc := hk m _ (List.getElem?_eq_getElem hm)
  have hmc : m < cs.size := (Array.getElem?_eq_some_iff.1 hc).1
  by_cases e : m = i
  · subst e
    rw [List.getElem?_set_self hm] at hz
    injection hz with hz
    subst hz
    rw [if_pos rfl, if_pos hmc]
  · rw [List.getElem?_set_ne e] at hz
    rw [if_neg e]
    exact hk i z hz

end Go.Proofs.Ytldnegacgjijlaa
