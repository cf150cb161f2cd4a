/- The contracts of NegateFormula by the formula's layout. -/
import Derived.Test.YtgigngpogbkpoaaDoorNgS
import Derived.Test.YtgigngpogbkpoaaDoorNgI
import Derived.Test.YtgigngpogbkpoaaDoorLayF
namespace Go.Proofs.YtgigngpogbkpoaaDoor
open Go.RowKit

theorem onlyOut_small (e : Ex) : desc (onlyOut e) ≤ 11 := by
  unfold onlyOut
  by_cases h : fValid e = true
  · rw [if_pos h]; exact desc_valid h.symm
  · rw [if_neg h]; simp [zeroE, desc, descL]
theorem negOut_small (e : Ex) : desc (negOut e) ≤ 64 := by
  obtain ⟨k, v, kids⟩ := e
  simp only [negOut]
  by_cases h : fValid (.node k v kids) = true
  · rw [if_pos h]
    by_cases h3 : k = 3
    · rw [if_pos h3]
      subst h3
      obtain ⟨x, rfl⟩ := fValid_three h.symm
      have := desc_valid h.symm
      simp only [desc, descL] at this
      show desc x ≤ 64
      omega
    · rw [if_neg h3]; have := onlyOut_small (fNot (.node k v kids)); omega
  · rw [if_neg h]; simp [zeroE, desc, descL]

theorem specNgC_any (e : Ex) (C : Nat → Value) (w : World) (hL : Lay.fo.lies w w.heap.size e C) (hd : Lay.fo.sz e ≤ 1048576) :
    Calls Tryd.prog 14 #[.agg #[C 0, C 1, C 2]] w (ObPost (negOut e) (negOk e) w) := specNg_any e _ _ _ w hL hd
theorem implNgC_any (e : Ex) (C : Nat → Value) (w : World) (hF : Forms w) (hL : Lay.fo.lies w w.heap.size e C) (hd : Lay.fo.sz e ≤ 1048576) :
    Calls Tryd.prog 15 #[.agg #[C 0, C 1, C 2]] w (FbPost w.heap.size (negOut e) (negOk e) w) := implNg_any e _ _ _ w hF hL hd

end Go.Proofs.YtgigngpogbkpoaaDoor
