/- Two appends in a region that draws its order. -/
import Derived.Test.YtiaejomdkkhimaaLxP
import Derived.Deep.RegionLaw
import Derived.Deep.RegionWith
import Derived.Deep.Cut
import Derived.Deep.CutRange
namespace Go.Proofs.Ytiaejomdkkhimaa
namespace La
open Go.RowKit

theorem bel_a (w : World) : Below w.heap.size w (w.alloc (.cells #[] 3)).drew := ((Below.refl _ _).alloc (Nat.le_refl _) _).drew
theorem bel_b (w : World) : Below w.heap.size w ((w.alloc (.cells #[] 3)).alloc (.cells #[] 3)).drew := (((Below.refl _ _).alloc (Nat.le_refl _) _).alloc (by simp) _).drew
theorem own_a (w : World) : OwnI (w.alloc (.cells #[] 3)).drew w.heap.size w.heap.size [] 0 := OwnI.empty (Nat.le_refl _) (Row.new w 3 #[])
theorem own_b (w : World) : OwnI ((w.alloc (.cells #[] 3)).alloc (.cells #[] 3)).drew w.heap.size w.heap.size [] 0 := OwnI.empty (Nat.le_refl _) (rows2 w 3 3 #[] #[]).1
theorem own_c (w : World) : OwnI ((w.alloc (.cells #[] 3)).alloc (.cells #[] 3)).drew w.heap.size (w.heap.size + 1) [] 0 := OwnI.empty (Nat.le_succ _) (rows2 w 3 3 #[] #[]).2.1
theorem own_n {w w3 : World} (h : w.heap.size ≤ w3.heap.size) : OwnI (w3.alloc (.cells #[] 3)) w.heap.size w3.heap.size [] 0 := OwnI.empty h (Row.new w3 3 #[])
theorem sz_a (w : World) : w.heap.size ≤ (w.alloc (.cells #[] 3)).drew.heap.size := (bel_a w).size
theorem sz_b (w : World) : w.heap.size ≤ ((w.alloc (.cells #[] 3)).alloc (.cells #[] 3)).drew.heap.size := (bel_b w).size
theorem bel_n {w w3 : World} (h : Below w.heap.size w w3) : Below w.heap.size w (w3.alloc (.cells #[] 3)) := h.alloc h.size _
theorem ap_a {w w3 : World} (h : (w.alloc (.cells #[] 3)).drew.grownBy w3 (some w.heap.size)) : Below w.heap.size w w3 := Below.grow (bel_a w) h (sz_a w) (Nat.le_refl _)
theorem ap_b {w w3 : World} {g : Nat} (h : ((w.alloc (.cells #[] 3)).alloc (.cells #[] 3)).drew.grownBy w3 (some w.heap.size)) (hat : g = w.heap.size ∨ g = ((w.alloc (.cells #[] 3)).alloc (.cells #[] 3)).drew.heap.size) : Below w.heap.size w w3 ∧ OwnI w3 w.heap.size (w.heap.size + 1) [] 0 ∧ g ≠ w.heap.size + 1 :=
  ⟨Below.grow (bel_b w) h (sz_b w) (Nat.le_refl _), (own_c w).keep (h.block _ (by simp) (by simp)), by simp at hat; omega⟩
theorem ap_c {w w3 : World} {g : Nat} (h : ((w.alloc (.cells #[] 3)).alloc (.cells #[] 3)).drew.grownBy w3 (some (w.heap.size + 1))) (hat : g = w.heap.size + 1 ∨ g = ((w.alloc (.cells #[] 3)).alloc (.cells #[] 3)).drew.heap.size) : Below w.heap.size w w3 ∧ OwnI w3 w.heap.size w.heap.size [] 0 ∧ g ≠ w.heap.size :=
  ⟨Below.grow (bel_b w) h (sz_b w) (Nat.le_succ _), (own_b w).keep (h.block _ (by simp; omega) (by simp)), by simp at hat; omega⟩
/-- Behind the second append, both rows. -/
structure Ap2 (w w4 : World) (g3 c3 : Nat) (xs : List Int) (g4 c4 : Nat) (ys : List Int) : Prop where
  one : OwnI w4 w.heap.size g3 xs c3
  two : OwnI w4 w.heap.size g4 ys c4
  ne : g3 ≠ g4
  below : Below w.heap.size w w4
theorem Ap2.old {w w3 w4 : World} {g3 c3 g0 g4 c4 : Nat} {xs ys : List Int} (hB : Below w.heap.size w w3) (ho : OwnI w3 w.heap.size g3 xs c3) (h0 : OwnI w3 w.heap.size g0 [] 0) (hne : g3 ≠ g0) (hg : w3.grownBy w4 (some g0)) (h4 : OwnI w4 w.heap.size g4 ys c4) (hat : g4 = g0 ∨ g4 = w3.heap.size) : Ap2 w w4 g3 c3 xs g4 c4 ys :=
  ⟨ho.keep (hg.block _ ho.lt (by simpa using hne)), h4, by have := ho.lt; omega, Below.grow hB hg hB.size h0.le⟩
theorem Ap2.new {w w3 w4 : World} {g3 c3 g4 c4 : Nat} {xs ys : List Int} (hB : Below w.heap.size w w3) (ho : OwnI w3 w.heap.size g3 xs c3) (hg : (w3.alloc (.cells #[] 3)).grownBy w4 (some w3.heap.size)) (h4 : OwnI w4 w.heap.size g4 ys c4) (hat : g4 = w3.heap.size ∨ g4 = (w3.alloc (.cells #[] 3)).heap.size) : Ap2 w w4 g3 c3 xs g4 c4 ys := by
  have hl := ho.lt
  have hk : OwnI (w3.alloc (.cells #[] 3)) w.heap.size g3 xs c3 := ho.keep (heap_alloc_old w3 _ hl)
  exact ⟨hk.keep (hg.block _ hk.lt (by simp; omega)), h4, by simp at hat; omega, Below.grow (bel_n hB) hg (bel_n hB).size hB.size⟩
theorem LxPost.alloc {s : St} {i : Int} {w w' : World} {e' : Ending} (h : LxPost s i w e' w') (o : Obj) : LxPost s i w e' (w'.alloc o) := by
  obtain ⟨X, Y, h1, h2, h3⟩ := h
  have hb : Below w'.heap.size w' (w'.alloc o) := (Below.refl _ _).alloc (Nat.le_refl _) _
  exact ⟨X, Y, h1, (h2.under hb (Nat.le_refl _)).more (Nat.le_refl _) hb.size, h3.trans (hb.mono h3.size)⟩

end La
end Go.Proofs.Ytiaejomdkkhimaa
