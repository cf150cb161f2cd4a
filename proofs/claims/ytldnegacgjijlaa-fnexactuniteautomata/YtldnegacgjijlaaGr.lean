/- What one call leaves of the world: all but one block, all but an interval of blocks; how such facts are joined. Nothing is assumed. -/
import Derived.Test.YtldnegacgjijlaaOwn
namespace Go.Proofs.Ytldnegacgjijlaa
open Go.RowKit

section
variable {g : Nat} {w w1 w2 : World}
theorem grown_trans (hg : w.grownBy w1 (some g)) (h2 : w1.grownBy w2 (some g)) : w.grownBy w2 (some g) :=
  ⟨h2.os.trans hg.os, h2.tape.trans hg.tape, h2.output.trans hg.output, Nat.le_trans hg.size h2.size, fun k hk hne => (h2.block k (by have := hg.size; omega) hne).trans (hg.block k hk hne)⟩

theorem grown_below (hg : w.grownBy w1 (some g)) {B : Nat} (hb : Below B w1 w2) (hB : w.heap.size ≤ B) : w.grownBy w2 (some g) :=
  ⟨hb.os.trans hg.os, hb.tape.trans hg.tape, hb.output.trans hg.output, Nat.le_trans hg.size hb.size, fun k hk hne => (hb.block k (by omega)).trans (hg.block k hk hne)⟩

theorem below_grown (hb : Below w.heap.size w w1) (h2 : w1.grownBy w2 (some g)) : w.grownBy w2 (some g) :=
  grown_trans ⟨hb.os, hb.tape, hb.output, hb.size, fun k hk _ => hb.block k hk⟩ h2

theorem Row.grown {t : TypeId} {q : Nat} {cs : Array Value} (h : Row w q t cs) (hg : w.grownBy w1 (some g)) (hne : q ≠ g) : Row w1 q t cs := (hg.block q h.lt (fun e => hne (by injection e))).trans h

theorem Own.grown {t : TypeId} {lo hi : Nat} {e : Ex} {c0 c1 c2 : Value} (h : Own w t lo hi e c0 c1 c2) (hg : w.grownBy w1 (some g)) (hlo : g < lo) (hhi : hi ≤ w.heap.size) : Own w1 t lo hi e c0 c1 c2 :=
  h.keep (Nat.le_refl _) (Nat.le_refl _) fun q h1 h2 => hg.block q (by omega) (fun e => by injection e with e; omega)
end

theorem grown_set (w : World) (g i : Nat) (u : Value) : w.grownBy (w.setCell ⟨g, i, none⟩ u) (some g) :=
  ⟨rfl, rfl, rfl, by simp, fun k _ hk => Below.heap_setCell _ _ _ _ (fun e => hk (by rw [e]))⟩

theorem below_of {w w' : World} {g : Nat} (hg : w.grownBy w' (some g)) (hlt : g ≤ w.heap.size) : Below g w w' :=
  (Below.refl _ _).grown hg hlt fun k hk => by injection hk with hk; omega

theorem grown_alloc (w : World) (g : Nat) (o : Obj) : w.grownBy (w.alloc o) (some g) := grown_below (⟨rfl, rfl, rfl, Nat.le_refl _, fun _ _ _ => rfl⟩ : w.grownBy w (some g)) ((Below.refl _ _).alloc (Nat.le_refl _) o) (Nat.le_refl _)

/-- What lies outside lo to hi is as it was. -/
structure Kept (lo hi : Nat) (w w' : World) : Prop where
  os : w'.os = w.os
  tape : w'.tape = w.tape
  output : w'.output = w.output
  size : w.heap.size ≤ w'.heap.size
  other : ∀ g, g < w.heap.size → g < lo ∨ hi ≤ g → w'.heap[g]? = w.heap[g]?

theorem Kept.of_below {w w' : World} (h : Below w.heap.size w w') (lo hi : Nat) : Kept lo hi w w' := ⟨h.os, h.tape, h.output, h.size, fun g hg _ => h.block g hg⟩
theorem Kept.of_grown {w w' : World} {g lo hi : Nat} (h : w.grownBy w' (some g)) (hl : lo ≤ g) (hh : g < hi) : Kept lo hi w w' := ⟨h.os, h.tape, h.output, h.size, fun q hq hn => h.block q hq (fun e => by injection e with e; omega)⟩
theorem Kept.below {lo hi B : Nat} {w w' : World} (h : Kept lo hi w w') (hB : B ≤ lo) (hw : B ≤ w.heap.size) : Below B w w' := ⟨h.os, h.tape, h.output, h.size, fun g hg => h.other g (by omega) (.inl (by omega))⟩
theorem Kept.trans {lo hi : Nat} {a b c : World} (h : Kept lo hi a b) (k : Kept lo hi b c) : Kept lo hi a c :=
  ⟨k.os.trans h.os, k.tape.trans h.tape, k.output.trans h.output, Nat.le_trans h.size k.size, fun g hg hn => (k.other g (Nat.lt_of_lt_of_le hg h.size) hn).trans (h.other g hg hn)⟩
theorem Row.kept {lo hi : Nat} {w w' : World} {g : Nat} {t : TypeId} {cs : Array Value} (h : Row w g t cs) (hk : Kept lo hi w w') (hn : g < lo ∨ hi ≤ g) : Row w' g t cs := (hk.other g h.lt hn).trans h

theorem occ_end {w wl : World} {n : Nat} (hb : Below w.heap.size w wl) (hn : w.heap.size ≤ n) (u0 u1 u2 : Value) : Below w.heap.size w (((wl.setCell ⟨n, 0, none⟩ u0).setCell ⟨n, 1, none⟩ u1).setCell ⟨n, 2, none⟩ u2) :=
  ((hb.setCell (p := ⟨n, 0, none⟩) hn _).setCell (p := ⟨n, 1, none⟩) hn _).setCell (p := ⟨n, 2, none⟩) hn _


theorem Kept.refl (lo hi : Nat) (w : World) : Kept lo hi w w := ⟨rfl, rfl, rfl, Nat.le_refl _, fun _ _ _ => rfl⟩
theorem Kept.more {lo hi lo' hi' : Nat} {w w' : World} (h : Kept lo hi w w') (hl : lo' ≤ lo) (hh : hi ≤ hi') : Kept lo' hi' w w' := ⟨h.os, h.tape, h.output, h.size, fun g hg hn => h.other g hg (by omega)⟩
theorem Kept.set_ (lo hi : Nat) (w : World) {g : Nat} (hl : lo ≤ g) (hh : g < hi) (i : Nat) (u : Value) : Kept lo hi w (w.setCell ⟨g, i, none⟩ u) :=
  ⟨rfl, rfl, rfl, by simp, fun q _ hn => Below.heap_setCell _ _ _ _ (by simp; omega)⟩

end Go.Proofs.Ytldnegacgjijlaa
