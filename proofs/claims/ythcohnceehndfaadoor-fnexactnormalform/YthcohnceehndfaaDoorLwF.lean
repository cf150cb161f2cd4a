/- What a law over a function that answers a formula keeps: trees in rows of one's own, marked and not. Nothing is assumed. -/
import Derived.Test.YthcohnceehndfaaDoorNgP
import Derived.Test.YthcohnceehndfaaDoorT4F
import Derived.Test.YthcohnceehndfaaDoorLyF
namespace Go.Proofs.YthcohnceehndfaaDoor
open Go.RowKit

theorem Own.keptF {w w' : World} {t : TypeId} {lo hi lo' hi' : Nat} {e : Ex} {c0 c1 c2 : Value} (h : Own w t lo hi e c0 c1 c2) (hk : Kept lo' hi' w w') (hh : hi ≤ w.heap.size) (hd : hi ≤ lo' ∨ hi' ≤ lo) : Own w' t lo hi e c0 c1 c2 :=
  h.keep (Nat.le_refl _) (Nat.le_refl _) fun g h1 h2 => hk.other g (by omega) (by omega)
theorem SepF.kept {w w' : World} {lo hi lo' hi' : Nat} {e : Ex} {c0 c1 c2 : Value} (h : SepF w lo hi e c0 c1 c2) (hk : Kept lo' hi' w w') (hh : hi ≤ w.heap.size) (hd : hi ≤ lo' ∨ hi' ≤ lo) : SepF w' lo hi e c0 c1 c2 :=
  h.keep fun g h1 h2 => hk.other g (by omega) (by omega)
theorem HeldF.under {w w' : World} {lo hi B : Nat} {e : Ex} {c : Value} {m : Int} (h : HeldF w lo hi e c m) (hb : Below B w w') (hB : hi ≤ B) : HeldF w' lo hi e c m := h.keep fun g _ hg => hb.block g (by omega)
theorem HeldF.kept {w w' : World} {lo hi lo' hi' : Nat} {e : Ex} {c : Value} {m : Int} (h : HeldF w lo hi e c m) (hk : Kept lo' hi' w w') (hh : hi ≤ w.heap.size) (hd : hi ≤ lo' ∨ hi' ≤ lo) : HeldF w' lo hi e c m := h.keep fun g h1 h2 => hk.other g (by omega) (by omega)

end Go.Proofs.YthcohnceehndfaaDoor
