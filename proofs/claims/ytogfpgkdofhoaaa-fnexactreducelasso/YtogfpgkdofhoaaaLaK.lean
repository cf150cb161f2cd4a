/- A lasso's copy as two rows of one's own. -/
import Derived.Test.YtogfpgkdofhoaaaLaX
import Derived.Test.YtogfpgkdofhoaaaMkD
namespace Go.Proofs.Ytogfpgkdofhoaaa
namespace La
open Go.RowKit

theorem sta_str {w : World} {lo hi g h : Nat} {s : St} (hs : Lay.sta.sep w lo hi s (fun j => (arr s g h).getD j undef)) : StR w lo hi s (.slice (some ⟨g, 0, none⟩) s.locs.length s.locs.length) (.slice (some ⟨h, 0, none⟩) s.vals.length s.vals.length) := by
  obtain ⟨mid, h1, h2, h3, h4⟩ := hs
  refine ⟨lo, mid, mid, hi, by omega, (Lay.int.slice _).sep_ext (fun j hj => ?_) h3, (Lay.int.slice _).sep_ext (fun j hj => ?_) h4⟩ <;>
  · have : j = 0 := by have : j < 1 := hj; omega
    subst this
    rfl

end La
end Go.Proofs.Ytogfpgkdofhoaaa
