/- A valid tree is of good shape. -/
import Derived.Test.YtkcgjgdcmdjcfaaPlain
namespace Go.Proofs.Ytkcgjgdcmdjcfaa

theorem shape_of_valid {e : Ex} (h : true = valid e) : shape 6 e = true := by
  unfold valid at h
  cases hs : shape 6 e
  · rw [hs] at h; exact h.symm
  · rfl

end Go.Proofs.Ytkcgjgdcmdjcfaa
