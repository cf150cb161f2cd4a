/- The walk of slices.Clone of a row of numbers. -/
import Derived.Test.YtldnegacgjijlaaNuP
namespace Go.Proofs.Ytldnegacgjijlaa
namespace La
open Go.RowKit

set_option maxHeartbeats 400000 in
set_option maxRecDepth 100000 in
theorem cloneN_any (zs : List Int) (A : Option Addr) (cap b off : Nat) (w : World) (hz : zs.length ≤ 1048576) (hI : Ints w w.heap.size A b off zs) :
    Calls Try.prog 66 #[.slice A zs.length cap] w (RowPost zs w) := by
  cases A with
  | none =>
    have h0 : zs = [] := by
      cases zs with
      | nil => rfl
      | cons z r => exact absurd (hI 0 z rfl).1 (by simp)
    subst h0
    have hnil : Sem.run Try.prog (binOp BinOp.eql 22 (.slice none 0 cap) (.slice none 0 0)) w = .ok (.bool true) w := by kernel_rfl
    clear hI hz
    go_enter Try.func66, Try.ntmps66
    go_wp2_with fail
    go_ret
    exact ⟨none, 0, rfl, sep_nil _ _ _ (Nat.le_refl _) _ _, Below.refl _ _⟩
  | some ad =>
    have hnil : Sem.run Try.prog (binOp BinOp.eql 22 (.slice (some ad) zs.length cap) (.slice none 0 0)) w = .ok (.bool false) w := by kernel_rfl
    have HI := Lib.hid (hI.under (B' := (w.alloc (.cells #[] 3)).heap.size) ((Below.refl _ w).alloc (Nat.le_refl _) (.cells #[] 3)) (by simp))
    have HO : Hid (OwnI (w.alloc (.cells #[] 3)) w.heap.size w.heap.size [] 0) := OwnI.empty (Nat.le_refl _) (Row.new _ _ _)
    obtain ⟨n, hn⟩ : ∃ n, n = zs.length := ⟨_, rfl⟩
    have HN := Lib.hid hn
    rw [← hn] at hnil ⊢
    clear hI hn
    go_enter Try.func66, Try.ntmps66
    go_wp2_with (at_builtin; refine wpList_ints rfl (.tmp 5) (.tmp 6) rfl w.heap.size w.heap.size 0 [] zs (some ad) b off cap rfl (by rw [← HN.out]; rfl) HO.out HI.out (by simp; omega) (by simp) ?_; intro g k w' hown hgrow hat hlt)
    have HOw := Lib.hid hown
    have HB : Hid (Below w.heap.size w w') := Below.grow ((Below.refl _ w).alloc (Nat.le_refl _) _) hgrow (by simp) (Nat.le_refl _)
    have hle := hown.le
    clear hown hgrow hat
    go_wp2_with fail
    go_ret
    refine ⟨some ⟨g, 0, none⟩, k, rfl, ?_, HB.out⟩
    have := HOw.out.sep (by simpa using hz)
    exact (Lay.int.slice _).sep_more hle hlt this

end La
end Go.Proofs.Ytldnegacgjijlaa
