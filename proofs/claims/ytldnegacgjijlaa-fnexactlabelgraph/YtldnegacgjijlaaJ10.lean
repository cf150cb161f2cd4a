/- Joined texts: ExM, Nx. Nothing is assumed. -/
import Derived.Test.YtldnegacgjijlaaM1Q
import Derived.Test.YtldnegacgjijlaaJ05
import Derived.Test.YtldnegacgjijlaaBsQ
namespace Go.Proofs.Ytldnegacgjijlaa
open Go.RowKit

theorem mkExs_any (xs : List Ex) (m : Int) (xa : Option Addr) (xl xc lo hi : Nat) (w : World) (h : Lay.exs.sep w lo hi xs (fun j => (#[.slice xa xl xc] : Array Value).getD j undef)) (_hhi : hi ≤ w.heap.size) (hz : Lay.exs.sz xs ≤ 1048576) (hm0 : 0 ≤ m) (hm1 : m ≤ 8388608) :
    Calls Try.prog 37 #[.slice xa xl xc, .int .i64 m] w fun e' w' => ∃ M : Int, e' = .returned (.int .i64 M) ∧ m ≤ M ∧ M ≤ m + 2097152 ∧ Kept lo hi w w' := by
  rw [exs_sz] at hz
  obtain ⟨A, cap, g, cs, D, s, h0, hl, h1, h2, h3, h4⟩ := h
  have h0' : Value.slice xa xl xc = .slice A xs.length cap := h0
  have hS : Sk w lo hi (.node 0 0 xs) (.slice A xs.length cap) := by
    refine .mk 0 0 xs A cap g cs (fun i => D i 2) (fun i x hx => ?_) (fun i x hx => ?_) (fun i x hx => ?_) (fun i x hx => ?_) (fun i x hx => ?_)
    all_goals obtain ⟨a1, a2, a3, a4, a5, a6, a7⟩ := h4 i x hx
    · exact ⟨a1, a2, a3, a5⟩
    · obtain ⟨n0, _, _, _, _, e0, _⟩ := (show Sep w (s i) (s (i + 1)) x (D i 0) (D i 1) (D i 2) from a7).own.form
      exact ⟨n0, by rw [← e0]; exact a6 0 (by decide)⟩
    · obtain ⟨_, n1, _, _, _, _, e1, _⟩ := (show Sep w (s i) (s (i + 1)) x (D i 0) (D i 1) (D i 2) from a7).own.form
      exact ⟨n1, by rw [← e1]; exact a6 1 (by decide)⟩
    · exact a6 2 (by decide)
    · have hi := (List.getElem?_eq_some_iff.1 hx).1
      have m1 := mono_to h1 i 0 (Nat.zero_le _) (by omega)
      have m2 := mono_to h1 xs.length (i + 1) (by omega) (Nat.le_refl _)
      exact ((show Sep w (s i) (s (i + 1)) x (D i 0) (D i 1) (D i 2) from a7).own.more (by omega) (by omega)).sk
  rw [h0']
  refine (mkB_any (.node 0 0 xs) m lo hi _ w hS (by simpa only [desc] using hz) hm0 (by simp only [desc]; omega)).mono ?_
  rintro e' w1 ⟨rfl, hk⟩
  exact ⟨_, rfl, by simp only [desc]; omega, by simp only [desc]; omega, hk.kept⟩

end Go.Proofs.Ytldnegacgjijlaa
namespace Go.Proofs.Ytldnegacgjijlaa
open Go.RowKit

theorem room_next {left : Int} {n : Nat} (h0 : 0 ≤ left) (h1 : left ≤ 1048576) : ∃ r, r = room left n ∧ (r < 0 ∨ 0 ≤ r ∧ r ≤ 1048576 ∧ n ≤ 1048576) := by
  refine ⟨_, rfl, ?_⟩
  unfold room
  by_cases h : left < (n : Int)
  · rw [if_pos h]; left; omega
  · rw [if_neg h]; right; omega

end Go.Proofs.Ytldnegacgjijlaa
