/- Rows that hold numbers. -/
import Derived.Test.YtldnegacgjijlaaMkD
import Derived.Laws.AppendOwn
namespace Go.Proofs.Ytldnegacgjijlaa
open Go.RowKit

/-- A row holds numbers. -/
theorem sep_row {w : World} {g cap : Nat} {cs : Array Value} {zs : List Int} (hr : Row w g 3 cs) (hl : zs.length ≤ maxLen) (hk : ∀ (i : Nat) (z : Int), zs[i]? = some z → cs[i]? = some (Value.int .i64 z)) : (Lay.int.slice 3).sep w g (g + 1) zs (fun _ => .slice (some ⟨g, 0, none⟩) zs.length cap) := by
  refine ⟨_, cap, g, cs, fun i _ => .int .i64 (zs.getD i 0), fun _ => g + 1, rfl, hl, fun _ _ => Nat.le_refl _, by dsimp only; omega, Nat.le_refl _, fun i x hx => ?_⟩
  have hi := (List.getElem?_eq_some_iff.1 hx).1
  have hg : zs.getD i 0 = x := by simp [List.getD, hx]
  refine ⟨rfl, Nat.le_refl _, Nat.lt_succ_self _, .inl (Nat.lt_succ_self _), hr, fun j hj => ?_, by show Value.int .i64 (zs.getD i 0) = .int .i64 x; rw [hg]⟩
  have hj0 : j = 0 := by have : j < 1 := hj; omega
  subst hj0
  show cs[i * 1 + 0]? = some (.int .i64 (zs.getD i 0))
  rw [Nat.mul_one, Nat.add_zero, hg]
  exact hk i x hx

theorem StR.none_ (w : World) (lo hi : Nat) (h : lo ≤ hi) (A A' : Option Addr) (c c' : Nat) : StR w lo hi ⟨[], []⟩ (.slice A 0 c) (.slice A' 0 c') :=
  ⟨lo, lo, lo, hi, by omega, ⟨A, c, 0, #[], fun _ _ => undef, fun _ => lo, rfl, Nat.zero_le _, fun _ _ => Nat.le_refl _, Nat.le_refl _, Nat.le_refl _, fun i x hx => by simp at hx⟩,
    ⟨A', c', 0, #[], fun _ _ => undef, fun _ => lo, rfl, Nat.zero_le _, fun _ _ => Nat.le_refl _, Nat.le_refl _, h, fun i x hx => by simp at hx⟩⟩
theorem StR.rows {w : World} {lo g h : Nat} {cs ds : Array Value} {zs ys : List Int} {k l : Nat} (hg : Row w g 3 cs) (hh : Row w h 3 ds) (hlg : lo ≤ g) (hlh : lo ≤ h) (hne : g ≠ h) (hz : zs.length ≤ 1048576) (hy : ys.length ≤ 1048576)
    (hcs : ∀ (i : Nat) (z : Int), zs[i]? = some z → cs[i]? = some (Value.int .i64 z)) (hds : ∀ (i : Nat) (z : Int), ys[i]? = some z → ds[i]? = some (Value.int .i64 z)) :
    StR w lo w.heap.size ⟨zs, ys⟩ (.slice (some ⟨g, 0, none⟩) zs.length k) (.slice (some ⟨h, 0, none⟩) ys.length l) := by
  have h1 := sep_row (cap := k) (zs := zs) hg (by unfold maxLen; omega) hcs
  have h2 := sep_row (cap := l) (zs := ys) hh (by unfold maxLen; omega) hds
  have := hg.lt
  have := hh.lt
  exact ⟨g, g + 1, h, h + 1, by omega, h1, h2⟩

theorem row_of_owns {w : World} {base : Nat} {g n cap : Nat} {xs : List Value} (h : w.ownsRow base 3 1 (.slice (some ⟨g, 0, none⟩) n cap) n xs) : ∃ cs : Array Value, base ≤ g ∧ Row w g 3 cs ∧ ∀ (i : Nat) (u : Value), xs[i]? = some u → cs[i]? = some u := by
  rcases h.2 with ⟨h1, _⟩ | ⟨g', cap', cur, hv, hb, hh, _, _, _, ht⟩
  · cases h1
  · injection hv with e1 e2 e3
    injection e1 with e1
    injection e1 with e1
    subst e1
    refine ⟨cur, hb, hh, fun i u hu => ?_⟩
    rw [← ht, List.getElem?_take] at hu
    split at hu
    · simpa using hu
    · cases hu

end Go.Proofs.Ytldnegacgjijlaa
