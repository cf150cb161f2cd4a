/- Slices of numbers in memory. -/
import Derived.Test.YtldnegacgjijlaaBs
namespace Go.Proofs.Ytldnegacgjijlaa
open Go.RowKit

/-- The slice holds these numbers and lies below block B. -/
def Ints (w : World) (B : Nat) (A : Option Addr) (b off : Nat) (zs : List Int) : Prop :=
  ∀ (i : Nat) (z : Int), zs[i]? = some z → A = some ⟨b, off, none⟩ ∧ b < B ∧ w.cell? ⟨b, off + i, none⟩ = some (.int .i64 z)

theorem Ints.under {w w' : World} {B B' : Nat} {A : Option Addr} {b off : Nat} {zs : List Int} (h : Ints w B A b off zs) (hb : Below B w w') (hB : B ≤ B') : Ints w' B' A b off zs := fun i z hz => by
  obtain ⟨h1, h2, h3⟩ := h i z hz
  exact ⟨h1, by omega, (hb.cell (p := ⟨b, off + i, none⟩) h2).trans h3⟩

end Go.Proofs.Ytldnegacgjijlaa
