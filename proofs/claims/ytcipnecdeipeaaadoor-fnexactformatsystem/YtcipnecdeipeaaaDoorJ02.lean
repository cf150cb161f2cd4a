/- Joined texts: Iv, V1q. Nothing is assumed. -/
import Derived.Test.YtcipnecdeipeaaaDoorBs
namespace Go.Proofs.YtcipnecdeipeaaaDoor
open Go.RowKit

/-- The slice holds these numbers and lies below block B. -/
def Ints (w : World) (B : Nat) (A : Option Addr) (b off : Nat) (zs : List Int) : Prop :=
  ∀ (i : Nat) (z : Int), zs[i]? = some z → A = some ⟨b, off, none⟩ ∧ b < B ∧ w.cell? ⟨b, off + i, none⟩ = some (.int .i64 z)

theorem Ints.under {w w' : World} {B B' : Nat} {A : Option Addr} {b off : Nat} {zs : List Int} (h : Ints w B A b off zs) (hb : Below B w w') (hB : B ≤ B') : Ints w' B' A b off zs := fun i z hz => by
  obtain ⟨h1, h2, h3⟩ := h i z hz
  exact ⟨h1, by omega, (hb.cell (p := ⟨b, off + i, none⟩) h2).trans h3⟩

end Go.Proofs.YtcipnecdeipeaaaDoor
namespace Go.Proofs.YtcipnecdeipeaaaDoor
open Go.RowKit

def valOk (z : Int) : Bool := decide (0 ≤ z) && decide (z ≤ 3)
def valsOk (zs : List Int) : Bool := zs.all valOk && decide (zs.length = 3)

theorem allv_take_succ {l : List Int} {i : Nat} {x : Int} (h : l[i]? = some x) : (l.take (i + 1)).all valOk = ((l.take i).all valOk && valOk x) := by
  have hi := (List.getElem?_eq_some_iff.1 h).1
  rw [List.take_succ_eq_append_getElem hi, (List.getElem?_eq_some_iff.1 h).2]
  simp

theorem allv_false {l : List Int} {i : Nat} {x : Int} (h : l[i]? = some x) (hf : valOk x = false) : valsOk l = false := by
  unfold valsOk
  rw [show l.all valOk = false from List.all_eq_false.2 ⟨x, List.mem_of_getElem? h, by simp [hf]⟩]
  rfl

end Go.Proofs.YtcipnecdeipeaaaDoor
