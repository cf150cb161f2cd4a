/- Two rows of numbers of one's own. -/
import Derived.Test.YtldnegacgjijlaaMkI
import Derived.Test.YtldnegacgjijlaaStD
namespace Go.Proofs.Ytldnegacgjijlaa
open Go.RowKit

/-- What a marked state is. -/
def markedSt (s : St) : St := ⟨from_ 1 s.locs.length, from_ (1 + s.locs.length) s.vals.length⟩
/-- A state in two rows of one's own. -/
def StR (w : World) (lo hi : Nat) (s : St) (X Y : Value) : Prop := ∃ m0 m1 n0 n1 : Nat, (lo ≤ m0 ∧ m0 ≤ m1 ∧ m1 ≤ hi ∧ lo ≤ n0 ∧ n0 ≤ n1 ∧ n1 ≤ hi ∧ (m1 ≤ n0 ∨ n1 ≤ m0)) ∧ (Lay.int.slice 3).sep w m0 m1 s.locs (fun _ => X) ∧ (Lay.int.slice 3).sep w n0 n1 s.vals (fun _ => Y)
theorem StR.keep {w w' : World} {lo hi : Nat} {s : St} {X Y : Value} (h : StR w lo hi s X Y) (hk : ∀ g, lo ≤ g → g < hi → w'.heap[g]? = w.heap[g]?) : StR w' lo hi s X Y := by
  obtain ⟨m0, m1, n0, n1, ho, h1, h2⟩ := h
  exact ⟨m0, m1, n0, n1, ho, (Lay.int.slice _).sep_keep (fun g a b => hk g (by omega) (by omega)) h1, (Lay.int.slice _).sep_keep (fun g a b => hk g (by omega) (by omega)) h2⟩
theorem StR.under {w w' : World} {lo hi : Nat} {s : St} {X Y : Value} (h : StR w lo hi s X Y) (hb : Below w.heap.size w w') (hh : hi ≤ w.heap.size) : StR w' lo hi s X Y := h.keep fun g _ hg => hb.block g (by omega)
theorem StR.kept {w w' : World} {lo hi lo' hi' : Nat} {s : St} {X Y : Value} (h : StR w lo hi s X Y) (hk : Kept lo' hi' w w') (hh : hi ≤ w.heap.size) (hd : hi ≤ lo' ∨ hi' ≤ lo) : StR w' lo hi s X Y := h.keep fun g h1 h2 => hk.other g (by omega) (by omega)
theorem StR.more {w : World} {lo hi lo' hi' : Nat} {s : St} {X Y : Value} (h : StR w lo hi s X Y) (hl : lo' ≤ lo) (hh : hi ≤ hi') : StR w lo' hi' s X Y := by
  obtain ⟨m0, m1, n0, n1, ho, h1, h2⟩ := h
  exact ⟨m0, m1, n0, n1, by omega, h1, h2⟩
theorem StR.lies {w : World} {lo hi B : Nat} {s : St} {X Y : Value} (h : StR w lo hi s X Y) (hB : hi ≤ B) : Lay.sta.lies w B s (fun j => (#[X, Y] : Array Value).getD j undef) := by
  obtain ⟨m0, m1, n0, n1, ho, h1, h2⟩ := h
  refine ⟨(Lay.int.slice _).more (B := m1) ((Lay.int.slice _).lies_ext (fun q hq => ?_) ((Lay.int.slice _).sep_lies h1)) (by omega), (Lay.int.slice _).more (B := n1) ((Lay.int.slice _).lies_ext (fun q hq => ?_) ((Lay.int.slice _).sep_lies h2)) (by omega)⟩ <;>
  · have : q = 0 := by have : q < 1 := hq; omega
    subst this
    rfl
theorem StR.form {w : World} {lo hi : Nat} {s : St} {X Y : Value} (h : StR w lo hi s X Y) : ∃ xa xc ya yc, X = .slice xa s.locs.length xc ∧ Y = .slice ya s.vals.length yc := by
  obtain ⟨m0, m1, n0, n1, ho, ⟨A, cap, _, _, _, _, e1, _⟩, ⟨A', cap', _, _, _, _, e2, _⟩⟩ := h
  exact ⟨A, cap, A', cap', e1, e2⟩

end Go.Proofs.Ytldnegacgjijlaa
