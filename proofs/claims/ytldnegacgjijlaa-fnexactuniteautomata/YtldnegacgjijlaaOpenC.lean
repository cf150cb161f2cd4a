/- Arguments opened by their layouts: numbers and slices. -/
import Derived.Test.YtldnegacgjijlaaOpenZ
import Derived.Test.YtldnegacgjijlaaLayB
namespace Go.Proofs.Ytldnegacgjijlaa
open Go.ChangeShapes Go.WideShapes Go.ChangeAt Go.RowKit Go.Deep Go.Joins

section
variable {H : Type} {X : Type}

/-- Whatever reads at the type t lies as the layout says. -/
def Opens (enc : TypeId × Value → H) (W : World) (sp : Nat → Bool) (L : Lay X) (t : TypeId) : Prop :=
  ∀ (n : Nat) (cs : List Value) (x : DataW H × List MemPlace), DataW.trod enc Try.prog W 0 sp true n t cs = some x → ∃ y : X, L.lies W W.heap.size y (fun j => cs.getD j undef)

variable {enc : TypeId × Value → H} {W : World} {sp : Nat → Bool}

theorem opens_int : Opens enc W sp Lay.int 3 := fun n cs x h => by
  obtain ⟨k, rfl, _, _⟩ := DataW.trod_int Try.underlying3 h
  exact ⟨k, rfl⟩

theorem opens_slice [Inhabited X] {L : Lay X} {e t t' : TypeId} (hsp : ∀ b, sp b = true) (ht : Try.prog.underlying t = some (.slice e)) (hc : Try.prog.cellsOf e = L.st) (hpos : 0 < L.st) (ho : Opens enc W sp L e) : Opens enc W sp (L.slice t') t := fun n cs x h => by
  rcases open_slice ht h with ⟨hcs, _⟩ | ⟨a, len, cap, m, n', D, Pl, hcs, _, hl, hm, hmm, hx, hall⟩
  · subst hcs
    exact ⟨[], none, 0, 0, 0, fun _ _ => undef, rfl, Nat.zero_le _, fun i x hx => by simp at hx⟩
  · simp only [hsp, if_true] at hmm
    subst hmm hcs
    rw [hc] at hall
    obtain ⟨b, off, spot⟩ := a
    have hspot : 0 < len → spot = none := fun h0 => by
      obtain ⟨cs', h1, _⟩ := hall 0 (by omega)
      obtain ⟨_, hlen, hcell⟩ := World.cells?_some h1
      have h2 := hcell 0 hpos
      rw [List.getElem?_eq_getElem (by omega)] at h2
      simpa [Addr.add] using World.cell?_spot h2
    have one : ∀ i, i < len → ∃ q : X × (Nat → Value), spot = none ∧ b < W.heap.size ∧ (∀ j, j < L.st → W.cell? ⟨b, off + i * L.st + j, none⟩ = some (q.2 j)) ∧ L.lies W W.heap.size q.1 q.2 := fun i hi => by
      obtain ⟨cs', h1, h2⟩ := hall i (by omega)
      obtain ⟨_, hlen, hcell⟩ := World.cells?_some h1
      obtain ⟨y, hy⟩ := ho _ _ _ h2
      have hs := hspot (by omega)
      subst hs
      have key : ∀ j, j < L.st → W.cell? ⟨b, off + i * L.st + j, none⟩ = some (cs'.getD j undef) := fun j hj => by
        have h3 := hcell j hj
        rw [add_plain, add_plain] at h3
        rw [h3, List.getElem?_eq_getElem (by omega)]
        simp [List.getD, List.getElem?_eq_getElem (show j < cs'.length by omega)]
      exact ⟨(y, fun j => cs'.getD j undef), rfl, World.block_lt_of_cell? W _ (key 0 hpos), key, hy⟩
    obtain ⟨q, hq⟩ := choose_lt one
    refine ⟨(List.range len).map fun i => (q i).1, some ⟨b, off, spot⟩, m, b, off, fun i => (q i).2, by simp, by simp; omega, fun i x hx => ?_⟩
    have hi : i < len := by
      have := (List.getElem?_eq_some_iff.1 hx).1
      simpa using this
    obtain ⟨e0, e1, e2, e3⟩ := hq i hi
    have ex : (q i).1 = x := by simpa [hi] using hx
    rw [← ex, e0]
    exact ⟨rfl, e1, e2, e3⟩

end
end Go.Proofs.Ytldnegacgjijlaa
