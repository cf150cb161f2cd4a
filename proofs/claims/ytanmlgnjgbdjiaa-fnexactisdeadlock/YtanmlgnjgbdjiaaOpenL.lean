/- Arguments of the mirror types, opened by their layouts. -/
import Derived.Test.YtanmlgnjgbdjiaaOpen
import Derived.Test.YtanmlgnjgbdjiaaEd
namespace Go.Proofs.Ytanmlgnjgbdjiaa
open Go.ChangeShapes Go.WideShapes Go.ChangeAt Go.RowKit Go.Deep Go.Joins

instance : Inhabited Ed := ⟨⟨0, 0, default, 0, default, 0⟩⟩

section
variable {H : Type} {X : Type}

/-- Whatever reads at the type t lies as the layout says. -/
def Opens (enc : TypeId × Value → H) (W : World) (sp : Nat → Bool) (L : Lay X) (t : TypeId) : Prop :=
  ∀ (n : Nat) (cs : List Value) (x : DataW H × List MemPlace), DataW.trod enc Try.prog W 0 sp true n t cs = some x → ∃ y : X, L.lies W W.heap.size y (fun j => cs.getD j undef)

variable {enc : TypeId × Value → H} {W : World} {sp : Nat → Bool}

theorem opens_int : Opens enc W sp Lay.int 3 := fun n cs x h => by
  obtain ⟨k, rfl, _, _⟩ := DataW.trod_int Try.underlying3 h
  exact ⟨k, rfl⟩

set_option maxRecDepth 100000 in
theorem opens_ex (hsp : ∀ b, sp b = true) : Opens enc W sp Lay.ex 196 := fun n cs x h => by
  obtain ⟨y0, y1, y2, k, hy, hl, u0, u1, u2⟩ := trod_struct3 Try.underlying196 h
  rw [Try.cells196] at hl
  match cs, hl with
  | [v0, v1, v2], _ =>
    simp [Try.cells3] at u0 u1
    simp [Try.cells194] at u2
    obtain ⟨k0, e0, _, _⟩ := DataW.trod_int Try.underlying3 u0
    obtain ⟨k1, e1, _, _⟩ := DataW.trod_int Try.underlying3 u1
    simp only [List.cons.injEq, and_true] at e0 e1
    obtain ⟨kids, A, cp, b2, o2, C0, C1, C2, e2, hkl, hO⟩ := open_kids hsp _ _ v2 y2.1 y2.2 (Nat.le_refl _) u2
    refine ⟨.node k0 k1 kids, ?_⟩
    show Lies W W.heap.size _ v0 v1 v2
    rw [e0, e1, e2]
    exact hO.mk_ hkl

theorem opens_slice [Inhabited X] {L : Lay X} {e t t' : TypeId} (hsp : ∀ b, sp b = true) (ht : Try.prog.underlying t = some (.slice e)) (hc : Try.prog.cellsOf e = L.st) (hpos : 0 < L.st) (ho : Opens enc W sp L e) : Opens enc W sp (L.slice t') t := fun n cs x h => by
  rcases open_slice ht h with ⟨hcs, _⟩ | ⟨a, len, cap, m, n', D, Pl, hcs, _, hl, hm, hmm, hx, hall⟩
  · subst hcs
    exact ⟨[], none, 0, 0, 0, fun _ _ => undef, rfl, Nat.zero_le _, fun i x hx => by simp at hx⟩
  · simp only [hsp, if_true] at hmm
    subst hmm hcs
    rw [hc] at hall
    obtain ⟨b, off, spot⟩ := a
    have hspot : 0 < len → spot = none := fun h0 => by
      obtain ⟨cs', h1, _⟩ := hall 0 (by omega)
      obtain ⟨_, hlen, hcell⟩ := World.cells?_some h1
      have h2 := hcell 0 hpos
      rw [List.getElem?_eq_getElem (by omega)] at h2
      simpa [Addr.add] using World.cell?_spot h2
    have one : ∀ i, i < len → ∃ q : X × (Nat → Value), spot = none ∧ b < W.heap.size ∧ (∀ j, j < L.st → W.cell? ⟨b, off + i * L.st + j, none⟩ = some (q.2 j)) ∧ L.lies W W.heap.size q.1 q.2 := fun i hi => by
      obtain ⟨cs', h1, h2⟩ := hall i (by omega)
      obtain ⟨_, hlen, hcell⟩ := World.cells?_some h1
      obtain ⟨y, hy⟩ := ho _ _ _ h2
      have hs := hspot (by omega)
      subst hs
      have key : ∀ j, j < L.st → W.cell? ⟨b, off + i * L.st + j, none⟩ = some (cs'.getD j undef) := fun j hj => by
        have h3 := hcell j hj
        rw [add_plain, add_plain] at h3
        rw [h3, List.getElem?_eq_getElem (by omega)]
        simp [List.getD, List.getElem?_eq_getElem (show j < cs'.length by omega)]
      exact ⟨(y, fun j => cs'.getD j undef), rfl, World.block_lt_of_cell? W _ (key 0 hpos), key, hy⟩
    obtain ⟨q, hq⟩ := choose_lt one
    refine ⟨(List.range len).map fun i => (q i).1, some ⟨b, off, spot⟩, m, b, off, fun i => (q i).2, by simp, by simp; omega, fun i x hx => ?_⟩
    have hi : i < len := by
      have := (List.getElem?_eq_some_iff.1 hx).1
      simpa using this
    obtain ⟨e0, e1, e2, e3⟩ := hq i hi
    have ex : (q i).1 = x := by simpa [hi] using hx
    rw [← ex, e0]
    exact ⟨rfl, e1, e2, e3⟩

theorem Try.cells198 : Try.prog.cellsOf 198 = 10 := by kernel_rfl

set_option maxRecDepth 100000 in
theorem opens_ed (hsp : ∀ b, sp b = true) : Opens enc W sp Lay.ed 198 := fun n cs x h => by
  obtain ⟨xs, n, _, rfl, hl, hlen, hf⟩ := DataW.trod_struct Try.underlying198 h
  rw [Try.cells198] at hl
  match xs, hlen, cs, hl with
  | [y0, y1, y2, y3, y4, y5], _, [c0, c1, c2, c3, c4, c5, c6, c7, c8, c9], _ =>
    have u0 := hf 0 _ rfl
    have u1 := hf 1 _ rfl
    have u2 := hf 2 _ rfl
    have u3 := hf 3 _ rfl
    have u4 := hf 4 _ rfl
    have u5 := hf 5 _ rfl
    simp [Try.cells3] at u0 u1 u3 u5
    simp [Try.cells196] at u2 u4
    obtain ⟨z0, p0⟩ := opens_int _ _ _ u0
    obtain ⟨z1, p1⟩ := opens_int _ _ _ u1
    obtain ⟨z2, p2⟩ := opens_ex hsp _ _ _ u2
    obtain ⟨z3, p3⟩ := opens_int _ _ _ u3
    obtain ⟨z4, p4⟩ := opens_ex hsp _ _ _ u4
    obtain ⟨z5, p5⟩ := opens_int _ _ _ u5
    exact ⟨⟨z0, z1, z2, z3, z4, z5⟩, p0, p1, p2, p3, p4, p5⟩

theorem array10 {α : Type} {cs : Array α} (h : cs.size = 10) : ∃ c0 c1 c2 c3 c4 c5 c6 c7 c8 c9, cs = #[c0, c1, c2, c3, c4, c5, c6, c7, c8, c9] := by
  obtain ⟨l⟩ := cs
  match l, h with
  | [c0, c1, c2, c3, c4, c5, c6, c7, c8, c9], _ => exact ⟨c0, c1, c2, c3, c4, c5, c6, c7, c8, c9, rfl⟩

set_option maxRecDepth 100000 in
theorem open_edge {base : Nat} {v : Value} {d : DataW H} {p : List MemPlace} (hval : Value.okWide Try.prog W .any base 198 v) (h : DataW.Trod enc Try.prog W 0 (fun _ => true) true 198 v d p) :
    ∃ (e : Ed) (C : Nat → Value), v = .agg #[C 0, C 1, C 2, C 3, C 4, C 5, C 6, C 7, C 8, C 9] ∧ Lay.ed.lies W W.heap.size e C := by
  obtain ⟨cs, rfl, hsz⟩ := okWide_struct Try.underlying198 hval
  obtain ⟨c0, c1, c2, c3, c4, c5, c6, c7, c8, c9, rfl⟩ := array10 (hsz.trans Try.cells198)
  obtain ⟨fuel, hf⟩ := h
  obtain ⟨e, he⟩ := opens_ed (fun _ => rfl) _ _ _ hf
  exact ⟨e, fun j => [c0, c1, c2, c3, c4, c5, c6, c7, c8, c9].getD j undef, rfl, he⟩

end
end Go.Proofs.Ytanmlgnjgbdjiaa
