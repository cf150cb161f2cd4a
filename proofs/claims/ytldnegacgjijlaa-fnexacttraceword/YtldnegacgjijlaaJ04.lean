/- Joined texts: OpenG, Open. Nothing is assumed. -/
import Derived.Test.YtldnegacgjijlaaJ03
import Derived.Test.YtldnegacgjijlaaOwnQ
import Derived.Test.YtldnegacgjijlaaJ00
import Derived.ProofKit
import Derived.Deep.Slices
import Derived.Lib.SmallJoins
namespace Go.Proofs.Ytldnegacgjijlaa
open Go.ChangeShapes Go.WideShapes Go.ChangeAt Go.RowKit Go.Deep Go.Joins

section
variable {H : Type} {enc : TypeId × Value → H} {W : World} {sp : Nat → Bool}

theorem Try.cells61 : Try.prog.cellsOf 61 = 2 := by kernel_rfl
theorem Try.cells59 : Try.prog.cellsOf 59 = 1 := by kernel_rfl
theorem Try.cells58 : Try.prog.cellsOf 58 = 1 := by kernel_rfl

theorem opens_ints (hsp : ∀ b, sp b = true) : Opens enc W sp Lay.ints 22 := fun n cs x h => by
  obtain ⟨y, hy⟩ := opens_slice (t' := 3) hsp Try.underlying22 Try.cells3 (by decide) opens_int n cs x h
  refine ⟨y, hy, ?_⟩
  rcases DataW.trod_slice Try.underlying22 h with ⟨rfl, _⟩ | ⟨a, len, cap, _, _, _, _, rfl, _, _, hlc, _⟩
  · intro A l c e
    have e' : Value.slice none 0 0 = .slice A l c := e
    injection e' with _ h1 h2
    omega
  · intro A l c e
    have e' : Value.slice (some a) len cap = .slice A l c := e
    injection e' with _ h1 h2
    omega

set_option maxRecDepth 100000 in
theorem open_ints {base : Nat} {v : Value} {d : DataW H} {p : List MemPlace} (hval : Value.okWide Try.prog W .any base 22 v) (h : DataW.Trod enc Try.prog W 0 (fun _ => true) true 22 v d p) :
    ∃ (s : List Int) (A : Option Addr) (cap b off : Nat), v = .slice A s.length cap ∧ s.length ≤ maxLen ∧ Ints W W.heap.size A b off s := by
  obtain ⟨a, l, c, rfl⟩ := okWide_slice Try.underlying22 hval
  obtain ⟨fuel, hf⟩ := h
  obtain ⟨s, hs⟩ := opens_ints (fun _ => rfl) _ _ _ hf
  obtain ⟨A, cap, b, off, e0, hl, hI⟩ := ints_lies hs
  exact ⟨s, A, cap, b, off, e0, hl, hI⟩

set_option maxRecDepth 100000 in
theorem opens_gra (hsp : ∀ b, sp b = true) : Opens enc W sp Lay.gra 61 := fun n cs x h => by
  obtain ⟨xs, n, _, rfl, hl, hlen, hf⟩ := DataW.trod_struct Try.underlying61 h
  rw [Try.cells61] at hl
  match xs, hlen, cs, hl with
  | [y0, y1], _, [c0, c1], _ =>
    have u0 := hf 0 _ rfl
    have u1 := hf 1 _ rfl
    simp [Try.cells58] at u0
    simp [Try.cells59] at u1
    obtain ⟨z0, p0⟩ := opens_slice (t' := 136) hsp Try.underlying58 Try.cells172 (by decide) (opens_sta hsp) _ _ _ u0
    obtain ⟨z1, p1⟩ := opens_slice (t' := 22) hsp Try.underlying59 Try.cells22 (by decide) (opens_ints hsp) _ _ _ u1
    exact ⟨⟨z0, z1⟩, p0, p1⟩

set_option maxRecDepth 100000 in
theorem open_graph {base : Nat} {v : Value} {d : DataW H} {p : List MemPlace} (hval : Value.okWide Try.prog W .any base 61 v) (h : DataW.Trod enc Try.prog W 0 (fun _ => true) true 61 v d p) :
    ∃ (s : Gp) (C : Nat → Value), v = .agg #[C 0, C 1] ∧ Lay.gra.lies W W.heap.size s C := by
  obtain ⟨cs, rfl, hsz⟩ := okWide_struct Try.underlying61 hval
  obtain ⟨c0, c1, rfl⟩ := array2 (hsz.trans Try.cells61)
  obtain ⟨fuel, hf⟩ := h
  obtain ⟨s, hs⟩ := opens_gra (fun _ => rfl) _ _ _ hf
  exact ⟨s, fun j => [c0, c1].getD j undef, rfl, hs⟩

end
end Go.Proofs.Ytldnegacgjijlaa
namespace Go.Proofs.Ytldnegacgjijlaa
open Go.ChangeShapes Go.WideShapes Go.ChangeAt Go.RowKit Go.Deep Go.Joins

theorem Try.cells127 : Try.prog.cellsOf 127 = 3 := by kernel_rfl
theorem Try.cells62 : Try.prog.cellsOf 62 = 1 := by kernel_rfl

section
variable {H : Type} {enc : TypeId × Value → H} {W : World} {sp : Nat → Bool}

/-- The operands' slice, opened. -/
theorem open_kids (hsp : ∀ b, sp b = true) : ∀ (N n : Nat) (c : Value) (d : DataW H) (p : List MemPlace), SizeOf.sizeOf d ≤ N → DataW.trod enc Try.prog W 0 sp true n 62 [c] = some (d, p) →
    ∃ (kids : List Ex) (A : Option Addr) (cap b off : Nat) (C0 C1 C2 : Nat → Value), c = .slice A kids.length cap ∧ kids.length ≤ maxLen ∧ Opened W W.heap.size kids A b off C0 C1 C2 := by
  intro N
  induction N with
  | zero => intro n c d p hN; exfalso; cases d <;> simp at hN
  | succ N ih =>
    intro n c d p hN h
    rcases open_slice Try.underlying62 h with ⟨hc, hx⟩ | ⟨a, len, cap, m, n', D, Pl, hc, _, hl, hm, hmm, hx, hall⟩
    · simp only [List.cons.injEq, and_true] at hc
      exact ⟨[], none, 0, 0, 0, fun _ => undef, fun _ => undef, fun _ => undef, hc, Nat.zero_le _, fun i x hx => by simp at hx⟩
    · simp only [List.cons.injEq, and_true] at hc
      simp only [hsp, if_true] at hmm
      subst hmm
      simp only [Prod.mk.injEq] at hx
      obtain ⟨hd, _⟩ := hx
      rw [Try.cells127] at hall
      obtain ⟨b, off, spot⟩ := a
      have hspot : 0 < len → spot = none := fun h0 => by
        obtain ⟨cs', h1, _⟩ := hall 0 (by omega)
        obtain ⟨_, hlen, hcell⟩ := World.cells?_some h1
        match cs', hlen with
        | [v0, v1, v2], _ =>
          have := hcell 0 (by omega)
          simpa [Addr.add] using World.cell?_spot this
      have one : ∀ i, i < len → ∃ q : Ex × Value × Value × Value, spot = none ∧ b < W.heap.size ∧ W.cell? ⟨b, off + i * 3, none⟩ = some q.2.1 ∧ W.cell? ⟨b, off + i * 3 + 1, none⟩ = some q.2.2.1 ∧ W.cell? ⟨b, off + i * 3 + 2, none⟩ = some q.2.2.2 ∧ Lies W W.heap.size q.1 q.2.1 q.2.2.1 q.2.2.2 := fun i hi => by
        obtain ⟨cs', h1, h2⟩ := hall i (by omega)
        obtain ⟨_, hlen, hcell⟩ := World.cells?_some h1
        match cs', hlen with
        | [v0, v1, v2], _ =>
          obtain ⟨y0, y1, y2, k, hy, _, u0, u1, u2⟩ := trod_struct3 Try.underlying127 h2
          simp [Try.cells3] at u0 u1
          simp [Try.cells62] at u2
          obtain ⟨k0, e0, _, _⟩ := DataW.trod_int Try.underlying3 u0
          obtain ⟨k1, e1, _, _⟩ := DataW.trod_int Try.underlying3 u1
          simp only [List.cons.injEq, and_true] at e0 e1
          simp only [Prod.mk.injEq] at hy
          have hsize : SizeOf.sizeOf y2.1 ≤ N := by
            have h1 : D i ∈ (List.range len).map D := List.mem_map.2 ⟨i, List.mem_range.2 hi, rfl⟩
            have h2 := List.sizeOf_lt_of_mem h1
            rw [hd] at hN
            rw [hy.1] at h2
            simp at hN h2
            omega
          obtain ⟨kids, A, cp, b2, o2, C0, C1, C2, e2, hkl, hO⟩ := ih _ v2 y2.1 y2.2 hsize u2
          have g0 := hcell 0 (by omega)
          have g1 := hcell 1 (by omega)
          have g2 := hcell 2 (by omega)
          have hs := hspot (by omega)
          subst hs
          simp only [add_plain, Nat.add_zero] at g0 g1 g2
          refine ⟨(.node k0 k1 kids, v0, v1, v2), rfl, World.block_lt_of_cell? W _ g0, g0, g1, g2, ?_⟩
          rw [e0, e1, e2]
          exact hO.mk_ hkl
      obtain ⟨q, hq⟩ := choose_lt one
      refine ⟨(List.range len).map fun i => (q i).1, some ⟨b, off, spot⟩, m, b, off, fun i => (q i).2.1, fun i => (q i).2.2.1, fun i => (q i).2.2.2, by simpa using hc, by simp; omega, fun i x hx => ?_⟩
      have hi : i < len := by
        have := (List.getElem?_eq_some_iff.1 hx).1
        simpa using this
      obtain ⟨e0, e1, e2, e3, e4, e5⟩ := hq i hi
      have ex : (q i).1 = x := by simpa [hi] using hx
      rw [← ex, e0]
      exact ⟨rfl, e1, e2, e3, e4, e5⟩

set_option maxRecDepth 100000 in
/-- An argument of type laws.Expr, opened. -/
theorem open_expr {base : Nat} {v : Value} {d : DataW H} {p : List MemPlace} (hval : Value.okWide Try.prog W .any base 127 v) (h : DataW.Trod enc Try.prog W 0 (fun _ => true) true 127 v d p) :
    ∃ (e : Ex) (c0 c1 c2 : Value), v = .agg #[c0, c1, c2] ∧ Lies W W.heap.size e c0 c1 c2 := by
  obtain ⟨v0, v1, v2, y0, y1, y2, n, rfl, rfl, rfl, u0, u1, u2⟩ := open_agg3 Try.underlying127 (by kernel_rfl) Try.cells127 hval h
  obtain ⟨k0, e0, _, _⟩ := DataW.trod_int Try.underlying3 u0
  obtain ⟨k1, e1, _, _⟩ := DataW.trod_int Try.underlying3 u1
  simp only [List.cons.injEq, and_true] at e0 e1
  obtain ⟨kids, A, cp, b2, o2, C0, C1, C2, e2, hkl, hO⟩ := open_kids (fun _ => rfl) _ _ v2 y2.1 y2.2 (Nat.le_refl _) u2
  refine ⟨.node k0 k1 kids, _, _, _, rfl, ?_⟩
  rw [e0, e1, e2]
  exact hO.mk_ hkl

end
end Go.Proofs.Ytldnegacgjijlaa
