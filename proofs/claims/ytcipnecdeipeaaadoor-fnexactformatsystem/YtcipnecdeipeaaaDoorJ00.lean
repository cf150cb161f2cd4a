/- Joined texts: Open, OpenZ. Nothing is assumed. -/
import Derived.Test.YtcipnecdeipeaaaDoorOwn
import Derived.Test.YtcipnecdeipeaaaDoorOpenY
import Derived.ProofKit
import Derived.Deep.Slices
import Derived.Lib.SmallJoins
namespace Go.Proofs.YtcipnecdeipeaaaDoor
open Go.ChangeShapes Go.WideShapes Go.ChangeAt Go.RowKit Go.Deep Go.Joins

theorem Tryd.cells75 : Tryd.prog.cellsOf 75 = 3 := by kernel_rfl
theorem Tryd.cells73 : Tryd.prog.cellsOf 73 = 1 := by kernel_rfl

section
variable {H : Type} {enc : TypeId × Value → H} {W : World} {sp : Nat → Bool}

/-- The operands' slice, opened. -/
theorem open_kids (hsp : ∀ b, sp b = true) : ∀ (N n : Nat) (c : Value) (d : DataW H) (p : List MemPlace), SizeOf.sizeOf d ≤ N → DataW.trod enc Tryd.prog W 0 sp true n 73 [c] = some (d, p) →
    ∃ (kids : List Ex) (A : Option Addr) (cap b off : Nat) (C0 C1 C2 : Nat → Value), c = .slice A kids.length cap ∧ kids.length ≤ maxLen ∧ Opened W W.heap.size kids A b off C0 C1 C2 := by
  intro N
  induction N with
  | zero => intro n c d p hN; exfalso; cases d <;> simp at hN
  | succ N ih =>
    intro n c d p hN h
    rcases open_slice Tryd.underlying73 h with ⟨hc, hx⟩ | ⟨a, len, cap, m, n', D, Pl, hc, _, hl, hm, hmm, hx, hall⟩
    · simp only [List.cons.injEq, and_true] at hc
      exact ⟨[], none, 0, 0, 0, fun _ => undef, fun _ => undef, fun _ => undef, hc, Nat.zero_le _, fun i x hx => by simp at hx⟩
    · simp only [List.cons.injEq, and_true] at hc
      simp only [hsp, if_true] at hmm
      subst hmm
      simp only [Prod.mk.injEq] at hx
      obtain ⟨hd, _⟩ := hx
      rw [Tryd.cells75] at hall
      obtain ⟨b, off, spot⟩ := a
      have hspot : 0 < len → spot = none := fun h0 => by
        obtain ⟨cs', h1, _⟩ := hall 0 (by omega)
        obtain ⟨_, hlen, hcell⟩ := World.cells?_some h1
        match cs', hlen with
        | [v0, v1, v2], _ =>
          have := hcell 0 (by omega)
          simpa [Addr.add] using World.cell?_spot this
      have one : ∀ i, i < len → ∃ q : Ex × Value × Value × Value, spot = none ∧ b < W.heap.size ∧ W.cell? ⟨b, off + i * 3, none⟩ = some q.2.1 ∧ W.cell? ⟨b, off + i * 3 + 1, none⟩ = some q.2.2.1 ∧ W.cell? ⟨b, off + i * 3 + 2, none⟩ = some q.2.2.2 ∧ Lies W W.heap.size q.1 q.2.1 q.2.2.1 q.2.2.2 := fun i hi => by
        obtain ⟨cs', h1, h2⟩ := hall i (by omega)
        obtain ⟨_, hlen, hcell⟩ := World.cells?_some h1
        match cs', hlen with
        | [v0, v1, v2], _ =>
          obtain ⟨y0, y1, y2, k, hy, _, u0, u1, u2⟩ := trod_struct3 Tryd.underlying75 h2
          simp [Tryd.cells3] at u0 u1
          simp [Tryd.cells73] at u2
          obtain ⟨k0, e0, _, _⟩ := DataW.trod_int Tryd.underlying3 u0
          obtain ⟨k1, e1, _, _⟩ := DataW.trod_int Tryd.underlying3 u1
          simp only [List.cons.injEq, and_true] at e0 e1
          simp only [Prod.mk.injEq] at hy
          have hsize : SizeOf.sizeOf y2.1 ≤ N := by
            have h1 : D i ∈ (List.range len).map D := List.mem_map.2 ⟨i, List.mem_range.2 hi, rfl⟩
            have h2 := List.sizeOf_lt_of_mem h1
            rw [hd] at hN
            rw [hy.1] at h2
            simp at hN h2
            omega
          obtain ⟨kids, A, cp, b2, o2, C0, C1, C2, e2, hkl, hO⟩ := ih _ v2 y2.1 y2.2 hsize u2
          have g0 := hcell 0 (by omega)
          have g1 := hcell 1 (by omega)
          have g2 := hcell 2 (by omega)
          have hs := hspot (by omega)
          subst hs
          simp only [add_plain, Nat.add_zero] at g0 g1 g2
          refine ⟨(.node k0 k1 kids, v0, v1, v2), rfl, World.block_lt_of_cell? W _ g0, g0, g1, g2, ?_⟩
          rw [e0, e1, e2]
          exact hO.mk_ hkl
      obtain ⟨q, hq⟩ := choose_lt one
      refine ⟨(List.range len).map fun i => (q i).1, some ⟨b, off, spot⟩, m, b, off, fun i => (q i).2.1, fun i => (q i).2.2.1, fun i => (q i).2.2.2, by simpa using hc, by simp; omega, fun i x hx => ?_⟩
      have hi : i < len := by
        have := (List.getElem?_eq_some_iff.1 hx).1
        simpa using this
      obtain ⟨e0, e1, e2, e3, e4, e5⟩ := hq i hi
      have ex : (q i).1 = x := by simpa [hi] using hx
      rw [← ex, e0]
      exact ⟨rfl, e1, e2, e3, e4, e5⟩

set_option maxRecDepth 100000 in
/-- An argument of type laws.Expr, opened. -/
theorem open_expr {base : Nat} {v : Value} {d : DataW H} {p : List MemPlace} (hval : Value.okWide Tryd.prog W .any base 75 v) (h : DataW.Trod enc Tryd.prog W 0 (fun _ => true) true 75 v d p) :
    ∃ (e : Ex) (c0 c1 c2 : Value), v = .agg #[c0, c1, c2] ∧ Lies W W.heap.size e c0 c1 c2 := by
  obtain ⟨v0, v1, v2, y0, y1, y2, n, rfl, rfl, rfl, u0, u1, u2⟩ := open_agg3 Tryd.underlying75 (by kernel_rfl) Tryd.cells75 hval h
  obtain ⟨k0, e0, _, _⟩ := DataW.trod_int Tryd.underlying3 u0
  obtain ⟨k1, e1, _, _⟩ := DataW.trod_int Tryd.underlying3 u1
  simp only [List.cons.injEq, and_true] at e0 e1
  obtain ⟨kids, A, cp, b2, o2, C0, C1, C2, e2, hkl, hO⟩ := open_kids (fun _ => rfl) _ _ v2 y2.1 y2.2 (Nat.le_refl _) u2
  refine ⟨.node k0 k1 kids, _, _, _, rfl, ?_⟩
  rw [e0, e1, e2]
  exact hO.mk_ hkl

end
end Go.Proofs.YtcipnecdeipeaaaDoor
namespace Go.Proofs.YtcipnecdeipeaaaDoor
open Go.ChangeShapes Go.WideShapes Go.ChangeAt Go.RowKit Go.Deep Go.Joins

theorem Tryd.cells22 : Tryd.prog.cellsOf 22 = 1 := by kernel_rfl

end Go.Proofs.YtcipnecdeipeaaaDoor
