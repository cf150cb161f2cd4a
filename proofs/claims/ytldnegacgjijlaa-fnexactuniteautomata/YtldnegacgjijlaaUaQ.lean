/- What the union of two automata leaves. -/
import Derived.Test.YtldnegacgjijlaaUaO
namespace Go.Proofs.Ytldnegacgjijlaa
open Go.RowKit

/-- What the union of two automata leaves: rows of one's own. -/
def UaPost (a b : Au) (w : World) (e' : Ending) (w' : World) : Prop :=
  ∃ v0 v1 v2 : Value, e' = .returned (.tuple #[.agg #[v0, v1, v2], .bool (uaOk a b)]) ∧ AuR w' w.heap.size w'.heap.size (uaOut a b).ini (uaOut a b).acc (uaOut a b).es v0 v1 v2 ∧ Below w.heap.size w w'
theorem au_lit {w : World} {B : Nat} {e : Au} {C : Nat → Value} {v0 v1 v2 : Value} (h0 : C 0 = v0) (h1 : C 1 = v1) (h2 : C 2 = v2) (h : Lay.au.lies w B e C) : Lay.au.lies w B e (fun j => (#[v0, v1, v2] : Array Value).getD j undef) :=
  Lay.au.lies_ext (fun j hj => by
    have hj3 : j < 3 := hj
    rcases (by omega : j = 0 ∨ j = 1 ∨ j = 2) with rfl | rfl | rfl
    · exact h0.symm
    · exact h1.symm
    · exact h2.symm) h
theorem nil_sepB (w : World) (lo : Nat) : (Lay.bo.slice 4).sep w lo lo [] (fun _ => .slice none 0 0) := Lb.sep_nil w lo lo (Nat.le_refl _) none 0
theorem AuR.nil_ (w : World) (lo hi : Nat) (h : lo ≤ hi) : AuR w lo hi [] [] [] (.slice none 0 0) (.slice none 0 0) (.slice none 0 0) :=
  ⟨lo, lo, lo, lo, lo, lo, ⟨Nat.le_refl _, h, Nat.le_refl _, h, Nat.le_refl _, h, .inl (Nat.le_refl _), .inl (Nat.le_refl _), .inl (Nat.le_refl _)⟩, La.sep_nil w lo lo (Nat.le_refl _) none 0, nil_sepB w lo, none, 0, rfl, .inl rfl⟩
theorem AuR.more {w : World} {lo hi lo' hi' : Nat} {ini : List Int} {acc : List Bool} {es : List Tr} {v0 v1 v2 : Value} (h : AuR w lo hi ini acc es v0 v1 v2) (h1 : lo' ≤ lo) (h2 : hi ≤ hi') : AuR w lo' hi' ini acc es v0 v1 v2 := by
  obtain ⟨m0, m1, n0, n1, e0, e1, ha, q⟩ := h
  exact ⟨m0, m1, n0, n1, e0, e1, ⟨Nat.le_trans h1 ha.l0, Nat.le_trans ha.l1 h2, Nat.le_trans h1 ha.l2, Nat.le_trans ha.l3 h2, Nat.le_trans h1 ha.l4, Nat.le_trans ha.l5 h2, ha.mn, ha.me, ha.ne⟩, q⟩
theorem ua_rg {a b : Au} (ha : ∀ e ∈ a.es, TrR e) (hb : ∀ e ∈ b.es, TrR e) (hn : a.acc.length ≤ 64) (hq : ∀ e ∈ b.es, 0 ≤ e.fr ∧ e.fr ≤ 64 ∧ 0 ≤ e.tt ∧ e.tt ≤ 64) : ∀ e ∈ (joinA a b).es, TrR e := by
  intro e he
  rcases List.mem_append.1 he with h1 | h1
  · exact ha e h1
  · obtain ⟨x, hx, rfl⟩ := List.mem_map.1 h1
    obtain ⟨r0, r1, r2, r3⟩ := hb x hx
    obtain ⟨q0, q1, q2, q3⟩ := hq x hx
    refine ⟨?_, r1, r2, ?_⟩
    · show _ ≤ x.fr + (a.acc.length : Int) ∧ x.fr + (a.acc.length : Int) ≤ _; omega
    · show _ ≤ x.tt + (a.acc.length : Int) ∧ x.tt + (a.acc.length : Int) ≤ _; omega

end Go.Proofs.Ytldnegacgjijlaa
