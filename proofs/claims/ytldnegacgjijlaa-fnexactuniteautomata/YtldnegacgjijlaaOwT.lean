/- Rows of edges that an append makes. -/
import Derived.Test.YtldnegacgjijlaaAuT
import Derived.Maps.AppendAt
import Derived.Deep.AppendSrc
import Derived.Test.YtldnegacgjijlaaCl0
namespace Go.Proofs.Ytldnegacgjijlaa
open Go.RowKit

/-- The cells of edges. -/
def cellsT (es : List Tr) : List Value := es.flatMap fun e => [Value.int .i64 e.fr, .int .i64 e.ca, .int .i64 e.va, .int .i64 e.tt]
theorem cellsT_snoc (es : List Tr) (e : Tr) : cellsT (es ++ [e]) = cellsT es ++ [Value.int .i64 e.fr, .int .i64 e.ca, .int .i64 e.va, .int .i64 e.tt] := by unfold cellsT; rw [List.flatMap_append, List.flatMap_cons, List.flatMap_nil, List.append_nil]
theorem cellsT_len (es : List Tr) : (cellsT es).length = es.length * 4 := by
  induction es with
  | nil => rfl
  | cons e r ih =>
    unfold cellsT at ih ⊢
    rw [List.flatMap_cons, List.length_append, ih, List.length_cons]
    simp only [List.length_cons, List.length_nil]
    omega
theorem cellsT_at : ∀ {es : List Tr} {i : Nat} {e : Tr}, es[i]? = some e → (cellsT es)[i * 4]? = some (.int .i64 e.fr) ∧ (cellsT es)[i * 4 + 1]? = some (.int .i64 e.ca) ∧ (cellsT es)[i * 4 + 2]? = some (.int .i64 e.va) ∧ (cellsT es)[i * 4 + 3]? = some (.int .i64 e.tt) := by
  intro es
  induction es with
  | nil => intro i e h; simp at h
  | cons f r ih =>
    intro i e h
    have hc : cellsT (f :: r) = [Value.int .i64 f.fr, .int .i64 f.ca, .int .i64 f.va, .int .i64 f.tt] ++ cellsT r := by unfold cellsT; rw [List.flatMap_cons]
    cases i with
    | zero =>
      simp only [List.getElem?_cons_zero, Option.some.injEq] at h
      subst h
      rw [hc]
      exact ⟨rfl, rfl, rfl, rfl⟩
    | succ i =>
      rw [List.getElem?_cons_succ] at h
      obtain ⟨h0, h1, h2, h3⟩ := ih h
      rw [hc]
      refine ⟨?_, ?_, ?_, ?_⟩
      · rw [List.getElem?_append_right (by simp; omega)]
        simp only [List.length_cons, List.length_nil]
        rw [show (i + 1) * 4 - (0 + 1 + 1 + 1 + 1) = i * 4 by omega]; exact h0
      · rw [List.getElem?_append_right (by simp; omega)]
        simp only [List.length_cons, List.length_nil]
        rw [show (i + 1) * 4 + 1 - (0 + 1 + 1 + 1 + 1) = i * 4 + 1 by omega]; exact h1
      · rw [List.getElem?_append_right (by simp; omega)]
        simp only [List.length_cons, List.length_nil]
        rw [show (i + 1) * 4 + 2 - (0 + 1 + 1 + 1 + 1) = i * 4 + 2 by omega]; exact h2
      · rw [List.getElem?_append_right (by simp; omega)]
        simp only [List.length_cons, List.length_nil]
        rw [show (i + 1) * 4 + 3 - (0 + 1 + 1 + 1 + 1) = i * 4 + 3 by omega]; exact h3
theorem infoT : (Try.prog.info? 116).map (fun i => (i.zero, i.size, i.bytes)) = some (some (.agg #[.int .i64 0, .int .i64 0, .int .i64 0, .int .i64 0]), 4, 32) := by kernel_rfl

/-- Edges in a row of one's own. -/
def OwnT (w : World) (base : Nat) (v : Value) (es : List Tr) : Prop := w.ownsRow base 116 4 v es.length (cellsT es)
theorem run_appendT (X : World) (ty : TypeId) (base : Nat) (v : Value) (es : List Tr) (e : Tr) (g : Nat) (hown : OwnT X base v es) (hrow : Row X g 116 #[.int .i64 e.fr, .int .i64 e.ca, .int .i64 e.va, .int .i64 e.tt]) (hb : base ≤ X.heap.size) (hl : es.length ≤ 1048576) :
    ∃ (v' : Value) (w' : World), (Builtin.append_ #[49, 49] ty #[v, .slice (some ⟨g, 0, none⟩) 1 1]).run Try.prog X = .ok v' w' ∧ OwnT w' base v' (es ++ [e]) ∧ X.grownBy w' v.ownBlock ∧ (∃ ad n c, v' = .slice ad n c) := by
  obtain ⟨i0, hi0, hz0, hz1, hz2⟩ := info_parts infoT
  obtain ⟨r0, r1, r2, r3⟩ := hrow.four
  obtain ⟨v', w', hr, h2, h3, _⟩ := run_append_own_at (P := Try.prog) X base 49 ty 116 i0 (.agg #[.int .i64 0, .int .i64 0, .int .i64 0, .int .i64 0]) 4 32 Try.underlying49 hi0 hz0 hz1 hz2 rfl (by decide) v es.length _ hown ⟨g, 0, none⟩ 1 1 [Value.int .i64 e.fr, .int .i64 e.ca, .int .i64 e.va, .int .i64 e.tt] rfl (fun j u hu => by
    match j, hu with
    | 0, hu => simp at hu; subst hu; exact r0
    | 1, hu => simp at hu; subst hu; exact r1
    | 2, hu => simp at hu; subst hu; exact r2
    | 3, hu => simp at hu; subst hu; exact r3
    | j + 4, hu => simp at hu) (by simp [Value.oneCell']) (by unfold maxLen; omega) (by omega) hb
  refine ⟨v', w', hr, ?_, h3, ?_⟩
  · unfold OwnT
    rw [List.length_append, cellsT_snoc]
    exact h2
  · rcases h2.2 with ⟨rfl, _⟩ | ⟨g', cap, cur, rfl, _⟩
    · exact ⟨_, _, _, rfl⟩
    · exact ⟨_, _, _, rfl⟩

end Go.Proofs.Ytldnegacgjijlaa
