/- The walk of impl.ParseAutomaton. -/
import Derived.Test.YtiikphdgnhajeaaDoorTsW
import Derived.Test.YtiikphdgnhajeaaDoorAvW
import Derived.Maps.AppendAt
import Derived.Deep.LoopGhost
import Derived.Deep.RegionHeld3
import Derived.Test.YtiikphdgnhajeaaDoorCl0
namespace Go.Proofs.YtiikphdgnhajeaaDoor
open Go.RowKit

/-- The cells of edges. -/
def cellsT (es : List Tr) : List Value := es.flatMap fun e => [Value.int .i64 e.fr, .int .i64 e.ca, .int .i64 e.va, .int .i64 e.tt]
theorem cellsT_snoc (es : List Tr) (e : Tr) : cellsT (es ++ [e]) = cellsT es ++ [Value.int .i64 e.fr, .int .i64 e.ca, .int .i64 e.va, .int .i64 e.tt] := by unfold cellsT; rw [List.flatMap_append, List.flatMap_cons, List.flatMap_nil, List.append_nil]
theorem cellsT_len (es : List Tr) : (cellsT es).length = es.length * 4 := by
  induction es with
  | nil => rfl
  | cons e r ih =>
    unfold cellsT at ih ⊢
    rw [List.flatMap_cons, List.length_append, ih, List.length_cons]
    simp only [List.length_cons, List.length_nil]
    omega
theorem cellsT_at : ∀ {es : List Tr} {i : Nat} {e : Tr}, es[i]? = some e → (cellsT es)[i * 4]? = some (.int .i64 e.fr) ∧ (cellsT es)[i * 4 + 1]? = some (.int .i64 e.ca) ∧ (cellsT es)[i * 4 + 2]? = some (.int .i64 e.va) ∧ (cellsT es)[i * 4 + 3]? = some (.int .i64 e.tt) := by
  intro es
  induction es with
  | nil => intro i e h; simp at h
  | cons f r ih =>
    intro i e h
    have hc : cellsT (f :: r) = [Value.int .i64 f.fr, .int .i64 f.ca, .int .i64 f.va, .int .i64 f.tt] ++ cellsT r := by unfold cellsT; rw [List.flatMap_cons]
    cases i with
    | zero =>
      simp only [List.getElem?_cons_zero, Option.some.injEq] at h
      subst h
      rw [hc]
      exact ⟨rfl, rfl, rfl, rfl⟩
    | succ i =>
      rw [List.getElem?_cons_succ] at h
      obtain ⟨h0, h1, h2, h3⟩ := ih h
      rw [hc]
      refine ⟨?_, ?_, ?_, ?_⟩
      · rw [List.getElem?_append_right (by simp; omega)]
        simp only [List.length_cons, List.length_nil]
        rw [show (i + 1) * 4 - (0 + 1 + 1 + 1 + 1) = i * 4 by omega]; exact h0
      · rw [List.getElem?_append_right (by simp; omega)]
        simp only [List.length_cons, List.length_nil]
        rw [show (i + 1) * 4 + 1 - (0 + 1 + 1 + 1 + 1) = i * 4 + 1 by omega]; exact h1
      · rw [List.getElem?_append_right (by simp; omega)]
        simp only [List.length_cons, List.length_nil]
        rw [show (i + 1) * 4 + 2 - (0 + 1 + 1 + 1 + 1) = i * 4 + 2 by omega]; exact h2
      · rw [List.getElem?_append_right (by simp; omega)]
        simp only [List.length_cons, List.length_nil]
        rw [show (i + 1) * 4 + 3 - (0 + 1 + 1 + 1 + 1) = i * 4 + 3 by omega]; exact h3
theorem infoT : (Tryd.prog.info? 45).map (fun i => (i.zero, i.size, i.bytes)) = some (some (.agg #[.int .i64 0, .int .i64 0, .int .i64 0, .int .i64 0]), 4, 32) := by kernel_rfl

/-- What is left when the text has been read: a valid automaton in rows of one's own, or nothing. -/
def OwnT (w : World) (base : Nat) (v : Value) (es : List Tr) : Prop := w.ownsRow base 45 4 v es.length (cellsT es)
def PaPost (t : ByteArray) (w : World) (e' : Ending) (w' : World) : Prop :=
  ((∃ (a : Au) (gi ga : Nat) (v : Value), auOk a = true ∧ TrsR a.es ∧ auB a = t ∧ e' = .returned (.tuple #[.agg #[.slice (some ⟨gi, 0, none⟩) a.ini.length a.ini.length, .slice (some ⟨ga, 0, none⟩) a.acc.length a.acc.length, v], .bool true]) ∧ LaidI w' gi a.ini a.ini.length ∧ RowB w' ga a.acc ∧ OwnT w' w.heap.size v a.es ∧ w.heap.size ≤ gi ∧ w.heap.size ≤ ga) ∨
    (NoAu t ∧ e' = .returned (.tuple #[.agg #[.slice none 0 0, .slice none 0 0, .slice none 0 0], .bool false]))) ∧ Below w.heap.size w w'

theorem run_appendT (X : World) (ty : TypeId) (base : Nat) (v : Value) (es : List Tr) (e : Tr) (g : Nat) (hown : OwnT X base v es) (hrow : Row X g 45 #[.int .i64 e.fr, .int .i64 e.ca, .int .i64 e.va, .int .i64 e.tt]) (hb : base ≤ X.heap.size) (hl : es.length ≤ 1048576) :
    ∃ (v' : Value) (w' : World), (Builtin.append_ #[29, 29] ty #[v, .slice (some ⟨g, 0, none⟩) 1 1]).run Tryd.prog X = .ok v' w' ∧ OwnT w' base v' (es ++ [e]) ∧ X.grownBy w' v.ownBlock ∧ (∃ ad n c, v' = .slice ad n c) := by
  obtain ⟨i0, hi0, hz0, hz1, hz2⟩ := info_parts infoT
  obtain ⟨r0, r1, r2, r3⟩ := hrow.four
  obtain ⟨v', w', hr, h2, h3, _⟩ := run_append_own_at (P := Tryd.prog) X base 29 ty 45 i0 (.agg #[.int .i64 0, .int .i64 0, .int .i64 0, .int .i64 0]) 4 32 Tryd.underlying29 hi0 hz0 hz1 hz2 rfl (by decide) v es.length _ hown ⟨g, 0, none⟩ 1 1 [Value.int .i64 e.fr, .int .i64 e.ca, .int .i64 e.va, .int .i64 e.tt] rfl (fun j u hu => by
    match j, hu with
    | 0, hu => simp at hu; subst hu; exact r0
    | 1, hu => simp at hu; subst hu; exact r1
    | 2, hu => simp at hu; subst hu; exact r2
    | 3, hu => simp at hu; subst hu; exact r3
    | j + 4, hu => simp at hu) (by simp [Value.oneCell']) (by unfold maxLen; omega) (by omega) hb
  refine ⟨v', w', hr, ?_, h3, ?_⟩
  · unfold OwnT
    rw [List.length_append, cellsT_snoc]
    exact h2
  · rcases h2.2 with ⟨rfl, _⟩ | ⟨g', cap, cur, rfl, _⟩
    · exact ⟨_, _, _, rfl⟩
    · exact ⟨_, _, _, rfl⟩

end Go.Proofs.YtiikphdgnhajeaaDoor
