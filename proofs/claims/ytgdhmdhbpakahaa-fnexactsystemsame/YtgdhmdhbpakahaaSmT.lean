/- The stack of pairs that are still to be compared, and the places that have been seen. Nothing is assumed. -/
import Derived.Test.YtgdhmdhbpakahaaSmP
import Derived.Test.YtgdhmdhbpakahaaSmM
import Derived.Test.YtgdhmdhbpakahaaT1F
import Derived.Maps.AppendAt
import Derived.Laws.OwnMore
namespace Go.Proofs.Ytgdhmdhbpakahaa
open Go.RowKit

/-- A pair of lists of operands: those of x and of y; what x reaches lies in an interval. -/
structure Ent where
  x : Ex
  y : Ex
  V : Value
  U : Value
  lo : Nat
  hi : Nat

/-- The operands of a node. -/
def kidsE : Ex → List Ex
  | .node _ _ ks => ks
/-- Whether the operands are equal. -/
def entOk (e : Ent) : Bool := sameL (kidsE e.x) (kidsE e.y)
/-- How many nodes are left to compare. -/
def tot : List Ent → Nat
  | [] => 0
  | e :: r => 1 + desc e.x + tot r
theorem tot_append (a b : List Ent) : tot (a ++ b) = tot a + tot b := by
  induction a with
  | nil => simp [tot]
  | cons e r ih => simp only [List.cons_append, tot, ih]; omega
theorem tot_len (l : List Ent) : l.length ≤ tot l := by
  induction l with
  | nil => simp [tot]
  | cons e r ih => simp only [List.length_cons, tot]; omega

def apartE (e f : Ent) : Prop := e.hi ≤ f.lo ∨ f.hi ≤ e.lo

/-- The pairs lie in memory. -/
structure Pend (w : World) (B : Nat) (en : List Ent) : Prop where
  a : ∀ e ∈ en, ∃ c0 c1, SepF w e.lo e.hi e.x c0 c1 e.V
  b : ∀ e ∈ en, ∃ c0 c1, Lies w B e.y c0 c1 e.U
  hi : ∀ e ∈ en, e.hi ≤ B
  apart : en.Pairwise apartE

/-- The two cells of each pair. -/
def entCells (en : List Ent) : List Value := en.flatMap fun e => [e.V, e.U]
theorem entCells_length (en : List Ent) : (entCells en).length = en.length * 2 := by
  induction en with
  | nil => rfl
  | cons e r ih => simp only [entCells, List.flatMap_cons, List.length_append, List.length_cons, List.length_nil] at ih ⊢; omega
theorem entCells_append (a b : List Ent) : entCells (a ++ b) = entCells a ++ entCells b := by simp [entCells]

/-- The stack, the map and what is kept of memory. -/
structure StE (w0 : World) (B m : Nat) (w : World) (en : List Ent) (v : Value) (es : Array MapEntry) (clock : Nat) : Prop where
  below : Below B w0 w
  own : w.ownsRow B 70 2 v en.length (entCells en)
  form : ∃ g cap, v = .slice (some ⟨g, 0, none⟩) en.length cap ∧ g ≠ m
  map : w.heap[m]? = some (.map es clock)
  bm : B ≤ m
  pend : Pend w0 B en
  seen : ∀ x ∈ es.toList, ∃ q r k, x.key = placeV q r k ∧ q < B ∧ (∃ t cs, Row w0 q t cs) ∧ ∀ e ∈ en, q < e.lo ∨ e.hi ≤ q

section
variable {w0 w w' : World} {B m : Nat} {en : List Ent} {v : Value} {es : Array MapEntry} {clock : Nat}

theorem StE.lt (h : StE w0 B m w en v es clock) : m < w.heap.size := by
  rcases Nat.lt_or_ge m w.heap.size with hlt | hge
  · exact hlt
  · have := h.map; rw [Array.getElem?_eq_none hge] at this; cases this

theorem StE.later (h : StE w0 B m w en v es clock) (hb : Below w.heap.size w w') : StE w0 B m w' en v es clock := by
  obtain ⟨g, cap, rfl, hg⟩ := h.form
  refine ⟨h.below.trans (hb.mono ?_), h.own.kept (row := none) ⟨hb.os, hb.tape, hb.output, hb.size, fun k hk _ => hb.block k hk⟩ (.inr (by simp [Value.ownBlock])), ⟨g, cap, rfl, hg⟩, (hb.block m h.lt).trans h.map, h.bm, h.pend, h.seen⟩
  have := h.lt; have := h.bm; omega

/-- The last pair. -/
theorem StE.last {rest : List Ent} {e : Ent} {g cap : Nat} (h : StE w0 B m w (rest ++ [e]) (.slice (some ⟨g, 0, none⟩) (rest ++ [e]).length cap) es clock) :
    w.cell? ⟨g, rest.length * 2, none⟩ = some e.V ∧ w.cell? ⟨g, rest.length * 2 + 1, none⟩ = some e.U ∧ g < w.heap.size := by
  have ho := h.own
  have h0 := ho.cellAt (rest.length * 2) (by rw [List.length_append]; simp only [List.length_cons, List.length_nil]; omega)
  have h1 := ho.cellAt (rest.length * 2 + 1) (by rw [List.length_append]; simp only [List.length_cons, List.length_nil]; omega)
  have hl := entCells_length rest
  rw [h0, h1, entCells_append]
  refine ⟨?_, ?_, (ho.lt g rfl).2⟩
  · rw [List.getElem?_append_right (by omega), hl]; simp [entCells]
  · rw [List.getElem?_append_right (by omega), hl]; simp [entCells]

theorem StE.pop {rest : List Ent} {e : Ent} {g cap : Nat} (h : StE w0 B m w (rest ++ [e]) (.slice (some ⟨g, 0, none⟩) (rest ++ [e]).length cap) es clock) :
    StE w0 B m w rest (.slice (some ⟨g, 0, none⟩) rest.length cap) es clock := by
  refine ⟨h.below, ?_, ?_, h.map, h.bm, ⟨fun f hf => h.pend.a f (by simp [hf]), fun f hf => h.pend.b f (by simp [hf]), fun f hf => h.pend.hi f (by simp [hf]), (List.pairwise_append.1 h.pend.apart).1⟩, fun x hx => ?_⟩
  · obtain ⟨h1, h2⟩ := h.own
    refine ⟨entCells_length rest, ?_⟩
    rcases h2 with ⟨h3, _⟩ | ⟨g', cap', cur, hv, q1, q2, q3, q4, q5, q6⟩
    · cases h3
    · injection hv with e1 e2 e3
      injection e1 with e1
      injection e1 with e1
      subst e1
      subst e3
      refine .inr ⟨g, cap, cur, rfl, q1, q2, by simp at q3; omega, q4, q5, ?_⟩
      have e1 := congrArg (List.take (rest.length * 2)) q6
      rw [List.take_take, Nat.min_eq_left (by simp; omega), entCells_append, List.take_append_of_le_length (by rw [entCells_length]; exact Nat.le_refl _), List.take_of_length_le (l := entCells rest) (by rw [entCells_length]; exact Nat.le_refl _)] at e1
      exact e1
  · obtain ⟨g', cap', hv, hg⟩ := h.form
    injection hv with e1 _ _
    injection e1 with e1
    injection e1 with e1
    subst e1
    exact ⟨g, cap, rfl, hg⟩
  · obtain ⟨q, r, k, a, b, c, d⟩ := h.seen x hx
    exact ⟨q, r, k, a, b, c, fun f hf => d f (by simp [hf])⟩

/-- A place is put into the map. -/
theorem StE.put (h : StE w0 B m w en v es clock) {q k : Nat} {r : Addr} (hq : q < B) (hr : ∃ t cs, Row w0 q t cs) (ho : ∀ e ∈ en, q < e.lo ∨ e.hi ≤ q) (u : Value) :
    StE w0 B m (putMp w m (.map (es.push ⟨placeV q r k, u, clock⟩) (clock + 1))) en v (es.push ⟨placeV q r k, u, clock⟩) (clock + 1) := by
  obtain ⟨g, cap, rfl, hg⟩ := h.form
  have hlt := h.lt
  have hk : ∀ j, j ≠ m → (putMp w m (.map (es.push ⟨placeV q r k, u, clock⟩) (clock + 1))).heap[j]? = w.heap[j]? := fun j hj => by
    simp only [putMp, Array.getElem?_setIfInBounds, if_neg (fun e : m = j => hj e.symm)]
  refine ⟨⟨h.below.os, h.below.tape, h.below.output, by simp [putMp]; exact h.below.size, fun j hj => (hk j (by have := h.bm; omega)).trans (h.below.block j hj)⟩, ?_, ⟨g, cap, rfl, hg⟩, by simp [putMp, hlt], h.bm, h.pend, fun x hx => ?_⟩
  · obtain ⟨h1, h2⟩ := h.own
    refine ⟨h1, ?_⟩
    rcases h2 with ⟨h3, _⟩ | ⟨g', cap', cur, hv, q1, q2, q3⟩
    · cases h3
    · refine .inr ⟨g', cap', cur, hv, q1, ?_, q3⟩
      injection hv with e1 _ _
      injection e1 with e1
      injection e1 with e1
      subst e1
      rw [hk g hg]; exact q2
  · simp only [Array.toList_push, List.mem_append, List.mem_singleton] at hx
    rcases hx with hx | rfl
    · exact h.seen x hx
    · exact ⟨q, r, k, rfl, hq, hr, ho⟩

theorem Try.info70 : (Try.prog.info? 70).map (fun i => (i.zero, i.size, i.bytes)) = some (some (.agg #[.slice none 0 0, .slice none 0 0]), 2, 48) := by kernel_rfl

/-- A pair is pushed: its two cells lie in a row of their own. -/
theorem StE.push {g L cap : Nat} (h : StE w0 B m w en (.slice (some ⟨g, 0, none⟩) L cap) es clock) (hL : L = en.length) (e : Ent) (a : Nat) (ha : w.heap.size = a) (he : en.length ≤ 1048580) (hone : e.V.oneCell' = true ∧ e.U.oneCell' = true)
    (hp : Pend w0 B (en ++ [e])) (hs : ∀ x ∈ es.toList, ∀ q r k, x.key = placeV q r k → q < e.lo ∨ e.hi ≤ q) (c : Nat) :
    ∃ g' cap' w', (Builtin.append_ #[71, 71] 71 #[.slice (some ⟨g, 0, none⟩) L cap, .slice (some ⟨a, 0, none⟩) 1 c]).run Try.prog (w.alloc (.cells #[e.V, e.U] 70)) = .ok (.slice (some ⟨g', 0, none⟩) (L + 1) cap') w' ∧
      StE w0 B m w' (en ++ [e]) (.slice (some ⟨g', 0, none⟩) (L + 1) cap') es clock ∧ (g' = g ∨ w.heap.size < g') ∧ (∀ q, q < w.heap.size → q ≠ g → w'.heap[q]? = w.heap[q]?) ∧ w.heap.size < w'.heap.size := by
  subst ha
  subst hL
  have hg : g ≠ m := by
    obtain ⟨g0, cap0, hv, hg⟩ := h.form
    injection hv with e1 _ _
    injection e1 with e1
    injection e1 with e1
    subst e1
    exact hg
  obtain ⟨i0, hi0, hz0, hz1, hz2⟩ : ∃ i, Try.prog.info? 70 = some i ∧ i.zero = some (.agg #[.slice none 0 0, .slice none 0 0]) ∧ i.size = 2 ∧ i.bytes = 48 := by
    have := Try.info70
    cases hh : Try.prog.info? 70 with
    | none => rw [hh] at this; cases this
    | some i =>
      rw [hh] at this
      simp only [Option.map_some, Option.some.injEq, Prod.mk.injEq] at this
      exact ⟨i, rfl, this⟩
  have hb1 : Below w.heap.size w (w.alloc (.cells #[e.V, e.U] 70)) := (Below.refl _ _).alloc (Nat.le_refl _) _
  have hr1 : Row (w.alloc (.cells #[e.V, e.U] 70)) w.heap.size 70 #[e.V, e.U] := Row.new _ _ _
  have h1 := h.later hb1
  have hsz : (w.alloc (.cells #[e.V, e.U] 70)).heap.size = w.heap.size + 1 := by simp
  have hadd : ∀ j, (⟨w.heap.size, 0, none⟩ : Addr).add j = ⟨w.heap.size, j, none⟩ := fun j => by unfold Addr.add; split <;> simp_all
  obtain ⟨v', w', hr, ho, hgr, _, hblk⟩ := run_append_own_at (P := Try.prog) (w.alloc (.cells #[e.V, e.U] 70)) B 71 71 70 i0 (.agg #[.slice none 0 0, .slice none 0 0]) 2 48 Try.underlying71 hi0 hz0 hz1 hz2 rfl (by decide) (.slice (some ⟨g, 0, none⟩) en.length cap) en.length (entCells en) h1.own
    ⟨w.heap.size, 0, none⟩ 1 c [e.V, e.U] rfl (fun j u hu => by
      rw [hadd, hr1.cell]
      match j, hu with
      | 0, hu => simpa using hu
      | 1, hu => simpa using hu
      | j + 2, hu => simp at hu) (fun u hu => by
      simp only [List.mem_cons, List.not_mem_nil, or_false] at hu
      rcases hu with rfl | rfl
      · exact hone.1
      · exact hone.2) (by unfold maxLen; omega) (by omega) (by rw [hsz]; have := h.below.size; have := h.lt; have := h.bm; omega)
  have hgB := (h.own.lt g rfl).1
  have hgl := (h.own.lt g rfl).2
  have hml := h.lt
  have hbB := h.bm
  have hrow : ∃ g' cap', v' = .slice (some ⟨g', 0, none⟩) (en.length + 1) cap' ∧ g' ≠ m ∧ (g' = g ∨ w.heap.size < g') := by
    rcases ho.2 with ⟨_, h0⟩ | ⟨g', cap', cur, hv, q1, q2, q3⟩
    · omega
    · refine ⟨g', cap', hv, ?_⟩
      rcases hblk with hh | hh
      · rw [hv] at hh
        simp only [Value.ownBlock, Option.some.injEq] at hh
        subst hh
        exact ⟨hg, .inl rfl⟩
      · rw [hv] at hh
        simp only [Value.ownBlock, Option.some.injEq, hsz] at hh
        exact ⟨by omega, .inr (by omega)⟩
  obtain ⟨g', cap', rfl, hg', hnew⟩ := hrow
  have hkeep : ∀ q, q < w.heap.size → q ≠ g → w'.heap[q]? = w.heap[q]? := fun q hq hne => (hgr.block q (by omega) (by simp only [Value.ownBlock]; intro e2; injection e2 with e2; exact hne e2)).trans (hb1.block q hq)
  have hsz' := hgr.size
  refine ⟨_, _, _, hr, ⟨(h.below.trans (hb1.mono (by omega))).grown hgr (by omega) (fun q hq => by
      simp only [Value.ownBlock, Option.some.injEq] at hq
      omega), ?_, ⟨g', cap', by rw [List.length_append]; rfl, hg'⟩, (hkeep m hml (fun e2 => hg e2.symm)).trans h.map, h.bm, hp, fun x hx => ?_⟩, hnew, fun q hq hn => hkeep q hq hn, by omega⟩
  · rw [List.length_append, entCells_append]
    exact ho
  · obtain ⟨q, r, k, a, b, c, d⟩ := h.seen x hx
    refine ⟨q, r, k, a, b, c, fun f hf => ?_⟩
    simp only [List.mem_append, List.mem_singleton] at hf
    rcases hf with hf | rfl
    · exact d f hf
    · exact hs x hx q r k a
end

end Go.Proofs.Ytgdhmdhbpakahaa
