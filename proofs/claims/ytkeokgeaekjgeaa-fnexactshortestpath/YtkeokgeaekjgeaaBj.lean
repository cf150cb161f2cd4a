/- A queue of numbers that is taken from the front: a row, an offset. Nothing is assumed. -/
import Derived.Test.YtkeokgeaekjgeaaBi
import Derived.Test.YtkeokgeaekjgeaaBh
import Derived.ArgAppend
import Derived.Deep.LoopGhost
namespace Go.Proofs.Ytkeokgeaekjgeaa
open Go.RowKit

/-- The slice at the offset holds the numbers, in a row of one's own. -/
structure Que (w : World) (base g off cap : Nat) (l : List Int) : Prop where
  row : ∃ cs : Array Value, Row w g 3 cs ∧ off + cap ≤ cs.size ∧ ∀ (i : Nat) (z : Int), l[i]? = some z → cs[off + i]? = some (.int .i64 z)
  len : l.length ≤ cap
  cap_le : cap ≤ maxLen
  own : base ≤ g
theorem Que.lt {w : World} {base g off cap : Nat} {l : List Int} (h : Que w base g off cap l) : g < w.heap.size := by
  obtain ⟨cs, hr, _⟩ := h.row
  exact hr.lt
theorem Que.cell {w : World} {base g off cap : Nat} {l : List Int} (h : Que w base g off cap l) {i : Nat} {z : Int} (hz : l[i]? = some z) : w.cell? ⟨g, off + i, none⟩ = some (.int .i64 z) := by
  obtain ⟨cs, hr, _, hk⟩ := h.row
  rw [hr.cell]; exact hk i z hz
theorem Que.same {w w1 : World} {base g off cap : Nat} {l : List Int} (h : Que w base g off cap l) (hb : w1.heap[g]? = w.heap[g]?) : Que w1 base g off cap l := by
  obtain ⟨cs, hr, h1, h2⟩ := h.row
  exact ⟨⟨cs, hb.trans hr, h1, h2⟩, h.len, h.cap_le, h.own⟩
/-- What is left when one is taken from the front. -/
theorem Que.tail {w : World} {base g off cap : Nat} {z : Int} {l : List Int} (h : Que w base g off cap (z :: l)) : Que w base g (off + 1) (cap - 1) l := by
  obtain ⟨cs, hr, h1, h2⟩ := h.row
  have hl := h.len
  rw [List.length_cons] at hl
  have hm := h.cap_le
  exact ⟨⟨cs, hr, by omega, fun i y hy => by rw [show off + 1 + i = off + (i + 1) by omega]; exact h2 (i + 1) y (by rw [List.getElem?_cons_succ]; exact hy)⟩, by omega, by omega, h.own⟩
theorem Que.rest {w : World} {base g off cap : Nat} {z : Int} (h : Que w base g off cap [z]) : Que w base g off (cap - 1) [] := by
  obtain ⟨cs, hr, h1, h2⟩ := h.row
  have hm := h.cap_le
  exact ⟨⟨cs, hr, by omega, fun i y hy => by cases hy⟩, Nat.zero_le _, by omega, h.own⟩

theorem wpList_append_que {w : World} {ops : Array Oper} {rest : List Oper} {o : Oper} {a : Act} {Q : Exit → Act → World → Prop} (hgd : o.guard = none) (s x : Operand)
    (ho : o.op = .call { callee := .builtin .append, args := #[s, x], argTypes := #[27, 27] })
    (i : TypeInfo) (hi : Try.prog.info? 3 = some i) (hz0 : i.zero = some (.int .i64 0)) (hz1 : i.size = 1) (hz2 : i.bytes = 8)
    (base g off n cap : Nat) (l : List Int) (hn : l.length = n) (hs : a.eval s = .slice (some ⟨g, off, none⟩) n cap) (hq : Que w base g off cap l)
    (gx c : Nat) (z : Int) (hx : a.eval x = .slice (some ⟨gx, 0, none⟩) 1 c) (hz : w.cell? ⟨gx, 0, none⟩ = some (.int .i64 z)) (h63 : n + 1 ≤ 1000000) (hb : base ≤ w.heap.size)
    (h : ∀ g1 off1 cap1 w1, Que w1 base g1 off1 cap1 (l ++ [z]) → w.grownBy w1 (some g) → (g1 = g ∨ w.heap.size ≤ g1) → wpList Try.prog ops Q rest (a.put o.dst (.slice (some ⟨g1, off1, none⟩) (n + 1) cap1)) w1) :
    wpList Try.prog ops Q (o :: rest) a w := by
  subst hn
  obtain ⟨cs, hr, h1, h2⟩ := hq.row
  have hlen := hq.len
  have hcm := hq.cap_le
  refine wpList_append_arg w hgd s x 27 ho 3 i (.int .i64 0) 1 8 Try.underlying27 hi hz0 hz1 hz2 rfl (by decide) g off l.length cap (l.map (Value.int .i64)) hs (by rw [List.length_map, Nat.mul_one]) (fun j u hu => ?_) ⟨gx, 0, none⟩ 1 c [.int .i64 z] hx rfl (fun j u hu => ?_) (by simp [Value.oneCell']) (fun hle j hj => ?_) (by unfold maxLen; omega) (by omega) (fun hle => ?_) (fun hlt v' w1 ho1 hg1 => ?_)
  · rw [List.getElem?_map] at hu
    cases hy : l[j]? with
    | none => rw [hy] at hu; cases hu
    | some y =>
      rw [hy] at hu
      rw [hr.cell, h2 j y hy]; exact hu
  · cases j with
    | zero => rw [Addr.add_lit, Nat.zero_add, hz]; exact hu
    | succ j => simp at hu
  · rw [List.length_singleton] at hj
    obtain rfl : j = 0 := by omega
    refine ⟨?_, hr.frozen _⟩
    rw [hr.cell, Array.getElem?_eq_getElem (by omega)]
    rfl
  · have hw : w.setCells g (off + l.length * 1) [.int .i64 z] = w.setCell ⟨g, off + l.length, none⟩ (.int .i64 z) := by rw [Nat.mul_one]; rfl
    rw [hw]
    refine h g off cap _ ⟨⟨cs.setIfInBounds (off + l.length) (.int .i64 z), hr.set_ _ _, by simpa using h1, fun j y hy => ?_⟩, by simp; omega, hcm, hq.own⟩ ⟨rfl, rfl, rfl, by simp, fun k hk hne => ?_⟩ (.inl rfl)
    · rw [Array.getElem?_setIfInBounds]
      by_cases hj : j < l.length
      · rw [List.getElem?_append_left hj] at hy
        rw [if_neg (by omega)]; exact h2 j y hy
      · have hj2 := (List.getElem?_eq_some_iff.1 hy).1
        rw [List.length_append, List.length_singleton] at hj2
        obtain rfl : j = l.length := by omega
        rw [List.getElem?_concat_length] at hy
        rw [if_pos rfl, if_pos (by omega)]
        injection hy with hy
        rw [hy]
    · exact Below.heap_setCell _ _ _ _ (fun e => hne (by rw [e]))
  · rcases ho1.2 with ⟨_, h0⟩ | ⟨g1, cap1, cur, rfl, hb1, hh, hnc, hcm1, hcs, ht⟩
    · omega
    · refine h g1 0 cap1 w1 ⟨⟨cur, hh, by omega, fun j y hy => ?_⟩, by simp; omega, hcm1, by omega⟩ ⟨hg1.os, hg1.tape, hg1.output, hg1.size, fun k hk _ => hg1.block k hk (by simp)⟩ (.inr hb1)
      have hy2 : (l.map (Value.int .i64) ++ [.int .i64 z])[j]? = some (.int .i64 y) := by
        have := congrArg (Option.map (Value.int .i64)) hy
        rw [← List.getElem?_map, List.map_append] at this
        exact this
      rw [← ht, List.getElem?_take] at hy2
      rw [Nat.zero_add]
      split at hy2
      · simpa using hy2
      · cases hy2

end Go.Proofs.Ytkeokgeaekjgeaa
