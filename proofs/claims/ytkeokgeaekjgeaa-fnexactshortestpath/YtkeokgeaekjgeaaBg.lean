/- The walk of spec.l4Search. -/
import Derived.Test.YtkeokgeaekjgeaaBf
import Derived.Test.YtkeokgeaekjgeaaGr
import Derived.OwnWalk
import Derived.Maps.AppendAt
namespace Go.Proofs.Ytkeokgeaekjgeaa
open Go.RowKit

theorem Try.info4 : (Try.prog.info? 4).map (fun i => (i.zero, i.size, i.bytes)) = some (some (.bool false), 1, 1) := by kernel_rfl

theorem irow_of_owns {w : World} {base : Nat} {g n cap : Nat} {xs : List Value} (h : w.ownsRow base 3 1 (.slice (some ⟨g, 0, none⟩) n cap) n xs) : ∃ cs : Array Value, base ≤ g ∧ Row w g 3 cs ∧ ∀ (i : Nat) (u : Value), xs[i]? = some u → cs[i]? = some u := by
  rcases h.2 with ⟨h1, _⟩ | ⟨g', cap', cur, hv, hb, hh, _, _, _, ht⟩
  · cases h1
  · injection hv with e1 e2 e3
    injection e1 with e1
    injection e1 with e1
    subst e1
    refine ⟨cur, hb, hh, fun i u hu => ?_⟩
    rw [← ht, List.getElem?_take] at hu
    split at hu
    · simpa using hu
    · cases hu
theorem owns_same {w w1 : World} {base g n cap : Nat} {xs : List Value} (h : w.ownsRow base 3 1 (.slice (some ⟨g, 0, none⟩) n cap) n xs) (hb : w1.heap[g]? = w.heap[g]?) : w1.ownsRow base 3 1 (.slice (some ⟨g, 0, none⟩) n cap) n xs := by
  refine ⟨h.1, ?_⟩
  rcases h.2 with ⟨h1, _⟩ | ⟨g', cap', cur, hv, hb', hh, hr⟩
  · cases h1
  · refine .inr ⟨g', cap', cur, hv, hb', ?_, hr⟩
    injection hv with e1 e2 e3
    injection e1 with e1
    injection e1 with e1
    subst e1
    exact hb.trans hh

/-- A row of numbers of one's own. -/
def IRow (w : World) (g : Nat) (zs : List Int) : Prop := ∃ cs : Array Value, Row w g 3 cs ∧ ∀ (i : Nat) (z : Int), zs[i]? = some z → cs[i]? = some (.int .i64 z)
theorem IRow.ints {w : World} {g : Nat} {zs : List Int} (h : IRow w g zs) : Ints w w.heap.size (some ⟨g, 0, none⟩) g 0 zs := fun i z hz => by
  obtain ⟨cs, hr, hk⟩ := h
  refine ⟨rfl, hr.lt, ?_⟩
  rw [hr.cell, Nat.zero_add]
  exact hk i z hz
theorem IRow.cell {w : World} {g : Nat} {zs : List Int} (h : IRow w g zs) {i : Nat} {z : Int} (hz : zs[i]? = some z) : w.cell? ⟨g, i, none⟩ = some (.int .i64 z) := by
  obtain ⟨cs, hr, hk⟩ := h
  rw [hr.cell]; exact hk i z hz
theorem IRow.lt {w : World} {g : Nat} {zs : List Int} (h : IRow w g zs) : g < w.heap.size := by
  obtain ⟨cs, hr, hk⟩ := h
  exact hr.lt
theorem IRow.frozen {w : World} {g : Nat} {zs : List Int} (h : IRow w g zs) (i : Nat) : w.frozen? ⟨g, i, none⟩ = false := by
  obtain ⟨cs, hr, hk⟩ := h
  exact hr.frozen i
theorem IRow.same {w w1 : World} {g : Nat} {zs : List Int} (h : IRow w g zs) (hb : w1.heap[g]? = w.heap[g]?) : IRow w1 g zs := by
  obtain ⟨cs, hr, hk⟩ := h
  exact ⟨cs, hb.trans hr, hk⟩
theorem IRow.set {w : World} {g : Nat} {zs : List Int} (h : IRow w g zs) {m : Nat} (hm : m < zs.length) (x : Int) : IRow (w.setCell ⟨g, m, none⟩ (.int .i64 x)) g (zs.set m x) := by
  obtain ⟨cs, hr, hk⟩ := h
  refine ⟨cs.setIfInBounds m (.int .i64 x), hr.set_ _ _, fun i z hz => ?_⟩
  rw [Array.getElem?_setIfInBounds]
  have hc := hk m _ (List.getElem?_eq_getElem hm)
  have hmc : m < cs.size := (Array.getElem?_eq_some_iff.1 hc).1
  by_cases e : m = i
  · subst e
    rw [List.getElem?_set_self hm] at hz
    injection hz with hz
    subst hz
    rw [if_pos rfl, if_pos hmc]
  · rw [List.getElem?_set_ne e] at hz
    rw [if_neg e]
    exact hk i z hz

/-- The row of what has been seen. -/
def BRow (w : World) (g n : Nat) (q : List Int) : Prop := ∃ cs : Array Value, Row w g 4 cs ∧ ∀ i : Nat, i < n → cs[i]? = some (.bool (inB q i))
theorem BRow.cell {w : World} {g n : Nat} {q : List Int} (h : BRow w g n q) {i : Nat} (hi : i < n) : w.cell? ⟨g, i, none⟩ = some (.bool (inB q i)) := by
  obtain ⟨cs, hr, hk⟩ := h
  rw [hr.cell]; exact hk i hi
theorem BRow.lt {w : World} {g n : Nat} {q : List Int} (h : BRow w g n q) : g < w.heap.size := by
  obtain ⟨cs, hr, hk⟩ := h
  exact hr.lt
theorem BRow.frozen {w : World} {g n : Nat} {q : List Int} (h : BRow w g n q) (i : Nat) : w.frozen? ⟨g, i, none⟩ = false := by
  obtain ⟨cs, hr, hk⟩ := h
  exact hr.frozen i
theorem BRow.same {w w1 : World} {g n : Nat} {q : List Int} (h : BRow w g n q) (hb : w1.heap[g]? = w.heap[g]?) : BRow w1 g n q := by
  obtain ⟨cs, hr, hk⟩ := h
  exact ⟨cs, hb.trans hr, hk⟩
theorem BRow.set {w : World} {g n : Nat} {q q' : List Int} (h : BRow w g n q) {m : Nat} (hm : m < n) (hq : ∀ i : Nat, inB q' i = (decide (i = m) || inB q i)) : BRow (w.setCell ⟨g, m, none⟩ (.bool true)) g n q' := by
  obtain ⟨cs, hr, hk⟩ := h
  refine ⟨cs.setIfInBounds m (.bool true), hr.set_ _ _, fun i hi => ?_⟩
  rw [Array.getElem?_setIfInBounds, hq i]
  have hmc : m < cs.size := (Array.getElem?_eq_some_iff.1 (hk m hm)).1
  by_cases e : m = i
  · subst e
    rw [if_pos rfl, if_pos hmc, decide_eq_true rfl]; rfl
  · rw [if_neg e, decide_eq_false (fun h => e h.symm), hk i hi]; rfl

/-- The search's three rows. -/
structure Srs (n : Nat) (w wl : World) (s : Sr) (gp gs gq cap : Nat) : Prop where
  below : Below w.heap.size w wl
  par : IRow wl gp s.par
  seen : BRow wl gs n s.q
  own : wl.ownsRow w.heap.size 3 1 (.slice (some ⟨gq, 0, none⟩) s.q.length cap) s.q.length (s.q.map (Value.int .i64))
  lp : w.heap.size ≤ gp
  ls : w.heap.size ≤ gs
  ps : gp ≠ gs
  pq : gp ≠ gq
  sq : gs ≠ gq

theorem queue_cell {w : World} {base g cap : Nat} {q : List Int} (h : w.ownsRow base 3 1 (.slice (some ⟨g, 0, none⟩) q.length cap) q.length (q.map (Value.int .i64))) {i : Nat} {z : Int} (hz : q[i]? = some z) : w.cell? ⟨g, i, none⟩ = some (.int .i64 z) := by
  obtain ⟨cs, _, hr, hk⟩ := irow_of_owns h
  rw [hr.cell]
  exact hk i _ (by rw [List.getElem?_map, hz]; rfl)
theorem queue_lt {w : World} {base g n cap : Nat} {xs : List Value} (h : w.ownsRow base 3 1 (.slice (some ⟨g, 0, none⟩) n cap) n xs) : base ≤ g ∧ g < w.heap.size := by
  obtain ⟨cs, hb, hr, hk⟩ := irow_of_owns h
  exact ⟨hb, hr.lt⟩

theorem inB_snoc (q : List Int) (m i : Nat) : inB (q ++ [(m : Int)]) i = (decide (i = m) || inB q i) := by
  unfold inB
  rw [Bool.eq_iff_iff]
  simp only [List.mem_append, List.mem_singleton, Bool.or_eq_true, decide_eq_true_eq]
  constructor
  · rintro (h | h)
    · exact .inr h
    · exact .inl (by omega)
  · rintro (h | h)
    · exact .inr (by omega)
    · exact .inl h

/-- An unseen node is written down and queued. -/
theorem Srs.visit {n : Nat} {w wl w1 : World} {s : Sr} {gp gs gq cap : Nat} (h : Srs n w wl s gp gs gq cap) {x : Int} {m : Nat} (hm : m < n) (hl : s.par.length = n) (hin : inB s.q m = false) {v' : Value} {o : Obj}
    (ho : w1.ownsRow w.heap.size 3 1 v' (s.q.length + 1) (s.q.map (Value.int .i64) ++ [.int .i64 (m : Int)]))
    (hg : (((wl.setCell ⟨gs, m, none⟩ (.bool true)).setCell ⟨gp, m, none⟩ (.int .i64 x)).alloc o).grownBy w1 (some gq))
    (hb : v'.ownBlock = some gq ∨ v'.ownBlock = some (((wl.setCell ⟨gs, m, none⟩ (.bool true)).setCell ⟨gp, m, none⟩ (.int .i64 x)).alloc o).heap.size) :
    ∃ gq1 cap1, v' = .slice (some ⟨gq1, 0, none⟩) (s.q.length + 1) cap1 ∧ Srs n w w1 (visit x s m) gp gs gq1 cap1 := by
  obtain ⟨g1, cap1, rfl⟩ : ∃ g1 cap1, v' = .slice (some ⟨g1, 0, none⟩) (s.q.length + 1) cap1 := by
    rcases ho.2 with ⟨_, h0⟩ | ⟨g1, cap1, _, hv, _⟩
    · omega
    · exact ⟨g1, cap1, hv⟩
  have hql := queue_lt h.own
  have hpl := h.par.lt
  have hsl := h.seen.lt
  have hz : (((wl.setCell ⟨gs, m, none⟩ (.bool true)).setCell ⟨gp, m, none⟩ (.int .i64 x)).alloc o).heap.size = wl.heap.size + 1 := by simp
  have h1 : g1 = gq ∨ g1 = wl.heap.size + 1 := by
    rw [hz] at hb
    rcases hb with hb | hb
    · left; simpa [Value.ownBlock] using hb
    · right; simpa [Value.ownBlock] using hb
  have hother : ∀ q, q < wl.heap.size → q ≠ gs → q ≠ gp → q ≠ gq → w1.heap[q]? = wl.heap[q]? := fun q h2 h3 h4 h5 => by
    rw [hg.block q (by rw [hz]; omega) (fun e => h5 (Option.some.inj e)), Below.heap_alloc _ _ _ (by simpa using h2), Below.heap_setCell _ _ _ _ (by simpa using h4), Below.heap_setCell _ _ _ _ (by simpa using h3)]
  refine ⟨g1, cap1, rfl, ?_⟩
  rw [visit_out hin]
  refine ⟨?_, ?_, ?_, ?_, h.lp, h.ls, h.ps, ?_, ?_⟩
  · refine ⟨hg.os.trans h.below.os, hg.tape.trans h.below.tape, hg.output.trans h.below.output, ?_, fun q hq => ?_⟩
    · have := hg.size; rw [hz] at this; have := h.below.size; omega
    · have h2 := h.below.size
      have := h.lp; have := h.ls
      exact (hother q (by omega) (by omega) (by omega) (by omega)).trans (h.below.block q hq)
  · have h2 : IRow (wl.setCell ⟨gs, m, none⟩ (.bool true)) gp s.par := h.par.same (Below.heap_setCell _ _ _ _ (by simpa using h.ps))
    have h3 := h2.set (m := m) (by rw [hl]; exact hm) x
    show IRow w1 gp (s.par.set (m : Int).toNat x)
    rw [Int.toNat_natCast]
    refine h3.same ?_
    rw [hg.block gp (by rw [hz]; omega) (fun e => h.pq (Option.some.inj e)), Below.heap_alloc _ _ _ (by simpa using hpl)]
  · have h3 := h.seen.set (q' := s.q ++ [(m : Int)]) hm (fun i => inB_snoc _ _ _)
    refine h3.same ?_
    rw [hg.block gs (by rw [hz]; omega) (fun e => h.sq (Option.some.inj e)), Below.heap_alloc _ _ _ (by simpa using hsl), Below.heap_setCell _ _ _ _ (by simpa using h.ps.symm)]
  · show World.ownsRow _ _ _ _ _ (s.q ++ [(m : Int)]).length _
    rw [List.length_append, List.length_singleton, List.map_append]
    exact ho
  · rcases h1 with h1 | h1
    · rw [h1]; exact h.pq
    · omega
  · rcases h1 with h1 | h1
    · rw [h1]; exact h.sq
    · omega

end Go.Proofs.Ytkeokgeaekjgeaa
