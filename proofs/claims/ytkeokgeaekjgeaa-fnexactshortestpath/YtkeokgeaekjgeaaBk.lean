/- The walk of (impl.Graph).predecessors. -/
import Derived.Test.YtkeokgeaekjgeaaBj
import Derived.Test.YtkeokgeaekjgeaaBp
namespace Go.Proofs.Ytkeokgeaekjgeaa
open Go.RowKit

/-- The predecessors: the start is its own. -/
def befo (s : Sr) (m : Nat) : List Int := s.par.set m (m : Int)
theorem SrOk.befo_len {n m : Nat} {s : Sr} (h : SrOk n (m : Int) s) : (befo s m).length = n := by unfold befo; rw [List.length_set]; exact h.len
theorem SrOk.start_in {n m : Nat} {s : Sr} (h : SrOk n (m : Int) s) : inB s.q m = true := inB_true (List.mem_of_getElem? h.head)
theorem SrOk.befo_out {n m : Nat} {s : Sr} (h : SrOk n (m : Int) s) {k : Nat} (hk : k < n) (hin : inB s.q k = false) : (befo s m)[k]? = some (-1) := by
  have hne : m ≠ k := fun e => by rw [← e, h.start_in] at hin; cases hin
  unfold befo
  rw [List.getElem?_set_ne hne]
  exact h.unseen k hk (of_decide_eq_false hin)
theorem SrOk.befo_in {n m : Nat} {s : Sr} (h : SrOk n (m : Int) s) {k : Nat} (hin : inB s.q k = true) : ∃ y : Nat, (befo s m)[k]? = some (y : Int) := by
  have hmem : (k : Int) ∈ s.q := of_decide_eq_true hin
  obtain ⟨i, hi⟩ := List.getElem?_of_mem hmem
  obtain ⟨k1, hk1, hkn⟩ := h.range _ hmem
  by_cases e : m = k
  · subst e
    exact ⟨m, by unfold befo; rw [List.getElem?_set_self (by rw [h.len]; omega)]⟩
  · have hz : (k : Int) ≠ (m : Int) := by omega
    obtain ⟨_, j, y, _, hj, hp⟩ := h.up hi hz
    obtain ⟨y1, rfl, _⟩ := h.range y (List.mem_of_getElem? hj)
    rw [Int.toNat_natCast] at hp
    exact ⟨y1, by unfold befo; rw [List.getElem?_set_ne e]; exact hp⟩
theorem SrOk.befo_visit {n m : Nat} {s : Sr} (h : SrOk n (m : Int) s) {k : Nat} (x : Int) (hin : inB s.q k = false) : befo (Go.Proofs.Ytkeokgeaekjgeaa.visit x s k) m = (befo s m).set k x := by
  have hne : m ≠ k := fun e => by rw [← e, h.start_in] at hin; cases hin
  rw [visit_out hin]
  unfold befo
  rw [Int.toNat_natCast]
  exact List.set_comm _ _ (Ne.symm hne)
theorem befo_up {n m : Nat} {s : Sr} (_h : SrOk n (m : Int) s) {c : Nat} (hc : c ≠ m) : (befo s m)[c]? = s.par[c]? := by
  unfold befo; rw [List.getElem?_set_ne (Ne.symm hc)]

/-- The program's search: the predecessors and the queue. -/
structure Prs (W wl : World) (s : Sr) (m k gb gq off cap : Nat) : Prop where
  below : Below W.heap.size W wl
  bef : IRow wl gb (befo s m)
  que : Que wl W.heap.size gq off cap (s.q.drop k)
  lb : W.heap.size ≤ gb
  bq : gb ≠ gq

theorem drop_snoc {l : List Int} {k : Nat} (h : k ≤ l.length) (z : Int) : (l ++ [z]).drop k = l.drop k ++ [z] := by
  rw [List.drop_append_of_le_length h]

theorem Prs.visit {n m k gb gq off cap : Nat} {W wl w1 : World} {s : Sr} (h : Prs W wl s m k gb gq off cap) (hok : SrOk n (m : Int) s) {x : Int} {c : Nat} (hc : c < n) (hk : k ≤ s.q.length) (hin : inB s.q c = false) {o : Obj} {g1 off1 cap1 : Nat}
    (hq : Que w1 W.heap.size g1 off1 cap1 (s.q.drop k ++ [(c : Int)]))
    (hg : ((wl.setCell ⟨gb, c, none⟩ (.int .i64 x)).alloc o).grownBy w1 (some gq)) (hb : g1 = gq ∨ ((wl.setCell ⟨gb, c, none⟩ (.int .i64 x)).alloc o).heap.size ≤ g1) :
    Prs W w1 (Go.Proofs.Ytkeokgeaekjgeaa.visit x s c) m k gb g1 off1 cap1 := by
  have hql := h.que.lt
  have hqo := h.que.own
  have hbl := h.bef.lt
  have hlb := h.lb
  have hz : ((wl.setCell ⟨gb, c, none⟩ (.int .i64 x)).alloc o).heap.size = wl.heap.size + 1 := by simp
  have hother : ∀ q, q < wl.heap.size → q ≠ gb → q ≠ gq → w1.heap[q]? = wl.heap[q]? := fun q h2 h3 h4 => by
    rw [hg.block q (by rw [hz]; omega) (fun e => h4 (Option.some.inj e)), Below.heap_alloc _ _ _ (by simpa using h2), Below.heap_setCell _ _ _ _ (by simpa using h3)]
  refine ⟨⟨hg.os.trans h.below.os, hg.tape.trans h.below.tape, hg.output.trans h.below.output, ?_, fun q hq1 => ?_⟩, ?_, ?_, hlb, ?_⟩
  · have := hg.size; rw [hz] at this; have := h.below.size; omega
  · have h2 := h.below.size
    exact (hother q (by omega) (by omega) (by omega)).trans (h.below.block q hq1)
  · rw [hok.befo_visit x hin]
    refine (h.bef.set (m := c) (by rw [hok.befo_len]; exact hc) x).same ?_
    rw [hg.block gb (by rw [hz]; omega) (fun e => h.bq (Option.some.inj e)), Below.heap_alloc _ _ _ (by simpa using hbl)]
  · rw [visit_out hin]
    show Que w1 _ _ _ _ ((s.q ++ [(c : Int)]).drop k)
    rw [drop_snoc hk]
    exact hq
  · rcases hb with e | e
    · rw [e]; exact h.bq
    · rw [hz] at e; omega

end Go.Proofs.Ytkeokgeaekjgeaa
