/- The receivers of a moment: a map of slices, and one number appended at a port. -/
import Derived.Test.YtefpdkfogfhniaaMp0Q
namespace Go.Proofs.Ytefpdkfogfhniaa
open Go.RowKit
open Go.WideMaps (KeyLaw)

def inP (p c : Int) : Prop := (0 ≤ p ∧ p ≤ 2) ∧ (-2 ≤ c ∧ c ≤ 2)
def updR (rc : Int → Int → List Int) (p c x : Int) : Int → Int → List Int := fun p' c' => if p' = p ∧ c' = c then rc p c ++ [x] else rc p' c'

/-- A value of the map: a slice that owns its row of numbers. -/
def OwnV (w : World) (base : Nat) (v : Value) (zs : List Int) : Prop := ∃ g cap, v = .slice (some ⟨g, 0, none⟩) zs.length cap ∧ w.ownsRow base 3 1 (.slice (some ⟨g, 0, none⟩) zs.length cap) zs.length (zs.map (Value.int .i64))
theorem OwnV.grown {w w1 : World} {base : Nat} {v : Value} {zs : List Int} {row : Option Nat} (h : OwnV w base v zs) (hg : w.grownBy w1 row) (hne : v.ownBlock ≠ row) : OwnV w1 base v zs := by
  obtain ⟨g, cap, rfl, ho⟩ := h
  exact ⟨g, cap, rfl, owns_grown ho hg hne⟩
theorem OwnV.block {w : World} {base : Nat} {v : Value} {zs : List Int} (h : OwnV w base v zs) : ∃ g, v.ownBlock = some g ∧ base ≤ g ∧ g < w.heap.size := by
  obtain ⟨g, cap, rfl, ho⟩ := h
  exact ⟨g, rfl, (owns_block ho).1, (owns_block ho).2⟩

/-- The map as it stands: at every port the numbers that rc names. -/
structure Recv (w : World) (b base : Nat) (rc : Int → Int → List Int) (es : Array MapEntry) : Prop where
  heap : w.heap[b]? = some (.map es es.size)
  born : ∀ (j : Nat) (x : MapEntry), es[j]? = some x → x.born = j
  key : ∀ (j : Nat) (x : MapEntry), es[j]? = some x → ∃ p c : Int, x.key = portV p c ∧ inP p c
  uniq : ∀ (i j : Nat) (x y : MapEntry), es[i]? = some x → es[j]? = some y → x.key = y.key → i = j
  val : ∀ (j : Nat) (x : MapEntry) (p c : Int), es[j]? = some x → x.key = portV p c → OwnV w base x.val (rc p c)
  apart : ∀ (i j : Nat) (x y : MapEntry), es[i]? = some x → es[j]? = some y → i ≠ j → x.val.ownBlock ≠ y.val.ownBlock
  has : ∀ p c : Int, rc p c ≠ [] → ∃ (j : Nat) (x : MapEntry), es[j]? = some x ∧ x.key = portV p c

/-- The map while the entry j, at (p, c), is open. -/
structure Half (w : World) (b base : Nat) (rc : Int → Int → List Int) (es : Array MapEntry) (j : Nat) (p c : Int) (v0 : Value) : Prop where
  heap : w.heap[b]? = some (.map es es.size)
  born : ∀ (i : Nat) (x : MapEntry), es[i]? = some x → x.born = i
  key : ∀ (i : Nat) (x : MapEntry), es[i]? = some x → ∃ p c : Int, x.key = portV p c ∧ inP p c
  uniq : ∀ (i j : Nat) (x y : MapEntry), es[i]? = some x → es[j]? = some y → x.key = y.key → i = j
  at_ : es[j]? = some ⟨portV p c, v0, j⟩
  val : ∀ (i : Nat) (x : MapEntry) (p c : Int), i ≠ j → es[i]? = some x → x.key = portV p c → OwnV w base x.val (rc p c)
  apart : ∀ (i i' : Nat) (x y : MapEntry), i ≠ j → i' ≠ j → es[i]? = some x → es[i']? = some y → i ≠ i' → x.val.ownBlock ≠ y.val.ownBlock
  off : ∀ (i : Nat) (x : MapEntry), i ≠ j → es[i]? = some x → x.val.ownBlock ≠ v0.ownBlock
  has : ∀ p' c' : Int, ¬ (p' = p ∧ c' = c) → rc p' c' ≠ [] → ∃ (i : Nat) (x : MapEntry), es[i]? = some x ∧ x.key = portV p' c'
  own : w.ownsRow base 3 1 v0 (rc p c).length ((rc p c).map (Value.int .i64))

section
variable {w w1 : World} {b base : Nat} {rc : Int → Int → List Int} {es : Array MapEntry}
theorem Recv.keys (h : Recv w b base rc es) : ∀ x ∈ es.toList, ∃ l, keyOf Try.prog 100 x.key = some l := by
  intro x hx
  obtain ⟨j, hj⟩ := List.mem_iff_getElem?.1 hx
  obtain ⟨p, c, hk, hp, hc⟩ := h.key j x (by simpa using hj)
  rw [hk]
  exact port_key hp hc
theorem Recv.grown (h : Recv w b base rc es) {row : Option Nat} (hg : w.grownBy w1 row) (hb : some b ≠ row) (hr : ∀ g, row = some g → g < base) : Recv w1 b base rc es :=
  ⟨(hg.block b (lt_of_heap h.heap) hb).trans h.heap, h.born, h.key, h.uniq, fun j x p c hj hk => (h.val j x p c hj hk).grown hg (by
    obtain ⟨g, e, h1, _⟩ := (h.val j x p c hj hk).block
    rw [e]
    intro e2
    have := hr g e2.symm
    omega), h.apart, h.has⟩
theorem Recv.under (h : Recv w b base rc es) (hb : Below w.heap.size w w1) : Recv w1 b base rc es :=
  h.grown (row := none) ⟨hb.os, hb.tape, hb.output, hb.size, fun k hk _ => hb.block k hk⟩ (by simp) (fun g e => by cases e)

theorem Recv.entry (h : Recv w b base rc es) (hbb : b < base) {p c : Int} (hpc : inP p c) (hz : ∀ u : World, (zeroValue 22).run Try.prog u = .ok (.slice none 0 0) u) :
    ∃ (v0 : Value) (j : Nat) (es1 : Array MapEntry) (w1 : World), (Instr.mapEntry 72 (.map (some b)) (portV p c)).run Try.prog w = .ok (.tuple #[v0, goInt j]) w1 ∧ w.grownBy w1 (some b) ∧ w1.heap.size = w.heap.size ∧ Half w1 b base rc es1 j p c v0 := by
  obtain ⟨kl, hkl⟩ := port_key hpc.1 hpc.2
  by_cases hex : ∃ (j : Nat) (x : MapEntry), es[j]? = some x ∧ x.key = portV p c
  · obtain ⟨j, x, hj, hk⟩ := hex
    have hrun := entry_hit (w := w) port_law port_map h.heap h.keys hkl h.uniq hj hk
    rw [h.born j x hj] at hrun
    have hgr := putM_grown w b (.map es es.size)
    refine ⟨x.val, j, es, _, hrun, hgr, putM_size, putM_same (lt_of_heap h.heap), h.born, h.key, h.uniq, ?_, ?_, fun i i' x y _ _ h1 h2 h3 => h.apart i i' x y h1 h2 h3, fun i y hi hy => h.apart i j y x hy hj hi, fun p' c' _ hr => h.has p' c' hr, ?_⟩
    · rw [hj, ← hk, ← h.born j x hj]
    · intro i y p' c' _ hy hky
      refine (h.val i y p' c' hy hky).grown hgr ?_
      obtain ⟨g, e, h1, _⟩ := (h.val i y p' c' hy hky).block
      rw [e]
      intro e2
      injection e2 with e2
      omega
    · have hv := h.val j x p c hj hk
      obtain ⟨g, e, h1, _⟩ := hv.block
      obtain ⟨g', cap, e', ho⟩ := hv.grown hgr (by rw [e]; intro e2; injection e2 with e2; omega)
      rw [e']
      exact ho
  · have hno : ∀ x ∈ es.toList, x.key ≠ portV p c := fun x hx hk => by
      obtain ⟨j, hj⟩ := List.mem_iff_getElem?.1 hx
      exact hex ⟨j, x, by simpa using hj, hk⟩
    have hrun := entry_miss (w := w) port_law port_map hz h.heap h.keys hkl hno
    have hgr := putM_grown w b (.map (es.push ⟨portV p c, .slice none 0 0, es.size⟩) (es.size + 1))
    have hget : ∀ (i : Nat) (x : MapEntry), (es.push ⟨portV p c, .slice none 0 0, es.size⟩)[i]? = some x → (i = es.size ∧ x = ⟨portV p c, .slice none 0 0, es.size⟩) ∨ (i ≠ es.size ∧ es[i]? = some x) := by
      intro i x hx
      rw [Array.getElem?_push] at hx
      split at hx
      · next e => injection hx with hx; exact .inl ⟨e, hx.symm⟩
      · next e => exact .inr ⟨e, hx⟩
    have hrc : rc p c = [] := Classical.byContradiction fun hne => hex (h.has p c hne)
    refine ⟨.slice none 0 0, es.size, es.push ⟨portV p c, .slice none 0 0, es.size⟩, _, hrun, hgr, putM_size, ?_, ?_, ?_, ?_, ?_, ?_, ?_, ?_, ?_, ?_⟩
    · rw [Array.size_push]
      exact putM_same (lt_of_heap h.heap)
    · intro i x hx
      rcases hget i x hx with ⟨rfl, rfl⟩ | ⟨_, hx⟩
      · rfl
      · exact h.born i x hx
    · intro i x hx
      rcases hget i x hx with ⟨rfl, rfl⟩ | ⟨_, hx⟩
      · exact ⟨p, c, rfl, hpc⟩
      · exact h.key i x hx
    · intro i j x y hx hy hk
      rcases hget i x hx with ⟨rfl, rfl⟩ | ⟨h1, hx⟩ <;> rcases hget j y hy with ⟨rfl, rfl⟩ | ⟨h2, hy⟩
      · rfl
      · exact absurd ⟨j, y, hy, hk.symm⟩ hex
      · exact absurd ⟨i, x, hx, hk⟩ hex
      · exact h.uniq i j x y hx hy hk
    · simp
    · intro i x p' c' hi hx hk
      rcases hget i x hx with ⟨e, _⟩ | ⟨_, hx⟩
      · exact absurd e hi
      · refine (h.val i x p' c' hx hk).grown hgr ?_
        obtain ⟨g, e, h1, _⟩ := (h.val i x p' c' hx hk).block
        rw [e]
        intro e2
        injection e2 with e2
        omega
    · intro i i' x y hi hi' hx hy hne
      rcases hget i x hx with ⟨e, _⟩ | ⟨_, hx⟩
      · exact absurd e hi
      rcases hget i' y hy with ⟨e, _⟩ | ⟨_, hy⟩
      · exact absurd e hi'
      exact h.apart i i' x y hx hy hne
    · intro i x hi hx
      rcases hget i x hx with ⟨e, _⟩ | ⟨_, hx⟩
      · exact absurd e hi
      obtain ⟨p', c', hk, _⟩ := h.key i x hx
      obtain ⟨g, e, _⟩ := (h.val i x p' c' hx hk).block
      rw [e]
      simp [Value.ownBlock]
    · intro p' c' _ hr
      obtain ⟨i, x, hx, hk⟩ := h.has p' c' hr
      have hi : i < es.size := (Array.getElem?_eq_some_iff.1 hx).1
      exact ⟨i, x, by rw [Array.getElem?_push, if_neg (by omega)]; exact hx, hk⟩
    · rw [hrc]
      exact ⟨rfl, .inl ⟨rfl, rfl⟩⟩

theorem Half.store {j : Nat} {p c x : Int} {v0 v' : Value} (h : Half w b base rc es j p c v0) (hbb : b < base) (hv0 : some b ≠ v0.ownBlock)
    (ho : w1.ownsRow base 3 1 v' ((rc p c).length + 1) ((rc p c).map (Value.int .i64) ++ [.int .i64 x])) (hg : w.grownBy w1 v0.ownBlock) (hob : v'.ownBlock = v0.ownBlock ∨ v'.ownBlock = some w.heap.size) :
    ∃ (w2 : World) (es2 : Array MapEntry), (Instr.entryStore 72 (.map (some b)) (goInt j) v').run Try.prog w1 = .ok () w2 ∧ w1.grownBy w2 (some b) ∧ w2.heap.size = w1.heap.size ∧ Recv w2 b base (updR rc p c x) es2 := by
  have hh : w1.heap[b]? = some (.map es es.size) := (hg.block b (lt_of_heap h.heap) hv0).trans h.heap
  have hj : j < es.size := (Array.getElem?_eq_some_iff.1 h.at_).1
  have hrun := entry_store (P := Try.prog) (t := 72) hh h.born hj v'
  have hgr := putM_grown w1 b (.map (es.modify j fun x => { x with val := v' }) es.size)
  have hget : ∀ (i : Nat) (y : MapEntry), (es.modify j fun x => { x with val := v' })[i]? = some y → (i = j ∧ y = ⟨portV p c, v', j⟩) ∨ (i ≠ j ∧ es[i]? = some y) := by
    intro i y hy
    rw [Array.getElem?_modify] at hy
    split at hy
    · next e =>
      subst e
      rw [h.at_] at hy
      simp only [Option.map_some, Option.some.injEq] at hy
      exact .inl ⟨rfl, hy.symm⟩
    · next e => exact .inr ⟨fun e' => e e'.symm, hy⟩
  have hv' : OwnV w1 base v' (rc p c ++ [x]) := by
    obtain ⟨g1, cap1, rfl⟩ : ∃ g1 cap1, v' = .slice (some ⟨g1, 0, none⟩) ((rc p c).length + 1) cap1 := by
      rcases ho.2 with ⟨_, h0⟩ | ⟨g1, cap1, _, hv, _⟩
      · omega
      · exact ⟨g1, cap1, hv⟩
    refine ⟨g1, cap1, by simp, ?_⟩
    rw [List.length_append, List.map_append]
    exact ho
  have hold : ∀ (i : Nat) (y : MapEntry) (p' c' : Int), i ≠ j → es[i]? = some y → y.key = portV p' c' → OwnV w1 base y.val (rc p' c') := fun i y p' c' hi hy hk => (h.val i y p' c' hi hy hk).grown hg (h.off i y hi hy)
  have hb2 : ∀ {v : Value} {zs : List Int}, OwnV w1 base v zs → OwnV (putM w1 b (.map (es.modify j fun x => { x with val := v' }) es.size)) base v zs := fun {v zs} hv => hv.grown hgr (by
    obtain ⟨g, e, h1, _⟩ := hv.block
    rw [e]
    intro e2
    injection e2 with e2
    omega)
  have hoff : ∀ (i : Nat) (y : MapEntry), i ≠ j → es[i]? = some y → y.val.ownBlock ≠ v'.ownBlock := by
    intro i y hi hy
    rcases hob with e | e
    · rw [e]
      exact h.off i y hi hy
    · obtain ⟨p', c', hk, _⟩ := h.key i y hy
      obtain ⟨g, e2, _, h2⟩ := (h.val i y p' c' hi hy hk).block
      rw [e, e2]
      intro e3
      injection e3 with e3
      omega
  refine ⟨_, es.modify j fun x => { x with val := v' }, hrun, hgr, putM_size, ?_, ?_, ?_, ?_, ?_, ?_, ?_⟩
  · rw [Array.size_modify]
    exact putM_same (lt_of_heap hh)
  · intro i y hy
    rcases hget i y hy with ⟨rfl, rfl⟩ | ⟨_, hy⟩
    · rfl
    · exact h.born i y hy
  · intro i y hy
    rcases hget i y hy with ⟨rfl, rfl⟩ | ⟨_, hy⟩
    · obtain ⟨p', c', hk, hi⟩ := h.key i _ h.at_
      exact ⟨p', c', hk, hi⟩
    · exact h.key i y hy
  · intro i i' y z hy hz hk
    have hy' : ∃ y', es[i]? = some y' ∧ y'.key = y.key := by
      rcases hget i y hy with ⟨rfl, rfl⟩ | ⟨_, hy⟩
      · exact ⟨_, h.at_, rfl⟩
      · exact ⟨y, hy, rfl⟩
    have hz' : ∃ z', es[i']? = some z' ∧ z'.key = z.key := by
      rcases hget i' z hz with ⟨rfl, rfl⟩ | ⟨_, hz⟩
      · exact ⟨_, h.at_, rfl⟩
      · exact ⟨z, hz, rfl⟩
    obtain ⟨y', e1, k1⟩ := hy'
    obtain ⟨z', e2, k2⟩ := hz'
    exact h.uniq i i' y' z' e1 e2 (by rw [k1, k2, hk])
  · intro i y p' c' hy hk
    rcases hget i y hy with ⟨rfl, rfl⟩ | ⟨hi, hy⟩
    · obtain ⟨rfl, rfl⟩ := portV_inj hk
      have : updR rc p c x p c = rc p c ++ [x] := by unfold updR; rw [if_pos ⟨rfl, rfl⟩]
      rw [this]
      exact hb2 hv'
    · have hne : ¬ (p' = p ∧ c' = c) := fun ⟨e1, e2⟩ => hi (h.uniq i j y _ hy h.at_ (by rw [hk, e1, e2]))
      have : updR rc p c x p' c' = rc p' c' := by unfold updR; rw [if_neg hne]
      rw [this]
      exact hb2 (hold i y p' c' hi hy hk)
  · intro i i' y z hy hz hne
    rcases hget i y hy with ⟨e1, e2⟩ | ⟨hi, hy2⟩ <;> rcases hget i' z hz with ⟨e3, e4⟩ | ⟨hi', hz2⟩
    · exact absurd (e1.trans e3.symm) hne
    · rw [e2]
      exact (hoff i' z hi' hz2).symm
    · rw [e4]
      exact hoff i y hi hy2
    · exact h.apart i i' y z hi hi' hy2 hz2 hne
  · intro p' c' hr
    have hput : ∀ (i : Nat) (y : MapEntry), es[i]? = some y → ∃ y', (es.modify j fun x => { x with val := v' })[i]? = some y' ∧ y'.key = y.key := by
      intro i y hy
      rw [Array.getElem?_modify]
      split
      · rw [hy]; exact ⟨_, rfl, rfl⟩
      · exact ⟨y, hy, rfl⟩
    by_cases e : p' = p ∧ c' = c
    · obtain ⟨y', e1, e2⟩ := hput j _ h.at_
      exact ⟨j, y', e1, by rw [e2, e.1, e.2]⟩
    · have : updR rc p c x p' c' = rc p' c' := by unfold updR; rw [if_neg e]
      rw [this] at hr
      obtain ⟨i, y, hy, hk⟩ := h.has p' c' e hr
      obtain ⟨y', e1, e2⟩ := hput i y hy
      exact ⟨i, y', e1, by rw [e2, hk]⟩
end

end Go.Proofs.Ytefpdkfogfhniaa
