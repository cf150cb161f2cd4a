/- Rows of numbers and of edges that grow by append, from nothing or from a row of one's own; an automaton in a box whose rows grow. -/
import Derived.Test.YtldnegacgjijlaaUaP
import Derived.Test.YtldnegacgjijlaaAuM
import Derived.Test.YtldnegacgjijlaaNuT
import Derived.Test.YtldnegacgjijlaaNuC
import Derived.Test.YtldnegacgjijlaaNuH
import Derived.Deep.AppendLies
namespace Go.Proofs.Ytldnegacgjijlaa
open Go.RowKit

/-- Numbers in a row of one's own, or none. -/
def OwnV (w : World) (base : Nat) (v : Value) (zs : List Int) : Prop := w.ownsRow base 3 1 v zs.length (zs.map (Value.int .i64))
theorem OwnV.keep {w w' : World} {base : Nat} {v : Value} {zs : List Int} (h : OwnV w base v zs) (hk : ∀ q, v.ownBlock = some q → w'.heap[q]? = w.heap[q]?) : OwnV w' base v zs := by
  refine ⟨h.1, ?_⟩
  rcases h.2 with k | ⟨q, cap, cur, k1, k2, k3, k4⟩
  · exact .inl k
  · exact .inr ⟨q, cap, cur, k1, k2, (hk q (by rw [k1]; rfl)).trans k3, k4⟩
theorem OwnV.row {w : World} {base q : Nat} {v : Value} {zs : List Int} (h : OwnV w base v zs) (hq : v.ownBlock = some q) : base ≤ q ∧ ∃ cur, Row w q 3 cur := by
  rcases h.2 with ⟨k, _⟩ | ⟨g, cap, cur, k1, k2, k3, _⟩
  · rw [k] at hq; cases hq
  · rw [k1] at hq
    injection hq with hq
    subst hq
    exact ⟨k2, cur, k3⟩
theorem OwnV.form {w : World} {base : Nat} {v : Value} {zs : List Int} (h : OwnV w base v zs) : ∃ A c, v = .slice A zs.length c := by
  rcases h.2 with ⟨k, k0⟩ | ⟨g, cap, cur, k1, _⟩
  · exact ⟨none, 0, by rw [k, k0]⟩
  · exact ⟨_, _, k1⟩
theorem OwnV.base {w : World} {base b2 : Nat} {v : Value} {zs : List Int} (h : OwnV w base v zs) (hb : b2 ≤ base) : OwnV w b2 v zs := by
  refine ⟨h.1, ?_⟩
  rcases h.2 with k | ⟨q, cap, cur, k1, k2, k3⟩
  · exact .inl k
  · exact .inr ⟨q, cap, cur, k1, Nat.le_trans hb k2, k3⟩
theorem OwnT.keepB {w w' : World} {base : Nat} {v : Value} {es : List Tr} (h : OwnT w base v es) (hk : ∀ q, v.ownBlock = some q → w'.heap[q]? = w.heap[q]?) : OwnT w' base v es := by
  refine ⟨h.1, ?_⟩
  rcases h.2 with k | ⟨q, cap, cur, k1, k2, k3, k4⟩
  · exact .inl k
  · exact .inr ⟨q, cap, cur, k1, k2, (hk q (by rw [k1]; rfl)).trans k3, k4⟩
theorem OwnT.rowB {w : World} {base q : Nat} {v : Value} {es : List Tr} (h : OwnT w base v es) (hq : v.ownBlock = some q) : base ≤ q ∧ ∃ cur, Row w q 116 cur := by
  rcases h.2 with ⟨k, _⟩ | ⟨g, cap, cur, k1, k2, k3, _⟩
  · rw [k] at hq; cases hq
  · rw [k1] at hq
    injection hq with hq
    subst hq
    exact ⟨k2, cur, k3⟩
theorem OwnT.formB {w : World} {base : Nat} {v : Value} {es : List Tr} (h : OwnT w base v es) : ∃ A c, v = .slice A es.length c := by
  rcases h.2 with ⟨k, k0⟩ | ⟨g, cap, cur, k1, _⟩
  · exact ⟨none, 0, by rw [k, k0]⟩
  · exact ⟨_, _, k1⟩
theorem OwnT.baseB {w : World} {base b2 : Nat} {v : Value} {es : List Tr} (h : OwnT w base v es) (hb : b2 ≤ base) : OwnT w b2 v es := by
  refine ⟨h.1, ?_⟩
  rcases h.2 with k | ⟨q, cap, cur, k1, k2, k3⟩
  · exact .inl k
  · exact .inr ⟨q, cap, cur, k1, Nat.le_trans hb k2, k3⟩
theorem Row.tyU {w : World} {g : Nat} {t t' : TypeId} {cs cs' : Array Value} (h : Row w g t cs) (h' : Row w g t' cs') : t = t' := by
  have e : some (Obj.cells cs t (0, 0)) = some (Obj.cells cs' t' (0, 0)) := h.symm.trans h'
  injection e with e
  injection e with _ e _

/-- One number more. -/
theorem run_appendV (X : World) (ty : TypeId) (base : Nat) (v : Value) (zs : List Int) (z : Int) (q : Nat) (hown : OwnV X base v zs) (hrow : Row X q 3 #[.int .i64 z]) (hb : base ≤ X.heap.size) (hl : zs.length ≤ 1048576) :
    ∃ (g cap : Nat) (w' : World), (Builtin.append_ #[22, 22] ty #[v, .slice (some ⟨q, 0, none⟩) 1 1]).run Try.prog X = .ok (.slice (some ⟨g, 0, none⟩) (zs.length + 1) cap) w' ∧ OwnV w' base (.slice (some ⟨g, 0, none⟩) (zs.length + 1) cap) (zs ++ [z]) ∧ X.grownBy w' v.ownBlock := by
  obtain ⟨i0, hi0, hz0, hz1, hz2⟩ := info_parts Try.info3
  have r0 : X.cell? ⟨q, 0, none⟩ = some (.int .i64 z) := hrow.cell 0
  obtain ⟨g, cap, w', hr, h2, h3, _⟩ := run_append_lies (P := Try.prog) X 22 ty base 3 i0 (.int .i64 0) 1 8 Try.underlying22 hi0 hz0 hz1 hz2 rfl (by decide) v zs.length _ hown ⟨q, 0, none⟩ 1 1 [Value.int .i64 z] rfl (fun j u hu => by
    match j, hu with
    | 0, hu => simp at hu; subst hu; exact r0
    | j + 1, hu => simp at hu) (by simp [Value.oneCell']) (by decide) (by unfold maxLen; omega) (by omega) hb _ rfl
  refine ⟨g, cap, w', hr, ?_, h3⟩
  unfold OwnV
  rw [List.length_append, List.map_append]
  exact h2
/-- One edge more. -/
theorem run_appendE (X : World) (ty : TypeId) (base : Nat) (v : Value) (es : List Tr) (e : Tr) (q : Nat) (hown : OwnT X base v es) (hrow : Row X q 116 #[.int .i64 e.fr, .int .i64 e.ca, .int .i64 e.va, .int .i64 e.tt]) (hb : base ≤ X.heap.size) (hl : es.length ≤ 1048576) :
    ∃ (g cap : Nat) (w' : World), (Builtin.append_ #[49, 49] ty #[v, .slice (some ⟨q, 0, none⟩) 1 1]).run Try.prog X = .ok (.slice (some ⟨g, 0, none⟩) (es.length + 1) cap) w' ∧ OwnT w' base (.slice (some ⟨g, 0, none⟩) (es.length + 1) cap) (es ++ [e]) ∧ X.grownBy w' v.ownBlock := by
  obtain ⟨i0, hi0, hz0, hz1, hz2⟩ := info_parts infoT
  obtain ⟨r0, r1, r2, r3⟩ := hrow.four
  obtain ⟨g, cap, w', hr, h2, h3, _⟩ := run_append_lies (P := Try.prog) X 49 ty base 116 i0 (.agg #[.int .i64 0, .int .i64 0, .int .i64 0, .int .i64 0]) 4 32 Try.underlying49 hi0 hz0 hz1 hz2 rfl (by decide) v es.length _ hown ⟨q, 0, none⟩ 1 1 [Value.int .i64 e.fr, .int .i64 e.ca, .int .i64 e.va, .int .i64 e.tt] rfl (fun j u hu => by
    match j, hu with
    | 0, hu => simp at hu; subst hu; exact r0
    | 1, hu => simp at hu; subst hu; exact r1
    | 2, hu => simp at hu; subst hu; exact r2
    | 3, hu => simp at hu; subst hu; exact r3
    | j + 4, hu => simp at hu) (by simp [Value.oneCell']) (by decide) (by unfold maxLen; omega) (by omega) hb _ rfl
  refine ⟨g, cap, w', hr, ?_, h3⟩
  unfold OwnT
  rw [List.length_append, cellsT_snoc]
  exact h2

/-- Truth values in one row of one's own. -/
theorem sepB_one {w : World} {lo hi : Nat} {zs : List Bool} {v : Value} (h : (Lay.bo.slice 4).sep w lo hi zs (fun _ => v)) (h0 : 0 < zs.length) : ∃ g cs, lo ≤ g ∧ g < hi ∧ Row w g 4 cs ∧ (Lay.bo.slice 4).sep w g (g + 1) zs (fun _ => v) := by
  obtain ⟨A, cap, g, cs, D, s, hC, hl, h3, h4, h5, h6⟩ := h
  obtain ⟨x, hx⟩ : ∃ x, zs[0]? = some x := ⟨_, List.getElem?_eq_getElem h0⟩
  obtain ⟨a1, a2, a3, _, a5, _, _⟩ := h6 0 x hx
  refine ⟨g, cs, a2, a3, a5, A, cap, g, cs, D, fun _ => g + 1, hC, hl, fun _ _ => Nat.le_refl _, by dsimp only; omega, Nat.le_refl _, fun i y hy => ?_⟩
  obtain ⟨b1, _, _, _, b5, b6, b7⟩ := h6 i y hy
  exact ⟨b1, Nat.le_refl _, by omega, .inl (by dsimp only; omega), b5, b6, b7⟩
theorem OwnV.sep {w : World} {base : Nat} {v : Value} {zs : List Int} (h : OwnV w base v zs) (hz : zs.length ≤ 1048576) :
    (zs = [] ∧ ∀ lo, (Lay.int.slice 3).sep w lo lo zs (fun _ => v)) ∨ ∃ g cs, v.ownBlock = some g ∧ base ≤ g ∧ Row w g 3 cs ∧ (Lay.int.slice 3).sep w g (g + 1) zs (fun _ => v) := by
  rcases h.2 with ⟨k, k0⟩ | ⟨g, cap, cur, k1, k2, k3, k4⟩
  · obtain rfl : zs = [] := List.length_eq_zero_iff.1 k0
    exact .inl ⟨rfl, fun lo => by rw [k]; exact La.sep_nil w lo lo (Nat.le_refl _) none 0⟩
  · right
    have h' : La.OwnI w base g zs cap := by
      have := h
      rw [k1] at this
      exact this
    have hs := h'.sep hz
    rw [k1]
    exact ⟨g, cur, rfl, k2, k3, hs⟩
theorem OwnT.triB {w : World} {base : Nat} {v : Value} {es : List Tr} (h : OwnT w base v es) :
    (es = [] ∧ ∀ lo, TrI w lo lo es v) ∨ ∃ g cs, v.ownBlock = some g ∧ base ≤ g ∧ Row w g 116 cs ∧ TrI w g (g + 1) es v := by
  rcases h.2 with ⟨k, k0⟩ | ⟨g, cap, cur, k1, k2, k3, k4⟩
  · obtain rfl : es = [] := List.length_eq_zero_iff.1 k0
    exact .inl ⟨rfl, fun lo => ⟨none, 0, by rw [k]; rfl, .inl rfl⟩⟩
  · right
    have h' : OwnG w base g es cap := by
      have := h
      rw [k1] at this
      exact this
    have hs := h'.tri
    rw [k1]
    exact ⟨g, cur, rfl, k2, k3, hs⟩

/-- An automaton in a box at g: its rows are one's own, from base on. -/
structure Uk (base g : Nat) (W wl : World) (vB : Value) (xs : List Int) (ys : List Bool) (es : List Tr) (vI vT : Value) : Prop where
  box : Row wl g 51 #[vI, vB, vT]
  ge : base ≤ g
  oi : OwnV wl base vI xs
  ob : ∃ q k, vB = .slice (some ⟨q, 0, none⟩) ys.length k ∧ Lb.OwnI wl base q ys k
  ot : OwnT wl base vT es
  frame : Below base W wl
theorem Uk.below {base g : Nat} {W wl w' : World} {vB : Value} {xs : List Int} {ys : List Bool} {es : List Tr} {vI vT : Value} (h : Uk base g W wl vB xs ys es vI vT) (hb : Below wl.heap.size wl w') (hz : base ≤ wl.heap.size) : Uk base g W w' vB xs ys es vI vT := by
  obtain ⟨q, k, k1, k2⟩ := h.ob
  refine ⟨h.box.under hb h.box.lt, h.ge, h.oi.keep fun q hq => ?_, ⟨q, k, k1, k2.keep (hb.block q k2.lt)⟩, h.ot.keepB fun q hq => ?_, h.frame.trans (hb.mono hz)⟩
  · obtain ⟨_, cu, hr⟩ := h.oi.row hq
    exact hb.block q hr.lt
  · obtain ⟨_, cu, hr⟩ := h.ot.rowB hq
    exact hb.block q hr.lt
/-- What is grown at the row of numbers, and laid in the box. -/
theorem Uk.stepI {base g : Nat} {W wl w' : World} {vB : Value} {xs xs' : List Int} {ys : List Bool} {es : List Tr} {vI vT v' : Value} (h : Uk base g W wl vB xs ys es vI vT) (hz : base ≤ wl.heap.size) (ho : OwnV w' base v' xs') (hg : wl.grownBy w' vI.ownBlock) :
    w'.cell? ⟨g, 0, none⟩ = some vI ∧ w'.frozen? ⟨g, 0, none⟩ = false ∧ g < w'.heap.size ∧ Uk base g W (w'.setCell ⟨g, 0, none⟩ v') vB xs' ys es v' vT := by
  obtain ⟨q, k, k1, k2⟩ := h.ob
  obtain ⟨cs, k3, _⟩ := k2.row
  have ki : ∀ p t cu, t ≠ 3 → Row wl p t cu → w'.heap[p]? = wl.heap[p]? := fun p t cu ht hr => hg.block p hr.lt fun e => by
    obtain ⟨_, cu', hr'⟩ := h.oi.row e.symm
    exact ht (hr.tyU hr')
  have hbx : Row w' g 51 #[vI, vB, vT] := (ki g _ _ (by decide) h.box).trans h.box
  have hq : Row w' q 4 cs := (ki q _ _ (by decide) k3).trans k3
  have hfr : Below base W w' := h.frame.grown hg hz fun k hk => (h.oi.row hk).1
  refine ⟨hbx.cell 0, hbx.frozen 0, hbx.lt, hbx.set_ 0 v', h.ge, ho.keep fun p hp => ?_, ⟨q, k, k1, k2.keep ?_⟩, h.ot.keepB fun p hp => ?_, hfr.setCell h.ge _⟩
  · obtain ⟨_, cu, hr⟩ := ho.row hp
    exact Below.heap_setCell _ _ _ _ (fun e => absurd (Row.tyU hr (by rw [show p = g from e]; exact hbx)) (by decide))
  · exact (Below.heap_setCell _ _ _ _ (fun e => absurd (Row.tyU hq (by rw [show q = g from e]; exact hbx)) (by decide))).trans (ki q _ _ (by decide) k3)
  · obtain ⟨_, cu, hr⟩ := h.ot.rowB hp
    have hr' : Row w' p 116 cu := (ki p _ _ (by decide) hr).trans hr
    exact (Below.heap_setCell _ _ _ _ (fun e => absurd (Row.tyU hr' (by rw [show p = g from e]; exact hbx)) (by decide))).trans (ki p _ _ (by decide) hr)
/-- What is grown at the row of edges, and laid in the box. -/
theorem Uk.stepT {base g : Nat} {W wl w' : World} {vB : Value} {xs : List Int} {ys : List Bool} {es es' : List Tr} {vI vT v' : Value} (h : Uk base g W wl vB xs ys es vI vT) (hz : base ≤ wl.heap.size) (ho : OwnT w' base v' es') (hg : wl.grownBy w' vT.ownBlock) :
    w'.cell? ⟨g, 2, none⟩ = some vT ∧ w'.frozen? ⟨g, 2, none⟩ = false ∧ g < w'.heap.size ∧ Uk base g W (w'.setCell ⟨g, 2, none⟩ v') vB xs ys es' vI v' := by
  obtain ⟨q, k, k1, k2⟩ := h.ob
  obtain ⟨cs, k3, _⟩ := k2.row
  have ki : ∀ p t cu, t ≠ 116 → Row wl p t cu → w'.heap[p]? = wl.heap[p]? := fun p t cu ht hr => hg.block p hr.lt fun e => by
    obtain ⟨_, cu', hr'⟩ := h.ot.rowB e.symm
    exact ht (hr.tyU hr')
  have hbx : Row w' g 51 #[vI, vB, vT] := (ki g _ _ (by decide) h.box).trans h.box
  have hq : Row w' q 4 cs := (ki q _ _ (by decide) k3).trans k3
  have hfr : Below base W w' := h.frame.grown hg hz fun k hk => (h.ot.rowB hk).1
  refine ⟨hbx.cell 2, hbx.frozen 2, hbx.lt, hbx.set_ 2 v', h.ge, h.oi.keep fun p hp => ?_, ⟨q, k, k1, k2.keep ?_⟩, ho.keepB fun p hp => ?_, hfr.setCell h.ge _⟩
  · obtain ⟨_, cu, hr⟩ := h.oi.row hp
    have hr' : Row w' p 3 cu := (ki p _ _ (by decide) hr).trans hr
    exact (Below.heap_setCell _ _ _ _ (fun e => absurd (Row.tyU hr' (by rw [show p = g from e]; exact hbx)) (by decide))).trans (ki p _ _ (by decide) hr)
  · exact (Below.heap_setCell _ _ _ _ (fun e => absurd (Row.tyU hq (by rw [show q = g from e]; exact hbx)) (by decide))).trans (ki q _ _ (by decide) k3)
  · obtain ⟨_, cu, hr⟩ := ho.rowB hp
    exact Below.heap_setCell _ _ _ _ (fun e => absurd (Row.tyU hr (by rw [show p = g from e]; exact hbx)) (by decide))
/-- What is grown at the row of truth values, and laid in the box. -/
theorem Uk.stepB {base g : Nat} {W wl w' : World} {vB : Value} {xs : List Int} {ys ys' : List Bool} {es : List Tr} {vI vT : Value} (h : Uk base g W wl vB xs ys es vI vT) (hz : base ≤ wl.heap.size) {g2 k2 : Nat} (ho : Lb.OwnI w' base g2 ys' k2) {q0 : Nat} (hb0 : ∃ k, vB = .slice (some ⟨q0, 0, none⟩) ys.length k) (hg : wl.grownBy w' (some q0)) :
    w'.cell? ⟨g, 1, none⟩ = some vB ∧ w'.frozen? ⟨g, 1, none⟩ = false ∧ g < w'.heap.size ∧ Uk base g W (w'.setCell ⟨g, 1, none⟩ (.slice (some ⟨g2, 0, none⟩) ys'.length k2)) (.slice (some ⟨g2, 0, none⟩) ys'.length k2) xs ys' es vI vT := by
  obtain ⟨q, k, k1, k2'⟩ := h.ob
  obtain ⟨k0, hb0⟩ := hb0
  obtain rfl : q = q0 := by rw [hb0] at k1; injection k1 with k1; injection k1 with k1; injection k1 with k1; exact k1.symm
  obtain ⟨cs, k3, _⟩ := k2'.row
  have ki : ∀ p t cu, t ≠ 4 → Row wl p t cu → w'.heap[p]? = wl.heap[p]? := fun p t cu ht hr => hg.block p hr.lt fun e => by
    injection e with e
    subst e
    exact ht (hr.tyU k3)
  have hbx : Row w' g 51 #[vI, vB, vT] := (ki g _ _ (by decide) h.box).trans h.box
  obtain ⟨cs2, hq, _⟩ := ho.row
  have hfr : Below base W w' := h.frame.grown hg hz fun k hk => by injection hk with hk; rw [← hk]; exact k2'.le
  refine ⟨hbx.cell 1, hbx.frozen 1, hbx.lt, hbx.set_ 1 _, h.ge, h.oi.keep fun p hp => ?_, ⟨g2, k2, rfl, ho.keep ?_⟩, h.ot.keepB fun p hp => ?_, hfr.setCell h.ge _⟩
  · obtain ⟨_, cu, hr⟩ := h.oi.row hp
    have hr' : Row w' p 3 cu := (ki p _ _ (by decide) hr).trans hr
    exact (Below.heap_setCell _ _ _ _ (fun e => absurd (Row.tyU hr' (by rw [show p = g from e]; exact hbx)) (by decide))).trans (ki p _ _ (by decide) hr)
  · exact Below.heap_setCell _ _ _ _ (fun e => absurd (Row.tyU hq (by rw [show g2 = g from e]; exact hbx)) (by decide))
  · obtain ⟨_, cu, hr⟩ := h.ot.rowB hp
    have hr' : Row w' p 116 cu := (ki p _ _ (by decide) hr).trans hr
    exact (Below.heap_setCell _ _ _ _ (fun e => absurd (Row.tyU hr' (by rw [show p = g from e]; exact hbx)) (by decide))).trans (ki p _ _ (by decide) hr)
theorem OwnV.under {w w' : World} {base : Nat} {v : Value} {zs : List Int} (h : OwnV w base v zs) (hb : Below w.heap.size w w') : OwnV w' base v zs := h.keep fun q hq => by
  obtain ⟨_, cu, hr⟩ := h.row hq
  exact hb.block q hr.lt
theorem OwnT.underB {w w' : World} {base : Nat} {v : Value} {es : List Tr} (h : OwnT w base v es) (hb : Below w.heap.size w w') : OwnT w' base v es := h.keepB fun q hq => by
  obtain ⟨_, cu, hr⟩ := h.rowB hq
  exact hb.block q hr.lt
/-- The rows laid in a box that is there. -/
theorem Uk.make {base g : Nat} {W wl : World} {cs : Array Value} {xs : List Int} {ys : List Bool} {es : List Tr} {vI vT : Value} {q k : Nat} (hr : Row wl g 51 cs) (hs : ∃ a b c, cs = #[a, b, c]) (hge : base ≤ g) (hi : OwnV wl base vI xs) (hb : Lb.OwnI wl base q ys k) (ht : OwnT wl base vT es) (hf : Below base W wl) :
    Uk base g W (((wl.setCell ⟨g, 0, none⟩ vI).setCell ⟨g, 1, none⟩ (.slice (some ⟨q, 0, none⟩) ys.length k)).setCell ⟨g, 2, none⟩ vT) (.slice (some ⟨q, 0, none⟩) ys.length k) xs ys es vI vT := by
  obtain ⟨a, b, c, rfl⟩ := hs
  have kp : ∀ p, p ≠ g → (((wl.setCell ⟨g, 0, none⟩ vI).setCell ⟨g, 1, none⟩ (.slice (some ⟨q, 0, none⟩) ys.length k)).setCell ⟨g, 2, none⟩ vT).heap[p]? = wl.heap[p]? := fun p hp => by
    rw [Below.heap_setCell _ _ _ _ hp, Below.heap_setCell _ _ _ _ hp, Below.heap_setCell _ _ _ _ hp]
  obtain ⟨c2, k2, _⟩ := hb.row
  refine ⟨((hr.set_ 0 _).set_ 1 _).set_ 2 _, hge, hi.keep fun p hp => kp p ?_, ⟨q, k, rfl, hb.keep (kp q ?_)⟩, ht.keepB fun p hp => kp p ?_, ((hf.setCell hge _).setCell hge _).setCell hge _⟩
  · obtain ⟨_, cu, h1⟩ := hi.row hp
    exact fun e => by subst e; exact absurd (h1.tyU hr) (by decide)
  · exact fun e => by subst e; exact absurd (k2.tyU hr) (by decide)
  · obtain ⟨_, cu, h1⟩ := ht.rowB hp
    exact fun e => by subst e; exact absurd (h1.tyU hr) (by decide)
/-- The rows of the box as an automaton of one's own. -/
theorem Uk.aur {base g : Nat} {W wl : World} {vB : Value} {xs : List Int} {ys : List Bool} {es : List Tr} {vI vT : Value} (h : Uk base g W wl vB xs ys es vI vT) (hx : xs.length ≤ 1048576) (hy : ys.length ≤ 1048576) : AuR wl base wl.heap.size xs ys es vI vB vT := by
  obtain ⟨q, k, hv, ko⟩ := h.ob
  have k1 : base ≤ q := ko.le
  obtain ⟨cs, k2, _⟩ := ko.row
  have k3 := ko.sep hy
  rw [← hv] at k3
  have hql := k2.lt
  rcases h.oi.sep hx with ⟨_, i1⟩ | ⟨gi, ci, _, i2, i3, i4⟩
  · rcases h.ot.triB with ⟨_, t1⟩ | ⟨gt, ct, _, t2, t3, t4⟩
    · exact ⟨base, base, q, q + 1, base, base, ⟨Nat.le_refl _, by omega, k1, by omega, Nat.le_refl _, by omega, .inl k1, .inl (Nat.le_refl _), .inr k1⟩, i1 _, k3, t1 _⟩
    · have := t3.lt
      have hn : q ≠ gt := fun e => by subst e; exact absurd (k2.tyU t3) (by decide)
      exact ⟨base, base, q, q + 1, gt, gt + 1, ⟨Nat.le_refl _, by omega, k1, by omega, t2, by omega, .inl k1, .inl t2, by omega⟩, i1 _, k3, t4⟩
  · have hil := i3.lt
    have hn : gi ≠ q := fun e => by subst e; exact absurd (i3.tyU k2) (by decide)
    rcases h.ot.triB with ⟨_, t1⟩ | ⟨gt, ct, _, t2, t3, t4⟩
    · exact ⟨gi, gi + 1, q, q + 1, base, base, ⟨i2, by omega, k1, by omega, Nat.le_refl _, by omega, by omega, .inr i2, .inr k1⟩, i4, k3, t1 _⟩
    · have := t3.lt
      have hn2 : q ≠ gt := fun e => by subst e; exact absurd (k2.tyU t3) (by decide)
      have hn3 : gi ≠ gt := fun e => by subst e; exact absurd (i3.tyU t3) (by decide)
      exact ⟨gi, gi + 1, q, q + 1, gt, gt + 1, ⟨i2, by omega, k1, by omega, t2, by omega, by omega, by omega, by omega⟩, i4, k3, t4⟩

/-- What slices.Clone of numbers leaves: a row of one's own, or none. -/
def RowPostV (zs : List Int) (w : World) (e' : Ending) (w' : World) : Prop :=
  ∃ (A : Option Addr) (k : Nat), e' = .returned (.slice A zs.length k) ∧ OwnV w' w.heap.size (.slice A zs.length k) zs ∧ Below w.heap.size w w'

namespace La
set_option maxHeartbeats 400000 in
set_option maxRecDepth 100000 in
theorem cloneV_any (zs : List Int) (A : Option Addr) (cap b off : Nat) (w : World) (hz : zs.length ≤ 1048576) (hI : Ints w w.heap.size A b off zs) :
    Calls Try.prog 66 #[.slice A zs.length cap] w (RowPostV zs w) := by
  cases A with
  | none =>
    have h0 : zs = [] := by
      cases zs with
      | nil => rfl
      | cons z r => exact absurd (hI 0 z rfl).1 (by simp)
    subst h0
    have hnil : Sem.run Try.prog (binOp BinOp.eql 22 (.slice none 0 cap) (.slice none 0 0)) w = .ok (.bool true) w := by kernel_rfl
    clear hI hz
    go_enter Try.func66, Try.ntmps66
    go_wp2_with fail
    go_ret
    exact ⟨none, 0, rfl, ⟨rfl, .inl ⟨rfl, rfl⟩⟩, Below.refl _ _⟩
  | some ad =>
    have hnil : Sem.run Try.prog (binOp BinOp.eql 22 (.slice (some ad) zs.length cap) (.slice none 0 0)) w = .ok (.bool false) w := by kernel_rfl
    have HI := Lib.hid (hI.under (B' := (w.alloc (.cells #[] 3)).heap.size) ((Below.refl _ w).alloc (Nat.le_refl _) (.cells #[] 3)) (by simp))
    have HO : Hid (OwnI (w.alloc (.cells #[] 3)) w.heap.size w.heap.size [] 0) := OwnI.empty (Nat.le_refl _) (Row.new _ _ _)
    obtain ⟨n, hn⟩ : ∃ n, n = zs.length := ⟨_, rfl⟩
    have HN := Lib.hid hn
    rw [← hn] at hnil ⊢
    clear hI hn
    go_enter Try.func66, Try.ntmps66
    go_wp2_with (at_builtin; refine wpList_ints rfl (.tmp 5) (.tmp 6) rfl w.heap.size w.heap.size 0 [] zs (some ad) b off cap rfl (by rw [← HN.out]; rfl) HO.out HI.out (by simp; omega) (by simp) ?_; intro g k w' hown hgrow hat hlt)
    have HOw := Lib.hid hown
    have HB : Hid (Below w.heap.size w w') := Below.grow ((Below.refl _ w).alloc (Nat.le_refl _) _) hgrow (by simp) (Nat.le_refl _)
    have hle := hown.le
    clear hown hgrow hat
    go_wp2_with fail
    go_ret
    exact ⟨some ⟨g, 0, none⟩, k, rfl, HOw.out, HB.out⟩
end La

end Go.Proofs.Ytldnegacgjijlaa
