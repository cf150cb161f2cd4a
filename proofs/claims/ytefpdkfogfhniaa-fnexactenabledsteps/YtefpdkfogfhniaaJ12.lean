/- Joined texts: MoL, Mi0. Nothing is assumed. -/
import Derived.Test.YtefpdkfogfhniaaMo3Q
import Derived.Test.YtefpdkfogfhniaaSp3Q
import Derived.RangeFuncNested
import Derived.RangeFuncBound
import Derived.RangeFuncCalls
import Derived.RangeFuncLeaves
import Derived.OwnWalkIn
import Derived.TacticsInMore
import Derived.LoopNIn
import Derived.LoopIn
namespace Go.Proofs.Ytefpdkfogfhniaa
open Go.RowKit
attribute [local go_sem] Oper.semAt_some

theorem acc_nil_iff {X Y : Type} {F : Nat → X → List Y} {l : List X} : acc F l = [] ↔ ∀ (k : Nat) (x : X), l[k]? = some x → F k x = [] := by
  unfold acc
  rw [List.flatten_eq_nil_iff]
  constructor
  · intro h k x hx
    exact h _ (List.mem_map.2 ⟨(x, k), List.mem_zipIdx_iff_getElem?.2 hx, rfl⟩)
  · intro h y hy
    obtain ⟨⟨x, k⟩, hx, rfl⟩ := List.mem_map.1 hy
    exact h k x (List.mem_zipIdx_iff_getElem?.1 hx)
theorem rcN_full {e : Sy} {f : St} {j : Nat} {p : Pr} (hp : e.ps[j]? = some p) (c : Int) : rcN e f e.ps.length 0 j c = acc (rcE f c j) p.es := by
  have hj : j < e.ps.length := (List.getElem?_eq_some_iff.1 hp).1
  unfold rcN
  have e1 : ¬ ((j : Int) < 0) := by omega
  simp only [if_neg e1, Int.toNat_natCast, hp, if_pos hj]
theorem pt_rc {f : St} {sy : Int} {i k j k' : Nat} {d : Ed} (h : 0 < sy) : ptE f sy i k j k' d = [] ↔ rcE f sy j k' d = [] := by
  unfold ptE rcE
  by_cases h1 : d.sy = -sy
  · have h2 : d.sy < 0 := by omega
    have h3 : -d.sy = sy := by omega
    cases hr : rdyB f j d <;> simp [h1, h]
  · have h3 : ¬ (-d.sy = sy) := by omega
    simp [h1, h3]
theorem stE_nil {e : Sy} {f : St} {i k : Nat} {d : Ed} (h0 : d.sy ≠ 0) (h : ∀ j : Nat, j < e.ps.length → j ≠ i → rcN e f e.ps.length 0 j d.sy = []) : stE e f i k d = [] := by
  by_cases hn : d.sy < 0
  · exact stE_none (.inl hn)
  cases hr : rdyB f i d
  · exact stE_none (.inr hr)
  rw [stE_parts (by omega) hr]
  unfold parts
  rw [acc_nil_iff]
  intro j p hp
  have hj : j < e.ps.length := (List.getElem?_eq_some_iff.1 hp).1
  unfold ptP
  split
  · rfl
  · next hji =>
    have h1 := h j hj hji
    rw [rcN_full hp, acc_nil_iff] at h1
    rw [acc_nil_iff]
    intro k' d' hd'
    exact (pt_rc (by omega)).2 (h1 k' d' hd')
theorem stE_ne {e : Sy} {f : St} {i k : Nat} {d : Ed} (hr : rdyB f i d = true) (h : d.sy = 0 ∨ ∃ j : Nat, j < e.ps.length ∧ j ≠ i ∧ rcN e f e.ps.length 0 j d.sy ≠ []) : stE e f i k d ≠ [] := by
  rcases h with h | ⟨j, hj, hji, hne⟩
  · rw [stE_one h hr]
    simp
  · obtain ⟨p, hp⟩ : ∃ p, e.ps[j]? = some p := ⟨_, List.getElem?_eq_getElem hj⟩
    rw [rcN_full hp] at hne
    have hpos : 0 < d.sy := Classical.byContradiction fun hn => hne (acc_nil_iff.2 fun k' d' _ => by
      unfold rcE
      rw [if_neg]
      simp only [Bool.and_eq_true, decide_eq_true_eq, not_and]
      intro h1 h2
      omega)
    rw [stE_parts hpos hr]
    unfold parts
    intro hnil
    refine hne ?_
    have h1 := acc_nil_iff.1 hnil j p hp
    unfold ptP at h1
    rw [if_neg hji, acc_nil_iff] at h1
    exact acc_nil_iff.2 fun k' d' hd' => (pt_rc hpos).1 (h1 k' d' hd')

/-- A range over a method value: one argument bound ahead. -/
theorem wpIn_range_bound {P : Program} {F : Fence} {n : Nat} {g : Operand} {ps : Array Tmp} {assign body : Code} {Q : Exit → Act → World → Prop} {a : Act} {w : World} {gf : Nat} {m : Value} (hro : F.round = none) (hg : a.eval g = .func (.func gf) #[m] #[]) (hFg : F.fn gf) (eg : ∀ (args : Array Value) (w : World), (callFunc gf args).run P w = .ok (.enter gf args) w) (hn : F.depth.isSome = true → 1 ≤ n)
    (h : ∀ (fn : FuncId) (R0 : Loop), F.fn fn → R0 = { state := .ready, pending := none, fn := fn, tmps := a.tmps, params := ps, assign := assign, body := body, defers := w.heap.size } →
      CallsIn F (n - 1) P gf #[m, .func (.yield (w.heap.size + 1)) #[] #[]] ((w.alloc (.deferred (some []))).alloc (.loop R0)) (rangePost F n P (w.heap.size + 1) Q { a with defers := [{ target := .collected w.heap.size, args := #[] }] ++ a.defers })) :
    (Code.rangeFunc g ps assign body).wpIn F n P Q a w := by
  refine wpIn_rangeFunc ?_
  intro fn hfn
  rw [hro]
  obtain ⟨R0, hR0⟩ : ∃ R0 : Loop, R0 = { state := .ready, pending := none, fn := fn, tmps := a.tmps, params := ps, assign := assign, body := body, defers := w.heap.size } := ⟨_, rfl⟩
  refine ⟨w.heap.size + 1, [{ target := .collected w.heap.size, args := #[] }], (w.alloc (.deferred (some []))).alloc (.loop R0), { target := .fn (.func gf) #[], args := #[m, .func (.yield (w.heap.size + 1)) #[] #[]] }, (w.alloc (.deferred (some []))).alloc (.loop R0), gf, #[m, .func (.yield (w.heap.size + 1)) #[] #[]], (w.alloc (.deferred (some []))).alloc (.loop R0), ?_, ?_, ?_, ?_, hn, h fn R0 hfn hR0⟩
  · rw [hR0]
    exact run_enterLoop_outer _ _ _ _ _
  · simp only [resolve, hg]
    simp [go_sem]
  · intro f' hf'
    simp [Target.leads] at hf'
    subst hf'
    exact hFg
  · simp [invoke, go_sem, eg]

theorem steps_enters (args : Array Value) (w : World) : (callFunc 49 args).run Try.prog w = .ok (.enter 49 args) w := by
  have hn : (Try.f49.name == "runtime.NumGoroutine") = false := by kernel_rfl
  have h1 : Try.f49.name ≠ "runtime.NumGoroutine" := by simpa using hn
  have hb : ∃ c, Try.f49.body = some c := ⟨_, rfl⟩
  obtain ⟨c, hb⟩ := hb
  simp [callFunc, Try.func49, h1, hb, mark]

end Go.Proofs.Ytefpdkfogfhniaa
namespace Go.Proofs.Ytefpdkfogfhniaa
open Go.RowKit

/-- From (U, W) to (U1, W1): of the blocks that were there only those of U have been written; U has grown by new blocks only. -/
structure Fr (U : Nat → Prop) (W : World) (U1 : Nat → Prop) (W1 : World) : Prop where
  os : W1.os = W.os
  tape : W1.tape = W.tape
  output : W1.output = W.output
  size : W.heap.size ≤ W1.heap.size
  same : ∀ q, q < W.heap.size → ¬ U q → W1.heap[q]? = W.heap[q]?
  new : ∀ q, U1 q → U q ∨ W.heap.size ≤ q
theorem Fr.refl (U : Nat → Prop) (W : World) : Fr U W U W := ⟨rfl, rfl, rfl, Nat.le_refl _, fun _ _ _ => rfl, fun _ h => .inl h⟩
theorem Fr.trans {U U1 U2 : Nat → Prop} {W W1 W2 : World} (h : Fr U W U1 W1) (k : Fr U1 W1 U2 W2) : Fr U W U2 W2 where
  os := k.os.trans h.os
  tape := k.tape.trans h.tape
  output := k.output.trans h.output
  size := Nat.le_trans h.size k.size
  same q hq hn := by
    have h1 : ¬ U1 q := fun hu => by
      rcases h.new q hu with e | e
      · exact hn e
      · omega
    exact (k.same q (Nat.lt_of_lt_of_le hq h.size) h1).trans (h.same q hq hn)
  new q hq := by
    rcases k.new q hq with e | e
    · exact h.new q e
    · exact .inr (Nat.le_trans h.size e)
theorem Fr.step {U U1 : Nat → Prop} {W W1 W2 : World} (h : Fr U W U1 W1) (hb : Below W1.heap.size W1 W2) : Fr U W U1 W2 :=
  h.trans ⟨hb.os, hb.tape, hb.output, hb.size, fun q hq _ => hb.block q hq, fun _ h => .inl h⟩
theorem Fr.below {U U1 : Nat → Prop} {W W1 : World} (h : Fr U W U1 W1) {B : Nat} {Wb : World} (hb : Below B Wb W) (hB : B ≤ W.heap.size) (hU : ∀ q, U q → B ≤ q) : Below B Wb W1 :=
  hb.trans ⟨h.os, h.tape, h.output, h.size, fun q hq => h.same q (by omega) (fun hu => by have := hU q hu; omega)⟩
theorem Fr.row {U U1 : Nat → Prop} {W W1 : World} (h : Fr U W U1 W1) {g : Nat} {t : TypeId} {cs : Array Value} (hr : Row W g t cs) (hn : ¬ U g) : Row W1 g t cs := (h.same g hr.lt hn).trans hr

theorem Recv.looks {w : World} {b base : Nat} {rc : Int → Int → List Int} {es : Array MapEntry} (h : Recv w b base rc es) {p c : Int} (hpc : inP p c) :
    ∃ (A : Option Addr) (cap : Nat), (∀ w1, Below w.heap.size w w1 → (Instr.lookup 72 (.map (some b)) (portV p c) false).run Try.prog w1 = .ok (.slice A (rc p c).length cap) w1) ∧ ∀ (q : Nat) (x : Int), (rc p c)[q]? = some x → ∃ g, A = some ⟨g, 0, none⟩ ∧ g < w.heap.size ∧ w.cell? ⟨g, q, none⟩ = some (.int .i64 x) := by
  obtain ⟨kl, hkl⟩ := port_key hpc.1 hpc.2
  rcases port_law.find w hkl es.toList h.keys with ⟨h1, h2⟩ | ⟨j, x, h1, h2, h3⟩
  · have hrc : rc p c = [] := Classical.byContradiction fun hne => by
      obtain ⟨j, x, hj, hk⟩ := h.has p c hne
      exact h2 x (List.mem_of_getElem? (by simpa using hj)) hk
    refine ⟨none, 0, fun w1 hb => ?_, fun q x hx => by rw [hrc] at hx; cases hx⟩
    have h' := h.under hb
    rcases port_law.find w1 hkl es.toList h'.keys with ⟨k1, k2⟩ | ⟨j, x, k1, k2, k3⟩
    · rw [hrc]
      simp [Instr.lookup, run_underlying port_map, MapKept.run_getObj_map h'.heap, port_law.check w1 _ hkl, k1, Result.andThen]
    · exact absurd k3 (h2 x (List.mem_of_getElem? k2))
  · obtain ⟨g, cap, hv, ho⟩ := h.val j x p c (by simpa using h2) h3
    have hgl : g < w.heap.size := by
      rcases ho.2 with ⟨h9, _⟩ | ⟨g', cap', cur, hv', hb', hh, _⟩
      · cases h9
      · injection hv' with e1 e2 e3
        injection e1 with e1
        injection e1 with e1
        subst e1
        exact lt_of_heap hh
    refine ⟨some ⟨g, 0, none⟩, cap, fun w1 hb => ?_, fun q y hy => ⟨g, rfl, hgl, ?_⟩⟩
    · have h' := h.under hb
      rcases port_law.find w1 hkl es.toList h'.keys with ⟨k1, k2⟩ | ⟨j', x', k1, k2, k3⟩
      · exact absurd h3 (k2 x (List.mem_of_getElem? h2))
      · have hjj := h.uniq j j' x x' (by simpa using h2) (by simpa using k2) (h3.trans k3.symm)
        subst hjj
        have hxx : x' = x := by rw [h2] at k2; exact (Option.some.inj k2).symm
        subst hxx
        rw [← hv]
        simp [Instr.lookup, run_underlying port_map, MapKept.run_getObj_map h'.heap, port_law.check w1 _ hkl, k1, Result.andThen]
    · have := ho.cells (g := g) rfl q (.int .i64 y) (by rw [List.getElem?_map, hy]; rfl)
      rw [Addr.add_lit, Nat.zero_add] at this
      exact this

/-- The steps of one edge as the program gives them. -/
def edS (e : Sy) (f : St) (i k : Nat) (sy : Int) : List Stp := if sy = 0 then [⟨i, k, -1, -1⟩] else acc (fun j (_ : Pr) => if j = i then [] else (rcN e f e.ps.length 0 j sy).map fun x => (⟨i, k, j, x⟩ : Stp)) e.ps
theorem pt_map {f : St} {sy : Int} {i k j : Nat} (h : 0 < sy) (es : List Ed) : ∀ n, n ≤ es.length → acc (ptE f sy i k j) (es.take n) = (acc (rcE f sy j) (es.take n)).map fun x => (⟨i, k, j, x⟩ : Stp) := by
  intro n
  induction n with
  | zero => intro _; rfl
  | succ n ih =>
    intro hn
    have hx : es[n]? = some es[n] := List.getElem?_eq_getElem (by omega)
    rw [acc_take_succ hx, acc_take_succ hx, List.map_append, ih (by omega)]
    congr 1
    unfold ptE rcE
    by_cases h1 : es[n].sy = -sy
    · have h2 : es[n].sy < 0 := by omega
      have h3 : -es[n].sy = sy := by omega
      cases hr : rdyB f j es[n] <;> simp [h1, h]
    · have h3 : ¬ (-es[n].sy = sy) := by omega
      simp [h1, h3]
theorem acc_congr {X Y : Type} {F G : Nat → X → List Y} {l : List X} (h : ∀ (k : Nat) (x : X), l[k]? = some x → F k x = G k x) : ∀ n, n ≤ l.length → acc F (l.take n) = acc G (l.take n) := by
  intro n
  induction n with
  | zero => intro _; rfl
  | succ n ih =>
    intro hn
    have hx : l[n]? = some l[n] := List.getElem?_eq_getElem (by omega)
    rw [acc_take_succ hx, acc_take_succ hx, ih (by omega), h n _ hx]
theorem rcN_neg {e : Sy} {f : St} {j : Nat} {c : Int} (hj : j < e.ps.length) (hc : c ≤ 0) : rcN e f e.ps.length 0 j c = [] := by
  obtain ⟨p, hp⟩ : ∃ p, e.ps[j]? = some p := ⟨_, List.getElem?_eq_getElem hj⟩
  rw [rcN_full hp, acc_nil_iff]
  intro k d _
  unfold rcE
  rw [if_neg]
  simp only [Bool.and_eq_true, decide_eq_true_eq, not_and]
  intro h1 h2
  omega
theorem rcN_le {e : Sy} {f : St} {j : Nat} {p : Pr} (hs : syOk e = true) (hp : e.ps[j]? = some p) (c : Int) : (rcN e f e.ps.length 0 j c).length ≤ 6 := by
  rw [rcN_full hp, ← acc_full]
  have h1 := acc_length (F := rcE f c j) (K := 1) (l := p.es) (fun k x _ => by unfold rcE; split <;> simp) p.es.length (Nat.le_refl _)
  have h2 := prOk_le (syOk_pr hs hp).1
  omega
theorem edS_stE {e : Sy} {f : St} {i k : Nat} {d : Ed} (hr : rdyB f i d = true) : edS e f i k d.sy = stE e f i k d := by
  unfold edS
  by_cases h0 : d.sy = 0
  · rw [if_pos h0, stE_one h0 hr]
  rw [if_neg h0]
  by_cases hn : d.sy < 0
  · rw [stE_none (.inl hn), acc_nil_iff]
    intro j p hp
    have hj : j < e.ps.length := (List.getElem?_eq_some_iff.1 hp).1
    rw [rcN_neg hj (by omega)]
    split <;> rfl
  · rw [stE_parts (by omega) hr]
    unfold parts
    rw [← acc_full, ← acc_full (ptP f d.sy i k)]
    refine acc_congr (fun j p hp => ?_) _ (Nat.le_refl _)
    unfold ptP
    by_cases hji : j = i
    · rw [if_pos hji, if_pos hji]
    · rw [if_neg hji, if_neg hji, rcN_full hp, ← acc_full (ptE f d.sy i k j), pt_map (show 0 < d.sy by omega) p.es _ (Nat.le_refl _), acc_full]

end Go.Proofs.Ytefpdkfogfhniaa
