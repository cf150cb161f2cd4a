/- Steps and receivers as plain data; a range over a method value. -/
import Derived.Test.YtefpdkfogfhniaaMo3Q
import Derived.Test.YtefpdkfogfhniaaSp3Q
import Derived.RangeFuncNested
import Derived.RangeFuncBound
import Derived.RangeFuncCalls
import Derived.RangeFuncLeaves
import Derived.OwnWalkIn
import Derived.TacticsInMore
import Derived.LoopNIn
import Derived.LoopIn
namespace Go.Proofs.Ytefpdkfogfhniaa
open Go.RowKit
attribute [local go_sem] Oper.semAt_some

theorem acc_nil_iff {X Y : Type} {F : Nat → X → List Y} {l : List X} : acc F l = [] ↔ ∀ (k : Nat) (x : X), l[k]? = some x → F k x = [] := by
  unfold acc
  rw [List.flatten_eq_nil_iff]
  constructor
  · intro h k x hx
    exact h _ (List.mem_map.2 ⟨(x, k), List.mem_zipIdx_iff_getElem?.2 hx, rfl⟩)
  · intro h y hy
    obtain ⟨⟨x, k⟩, hx, rfl⟩ := List.mem_map.1 hy
    exact h k x (List.mem_zipIdx_iff_getElem?.1 hx)
theorem rcN_full {e : Sy} {f : St} {j : Nat} {p : Pr} (hp : e.ps[j]? = some p) (c : Int) : rcN e f e.ps.length 0 j c = acc (rcE f c j) p.es := by
  have hj : j < e.ps.length := (List.getElem?_eq_some_iff.1 hp).1
  unfold rcN
  have e1 : ¬ ((j : Int) < 0) := by omega
  simp only [if_neg e1, Int.toNat_natCast, hp, if_pos hj]
theorem pt_rc {f : St} {sy : Int} {i k j k' : Nat} {d : Ed} (h : 0 < sy) : ptE f sy i k j k' d = [] ↔ rcE f sy j k' d = [] := by
  unfold ptE rcE
  by_cases h1 : d.sy = -sy
  · have h2 : d.sy < 0 := by omega
    have h3 : -d.sy = sy := by omega
    cases hr : rdyB f j d <;> simp [h1, h]
  · have h3 : ¬ (-d.sy = sy) := by omega
    simp [h1, h3]
theorem stE_nil {e : Sy} {f : St} {i k : Nat} {d : Ed} (h0 : d.sy ≠ 0) (h : ∀ j : Nat, j < e.ps.length → j ≠ i → rcN e f e.ps.length 0 j d.sy = []) : stE e f i k d = [] := by
  by_cases hn : d.sy < 0
  · exact stE_none (.inl hn)
  cases hr : rdyB f i d
  · exact stE_none (.inr hr)
  rw [stE_parts (by omega) hr]
  unfold parts
  rw [acc_nil_iff]
  intro j p hp
  have hj : j < e.ps.length := (List.getElem?_eq_some_iff.1 hp).1
  unfold ptP
  split
  · rfl
  · next hji =>
    have h1 := h j hj hji
    rw [rcN_full hp, acc_nil_iff] at h1
    rw [acc_nil_iff]
    intro k' d' hd'
    exact (pt_rc (by omega)).2 (h1 k' d' hd')
theorem stE_ne {e : Sy} {f : St} {i k : Nat} {d : Ed} (hr : rdyB f i d = true) (h : d.sy = 0 ∨ ∃ j : Nat, j < e.ps.length ∧ j ≠ i ∧ rcN e f e.ps.length 0 j d.sy ≠ []) : stE e f i k d ≠ [] := by
  rcases h with h | ⟨j, hj, hji, hne⟩
  · rw [stE_one h hr]
    simp
  · obtain ⟨p, hp⟩ : ∃ p, e.ps[j]? = some p := ⟨_, List.getElem?_eq_getElem hj⟩
    rw [rcN_full hp] at hne
    have hpos : 0 < d.sy := Classical.byContradiction fun hn => hne (acc_nil_iff.2 fun k' d' _ => by
      unfold rcE
      rw [if_neg]
      simp only [Bool.and_eq_true, decide_eq_true_eq, not_and]
      intro h1 h2
      omega)
    rw [stE_parts hpos hr]
    unfold parts
    intro hnil
    refine hne ?_
    have h1 := acc_nil_iff.1 hnil j p hp
    unfold ptP at h1
    rw [if_neg hji, acc_nil_iff] at h1
    exact acc_nil_iff.2 fun k' d' hd' => (pt_rc hpos).1 (h1 k' d' hd')

/-- A range over a method value: one argument bound ahead. -/
theorem wpIn_range_bound {P : Program} {F : Fence} {n : Nat} {g : Operand} {ps : Array Tmp} {assign body : Code} {Q : Exit → Act → World → Prop} {a : Act} {w : World} {gf : Nat} {m : Value} (hro : F.round = none) (hg : a.eval g = .func (.func gf) #[m] #[]) (hFg : F.fn gf) (eg : ∀ (args : Array Value) (w : World), (callFunc gf args).run P w = .ok (.enter gf args) w) (hn : F.depth.isSome = true → 1 ≤ n)
    (h : ∀ (fn : FuncId) (R0 : Loop), F.fn fn → R0 = { state := .ready, pending := none, fn := fn, tmps := a.tmps, params := ps, assign := assign, body := body, defers := w.heap.size } →
      CallsIn F (n - 1) P gf #[m, .func (.yield (w.heap.size + 1)) #[] #[]] ((w.alloc (.deferred (some []))).alloc (.loop R0)) (rangePost F n P (w.heap.size + 1) Q { a with defers := [{ target := .collected w.heap.size, args := #[] }] ++ a.defers })) :
    (Code.rangeFunc g ps assign body).wpIn F n P Q a w := by
  refine wpIn_rangeFunc ?_
  intro fn hfn
  rw [hro]
  obtain ⟨R0, hR0⟩ : ∃ R0 : Loop, R0 = { state := .ready, pending := none, fn := fn, tmps := a.tmps, params := ps, assign := assign, body := body, defers := w.heap.size } := ⟨_, rfl⟩
  refine ⟨w.heap.size + 1, [{ target := .collected w.heap.size, args := #[] }], (w.alloc (.deferred (some []))).alloc (.loop R0), { target := .fn (.func gf) #[], args := #[m, .func (.yield (w.heap.size + 1)) #[] #[]] }, (w.alloc (.deferred (some []))).alloc (.loop R0), gf, #[m, .func (.yield (w.heap.size + 1)) #[] #[]], (w.alloc (.deferred (some []))).alloc (.loop R0), ?_, ?_, ?_, ?_, hn, h fn R0 hfn hR0⟩
  · rw [hR0]
    exact run_enterLoop_outer _ _ _ _ _
  · simp only [resolve, hg]
    simp [go_sem]
  · intro f' hf'
    simp [Target.leads] at hf'
    subst hf'
    exact hFg
  · simp [invoke, go_sem, eg]

theorem steps_enters (args : Array Value) (w : World) : (callFunc 49 args).run Try.prog w = .ok (.enter 49 args) w := by
  have hn : (Try.f49.name == "runtime.NumGoroutine") = false := by kernel_rfl
  have h1 : Try.f49.name ≠ "runtime.NumGoroutine" := by simpa using hn
  have hb : ∃ c, Try.f49.body = some c := ⟨_, rfl⟩
  obtain ⟨c, hb⟩ := hb
  simp [callFunc, Try.func49, h1, hb, mark]

end Go.Proofs.Ytefpdkfogfhniaa
