/- The steps of a system, as plain data. -/
import Derived.Test.YtefpdkfogfhniaaStVQ
import Derived.Test.YtefpdkfogfhniaaE1Q
namespace Go.Proofs.Ytefpdkfogfhniaa
open Go.RowKit

/-- A step as plain data. -/
structure Stp where
  p : Int
  e : Int
  pa : Int
  pe : Int

/-- What each element brings, with its place, one behind the other. -/
def acc {X Y : Type} (F : Nat → X → List Y) (l : List X) : List Y := (l.zipIdx.map fun x => F x.2 x.1).flatten
theorem acc_nil {X Y : Type} (F : Nat → X → List Y) : acc F [] = [] := rfl
theorem acc_take_succ {X Y : Type} {F : Nat → X → List Y} {l : List X} {k : Nat} {x : X} (h : l[k]? = some x) : acc F (l.take (k + 1)) = acc F (l.take k) ++ F k x := by
  have hi := (List.getElem?_eq_some_iff.1 h).1
  unfold acc
  rw [List.take_succ_eq_append_getElem hi, (List.getElem?_eq_some_iff.1 h).2, List.zipIdx_append, List.map_append, List.flatten_append]
  simp [List.length_take, Nat.min_eq_left (Nat.le_of_lt hi)]
theorem acc_length {X Y : Type} {F : Nat → X → List Y} {K : Nat} {l : List X} (h : ∀ (k : Nat) (x : X), l[k]? = some x → (F k x).length ≤ K) : ∀ k, k ≤ l.length → (acc F (l.take k)).length ≤ K * k := by
  intro k
  induction k with
  | zero => intro _; simp [acc]
  | succ k ih =>
    intro hk
    have hx : l[k]? = some l[k] := List.getElem?_eq_getElem (by omega)
    rw [acc_take_succ hx, List.length_append, Nat.mul_succ]
    have := ih (by omega)
    have := h k _ hx
    omega
theorem acc_full {X Y : Type} (F : Nat → X → List Y) (l : List X) : acc F (l.take l.length) = acc F l := by rw [List.take_length]

/-- An edge of process i is ready in the state. -/
def rdyB (f : St) (i : Nat) (d : Ed) : Bool := decide (d.fr = f.locs.getD i 0) && decide (ev f.vals 6 d.g ≠ 0)
def ptE (f : St) (ch : Int) (i0 k0 i k : Nat) (d : Ed) : List Stp := if d.sy = -ch && rdyB f i d then [⟨i0, k0, i, k⟩] else []
def ptP (f : St) (ch : Int) (i0 k0 i : Nat) (p : Pr) : List Stp := if i = i0 then [] else acc (ptE f ch i0 k0 i) p.es
/-- The steps in which a sender is taken. -/
def parts (e : Sy) (f : St) (ch : Int) (i0 k0 : Nat) : List Stp := acc (ptP f ch i0 k0) e.ps
def stE (e : Sy) (f : St) (i k : Nat) (d : Ed) : List Stp := if d.sy < 0 || !rdyB f i d then [] else if d.sy = 0 then [⟨i, k, -1, -1⟩] else parts e f d.sy i k
def stPr (e : Sy) (f : St) (i : Nat) (p : Pr) : List Stp := acc (stE e f i) p.es
/-- The enabled steps. -/
def steps (e : Sy) (f : St) : List Stp := acc (stPr e f) e.ps

theorem stOk_sy {e : Sy} {f : St} (h : stOk e f = true) : syOk e = true ∧ f.locs.length = e.ps.length ∧ valsOk f.vals = true := by
  unfold stOk at h
  simp only [Bool.and_eq_true, decide_eq_true_eq] at h
  exact ⟨h.1, h.2.1, h.2.2.1⟩
theorem syOk_pr {s : Sy} {k : Nat} {x : Pr} (h : syOk s = true) (hx : s.ps[k]? = some x) : prOk x = true ∧ s.ps.length ≤ 3 := by
  unfold syOk at h
  simp only [Bool.and_eq_true, List.all_eq_true, decide_eq_true_eq] at h
  exact ⟨h.1 x (List.mem_of_getElem? hx), h.2.2.2⟩
theorem syOk_le {s : Sy} (h : syOk s = true) : s.ps.length ≤ 3 := by
  unfold syOk at h
  simp only [Bool.and_eq_true, decide_eq_true_eq] at h
  exact h.2.2.2
theorem prOk_le {p : Pr} (h : prOk p = true) : p.es.length ≤ 6 := by
  unfold prOk at h
  simp only [Bool.and_eq_true, decide_eq_true_eq] at h
  exact h.2.2.2
theorem prOk_edge {p : Pr} {k : Nat} {d : Ed} (h : prOk p = true) (hd : p.es[k]? = some d) : valid d.g = true ∧ -2 ≤ d.sy ∧ d.sy ≤ 2 := by
  unfold prOk at h
  simp only [Bool.and_eq_true, List.all_eq_true] at h
  have h1 := h.1 d (List.mem_of_getElem? hd)
  unfold edOk actOk at h1
  simp only [Bool.and_eq_true, decide_eq_true_eq] at h1
  exact ⟨h1.2.2.1, h1.2.2.2.2.1, h1.2.2.2.2.2⟩
theorem ptE_le (f : St) (ch : Int) (i0 k0 i k : Nat) (d : Ed) : (ptE f ch i0 k0 i k d).length ≤ 1 := by unfold ptE; split <;> simp
theorem ptP_le {f : St} {ch : Int} {i0 k0 i : Nat} {p : Pr} (h : prOk p = true) : (ptP f ch i0 k0 i p).length ≤ 6 := by
  unfold ptP
  split
  · simp
  · have h1 := acc_length (F := ptE f ch i0 k0 i) (K := 1) (l := p.es) (fun k x _ => ptE_le f ch i0 k0 i k x) p.es.length (Nat.le_refl _)
    rw [acc_full] at h1
    have := prOk_le h
    omega
theorem parts_le {e : Sy} {f : St} {ch : Int} {i0 k0 : Nat} (h : syOk e = true) : (parts e f ch i0 k0).length ≤ 18 := by
  have h1 := acc_length (F := ptP f ch i0 k0) (K := 6) (l := e.ps) (fun k x hx => ptP_le (syOk_pr h hx).1) e.ps.length (Nat.le_refl _)
  rw [acc_full] at h1
  have := syOk_le h
  unfold parts
  omega
theorem stE_le {e : Sy} {f : St} {i k : Nat} {d : Ed} (h : syOk e = true) : (stE e f i k d).length ≤ 18 := by
  unfold stE
  split
  · simp
  split
  · simp
  · exact parts_le h
theorem stPr_le {e : Sy} {f : St} {i : Nat} {p : Pr} (h : syOk e = true) (hp : prOk p = true) : (stPr e f i p).length ≤ 108 := by
  have h1 := acc_length (F := stE e f i) (K := 18) (l := p.es) (fun k x _ => stE_le h) p.es.length (Nat.le_refl _)
  rw [acc_full] at h1
  have := prOk_le hp
  unfold stPr
  omega

/-- The cells of steps. -/
def cells4 (s : Stp) : List Value := [.int .i64 s.p, .int .i64 s.e, .int .i64 s.pa, .int .i64 s.pe]
def cellsS (l : List Stp) : List Value := l.flatMap cells4
theorem cellsS_append (a b : List Stp) : cellsS (a ++ b) = cellsS a ++ cellsS b := by simp [cellsS]
theorem cellsS_length (l : List Stp) : (cellsS l).length = l.length * 4 := by
  induction l with
  | nil => rfl
  | cons a r ih => simp only [cellsS, List.flatMap_cons, List.length_append, List.length_cons] at ih ⊢; rw [ih]; simp [cells4]; omega

/-- What lies in memory when a system and a state of it are handed over. -/
structure Have (e : Sy) (C : Nat → Value) (f : St) (D : Nat → Value) (w : World) : Prop where
  sy : Lay.sy.lies w w.heap.size e C
  st : Lay.sta.lies w w.heap.size f D
  ok : stOk e f = true
theorem Have.later {e : Sy} {C : Nat → Value} {f : St} {D : Nat → Value} {w w' : World} (h : Have e C f D w) (hb : Below w.heap.size w w') : Have e C f D w' := ⟨Lay.sy.later h.sy hb hb.size, Lay.sta.later h.st hb hb.size, h.ok⟩

end Go.Proofs.Ytefpdkfogfhniaa
