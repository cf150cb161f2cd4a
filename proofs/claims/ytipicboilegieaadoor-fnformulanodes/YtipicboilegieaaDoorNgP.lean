/- Negated formulas as plain data; trees with one more node above them. Nothing is assumed. -/
import Derived.Test.YtipicboilegieaaDoorPlainF
import Derived.Test.YtipicboilegieaaDoorT1F
namespace Go.Proofs.YtipicboilegieaaDoor
open Go.RowKit

/-- The zero value. -/
def zeroE : Ex := .node 0 0 []
/-- The negation. -/
def fNot (e : Ex) : Ex := .node 3 0 [e]
/-- The formula itself, unless it is beyond the limits. -/
def onlyOut (e : Ex) : Ex := if fValid e then e else zeroE

theorem desc_fNot (e : Ex) : desc (fNot e) = 1 + desc e := by simp [fNot, desc, descL]

def negOk : Ex → Bool
  | .node k v kids => fValid (.node k v kids) && (decide (k = 3) || fValid (fNot (.node k v kids)))
def negOut : Ex → Ex
  | .node k v kids => if fValid (.node k v kids) then (if k = 3 then kids.getD 0 default else onlyOut (fNot (.node k v kids))) else zeroE

theorem fRoot_parts {k v : Int} {n : Nat} (h : fRoot k v n = true) : (n : Int) = fArity k ∧ 0 ≤ v ∧ v ≤ fLimit k := by
  unfold fRoot at h
  simp only [Bool.and_eq_true, decide_eq_true_eq] at h
  exact h

theorem fShape_root {d : Nat} {k v : Int} {kids : List Ex} (h : fShape (d + 1) (.node k v kids) = true) : fRoot k v kids.length = true := by
  simp only [fShape, Bool.and_eq_true] at h
  exact h.1
theorem fShape_kid {d : Nat} {k v : Int} {kids : List Ex} (h : fShape (d + 1) (.node k v kids) = true) {i : Nat} {x : Ex} (hx : kids[i]? = some x) : fShape d x = true := by
  simp only [fShape, Bool.and_eq_true, List.all_eq_true] at h
  exact h.2 x (List.mem_of_getElem? hx)

theorem cnt_fShape : ∀ (d : Nat) (e : Ex), fShape d e = true → cnt d e = 1 + desc e := by
  intro d
  induction d with
  | zero => intro e h; simp [fShape] at h
  | succ d ih =>
    rintro ⟨k, v, kids⟩ h
    have hk : ∀ x, x ∈ kids → fShape d x = true := by
      simp only [fShape, Bool.and_eq_true, List.all_eq_true] at h
      exact h.2
    have hs : ∀ l : List Ex, (∀ x, x ∈ l → fShape d x = true) → (l.map (cnt d)).sum = descL l := by
      intro l
      induction l with
      | nil => intro _; simp [descL]
      | cons a r ihr =>
        intro hl
        have h1 := ih a (hl a List.mem_cons_self)
        have h2 := ihr fun x hx => hl x (List.mem_cons_of_mem _ hx)
        simp only [List.map_cons, List.sum_cons, descL]
        omega
    simp only [cnt, desc]
    rw [hs kids hk]

theorem desc_valid {e : Ex} (h : true = fValid e) : desc e ≤ 11 := by
  have h1 := cnt_fShape 6 e (fShape_of_valid h)
  unfold fValid at h
  have h2 : cnt 6 e ≤ 12 := by
    have := (Bool.and_eq_true _ _ ▸ h.symm : _ ∧ _).2
    simpa using this
  omega

theorem desc_onlyOut (e : Ex) : desc (onlyOut e) ≤ 11 := by
  unfold onlyOut
  by_cases h : fValid e = true
  · rw [if_pos h]; exact desc_valid h.symm
  · rw [if_neg h]; simp [zeroE, desc, descL]

theorem fValid_three {v : Int} {kids : List Ex} (h : true = fValid (.node 3 v kids)) : ∃ x, kids = [x] := by
  have h1 := (fRoot_parts (fShape_root (d := 5) (fShape_of_valid h))).1
  have h2 : fArity 3 = 1 := rfl
  rw [h2] at h1
  match kids, h1 with
  | [x], _ => exact ⟨x, rfl⟩

theorem SepF.zero (w : World) (lo hi : Nat) : SepF w lo hi zeroE (.int .i64 0) (.int .i64 0) (.slice none 0 0) := SepF.leaf w lo hi 0 0 none 0

/-- One node above a tree, its row behind the tree's. -/
theorem SepF.above {w : World} {lo g : Nat} {e : Ex} {c0 c1 c2 : Value} (h : SepF w lo g e c0 c1 c2) (hlo : lo ≤ g) (hr : Row w g 25 #[c0, c1, c2]) (k v : Int) (cap : Nat) :
    SepF w lo w.heap.size (.node k v [e]) (.int .i64 k) (.int .i64 v) (.slice (some ⟨g, 0, none⟩) 1 cap) := by
  have hl := hr.lt
  refine .mk lo w.heap.size k v [e] _ cap g #[c0, c1, c2] (fun _ => c0) (fun _ => c1) (fun _ => c2) (fun i => if i = 0 then lo else g) (by unfold maxLen; simp) (fun i x hx => ⟨rfl, hlo, hl, .inr ?_, ?_, ?_, hr⟩) (fun i x hx => ?_) (fun i x hx => ?_) (fun i x hx => ?_) (fun i hi => ?_) (fun i x hx => ?_)
  · simp
  · simp
  · simp; omega
  · have hi : i = 0 := by have := (List.getElem?_eq_some_iff.1 hx).1; simpa using this
    subst hi; rfl
  · have hi : i = 0 := by have := (List.getElem?_eq_some_iff.1 hx).1; simpa using this
    subst hi; rfl
  · have hi : i = 0 := by have := (List.getElem?_eq_some_iff.1 hx).1; simpa using this
    subst hi; rfl
  · have hi : i = 0 := by simpa using hi
    subst hi; simp; omega
  · have hi : i = 0 := by have := (List.getElem?_eq_some_iff.1 hx).1; simpa using this
    subst hi
    obtain rfl : e = x := by simpa using hx
    simpa using h

theorem Own.aboveF {w : World} {lo g : Nat} {e : Ex} {c0 c1 c2 : Value} (h : Own w 25 lo w.heap.size e c0 c1 c2) (hlo : lo ≤ g) (hr : Row w g 25 #[c0, c1, c2]) (k v : Int) (cap : Nat) :
    Own w 25 lo w.heap.size (.node k v [e]) (.int .i64 k) (.int .i64 v) (.slice (some ⟨g, 0, none⟩) 1 cap) := by
  refine .mk k v [e] _ cap g #[c0, c1, c2] (fun _ => c0) (fun _ => c1) (fun _ => c2) (by unfold maxLen; simp) (fun i x hx => ⟨rfl, hlo, hr.lt, hr⟩) (fun i x hx => ?_) (fun i x hx => ?_) (fun i x hx => ?_) (fun i x hx => ?_)
  · have hi : i = 0 := by have := (List.getElem?_eq_some_iff.1 hx).1; simpa using this
    subst hi; rfl
  · have hi : i = 0 := by have := (List.getElem?_eq_some_iff.1 hx).1; simpa using this
    subst hi; rfl
  · have hi : i = 0 := by have := (List.getElem?_eq_some_iff.1 hx).1; simpa using this
    subst hi; rfl
  · have hi : i = 0 := by have := (List.getElem?_eq_some_iff.1 hx).1; simpa using this
    subst hi
    obtain rfl : e = x := by simpa using hx
    exact h

/-- What a function leaves that answers a formula and whether there is one. -/
def FbPost (lo : Nat) (T : Ex) (ok : Bool) (w : World) (e' : Ending) (w' : World) : Prop :=
  ∃ (x0 x1 : Int) (xa : Option Addr) (xl xc : Nat), e' = .returned (.tuple #[.agg #[.int .i64 x0, .int .i64 x1, .slice xa xl xc], .bool ok]) ∧ SepF w' lo w'.heap.size T (.int .i64 x0) (.int .i64 x1) (.slice xa xl xc) ∧ Below w.heap.size w w'
def ObPost (T : Ex) (ok : Bool) (w : World) (e' : Ending) (w' : World) : Prop :=
  ∃ (x0 x1 : Int) (xa : Option Addr) (xl xc : Nat), e' = .returned (.tuple #[.agg #[.int .i64 x0, .int .i64 x1, .slice xa xl xc], .bool ok]) ∧ Own w' 25 w.heap.size w'.heap.size T (.int .i64 x0) (.int .i64 x1) (.slice xa xl xc) ∧ Below w.heap.size w w'

end Go.Proofs.YtipicboilegieaaDoor
