/- Plain facts about expression trees: sizes, shapes and counts, with no word about the program; nothing is assumed. -/
import Derived.Below
namespace Go.Proofs.Ytldnegacgjijlaa

/-- An expression tree as plain data. -/
inductive Ex where
  | node (k v : Int) (kids : List Ex)

instance : Inhabited Ex := ⟨.node 0 0 []⟩

mutual
/-- How many nodes lie below the root. -/
def desc : Ex → Nat
  | .node _ _ kids => descL kids
def descL : List Ex → Nat
  | [] => 0
  | e :: r => 1 + desc e + descL r
end

theorem descL_append (a b : List Ex) : descL (a ++ b) = descL a + descL b := by
  induction a with
  | nil => simp [descL]
  | cons e r ih => simp [descL, ih]; omega

theorem descL_mem {e : Ex} {l : List Ex} (h : e ∈ l) : desc e < descL l := by
  induction l with
  | nil => cases h
  | cons x r ih =>
    rcases List.mem_cons.1 h with rfl | h
    · simp only [descL]; omega
    · have := ih h; simp only [descL]; omega

theorem descL_length (l : List Ex) : l.length ≤ descL l := by
  induction l with
  | nil => simp [descL]
  | cons x r ih => simp only [descL, List.length_cons]; omega

theorem descL_take_succ {l : List Ex} {i : Nat} {x : Ex} (h : l[i]? = some x) : descL (l.take (i + 1)) = descL (l.take i) + (1 + desc x) := by
  have hi := (List.getElem?_eq_some_iff.1 h).1
  rw [List.take_succ_eq_append_getElem hi, descL_append, (List.getElem?_eq_some_iff.1 h).2]
  simp [descL]

theorem descL_take_le (l : List Ex) (i : Nat) : descL (l.take i) ≤ descL l := by
  have h := descL_append (l.take i) (l.drop i)
  rw [List.take_append_drop] at h
  omega

theorem descL_take_len (l : List Ex) (i : Nat) : descL (l.take i) + (l.length - i) ≤ descL l := by
  have h := descL_append (l.take i) (l.drop i)
  have h2 := descL_length (l.drop i)
  rw [List.take_append_drop] at h
  rw [List.length_drop] at h2
  omega

/-- Induction over trees. -/
theorem Ex.ind {P : Ex → Prop} (h : ∀ k v kids, (∀ (i : Nat) (x : Ex), kids[i]? = some x → P x) → P (.node k v kids)) : ∀ e, P e := by
  have key : ∀ (N : Nat) (e : Ex), desc e < N → P e := by
    intro N
    induction N with
    | zero => intro e he; omega
    | succ N ih =>
      intro e he
      obtain ⟨k, v, kids⟩ := e
      refine h k v kids fun i x hx => ih x ?_
      have hm := descL_mem (List.mem_of_getElem? hx)
      simp only [desc] at he
      omega
  exact fun e => key _ e (Nat.lt_succ_self _)

/-- The number of operands of a kind, or -1. -/
def arity (k : Int) : Int := if k = 1 ∨ k = 2 then 0 else if k = 3 then 1 else if 4 ≤ k ∧ k ≤ 9 then 2 else -1

/-- The largest Value of a kind. -/
def limit (k : Int) : Int := if k = 1 then 3 else if k = 2 then 2 else 0

/-- Whether the root by itself is well formed. -/
def rootOk (k v : Int) (n : Nat) : Bool := decide ((n : Int) = arity k) && (decide (0 ≤ v) && decide (v ≤ limit k))

def shape : Nat → Ex → Bool
  | 0, _ => false
  | d + 1, .node k v kids => rootOk k v kids.length && kids.all (shape d)

def cnt : Nat → Ex → Nat
  | 0, _ => 1
  | d + 1, .node _ _ kids => 1 + (kids.map (cnt d)).sum

/-- The whole verdict. -/
def valid (e : Ex) : Bool := shape 6 e && decide (cnt 6 e ≤ 15)

theorem cnt_le (d : Nat) : ∀ e, cnt d e ≤ 1 + desc e := by
  induction d with
  | zero => intro e; simp only [cnt]; omega
  | succ d ih =>
    rintro ⟨k, v, kids⟩
    have : (kids.map (cnt d)).sum ≤ descL kids := by
      induction kids with
      | nil => simp [descL]
      | cons x r ihr => simp only [List.map_cons, List.sum_cons, descL]; have := ih x; omega
    simp only [cnt, desc]; omega

theorem cnt_pos (d : Nat) (e : Ex) : 1 ≤ cnt d e := by
  cases d with
  | zero => simp [cnt]
  | succ d => obtain ⟨k, v, kids⟩ := e; simp only [cnt]; omega

theorem sum_take_succ {f : Ex → Nat} {l : List Ex} {i : Nat} {x : Ex} (h : l[i]? = some x) : ((l.take (i + 1)).map f).sum = ((l.take i).map f).sum + f x := by
  have hi := (List.getElem?_eq_some_iff.1 h).1
  rw [List.take_succ_eq_append_getElem hi, (List.getElem?_eq_some_iff.1 h).2]
  simp

theorem sum_take_le (f : Ex → Nat) (l : List Ex) (i : Nat) : ((l.take i).map f).sum ≤ (l.map f).sum := by
  have h : (l.map f).sum = ((l.take i).map f).sum + ((l.drop i).map f).sum := by
    rw [← List.sum_append, ← List.map_append, List.take_append_drop]
  omega

theorem all_take_succ {f : Ex → Bool} {l : List Ex} {i : Nat} {x : Ex} (h : l[i]? = some x) : (l.take (i + 1)).all f = ((l.take i).all f && f x) := by
  have hi := (List.getElem?_eq_some_iff.1 h).1
  rw [List.take_succ_eq_append_getElem hi, (List.getElem?_eq_some_iff.1 h).2]
  simp

theorem all_false_of {f : Ex → Bool} {l : List Ex} {i : Nat} {x : Ex} (h : l[i]? = some x) (hf : f x = false) : l.all f = false := by
  rw [List.all_eq_false]
  exact ⟨x, List.mem_of_getElem? h, by simp [hf]⟩

end Go.Proofs.Ytldnegacgjijlaa
