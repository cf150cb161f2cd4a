/- Equality of trees as plain data. Nothing is assumed. -/
import Derived.Test.YtgdhmdhbpakahaaPlain
namespace Go.Proofs.Ytgdhmdhbpakahaa

mutual
/-- Whether two trees are equal. -/
def sameE : Ex → Ex → Bool
  | .node k v ks, .node k' v' ks' => decide (k = k') && (decide (v = v') && sameL ks ks')
def sameL : List Ex → List Ex → Bool
  | [], [] => true
  | a :: r, b :: r' => sameE a b && sameL r r'
  | [], _ :: _ => false
  | _ :: _, [] => false
end

theorem sameL_len : ∀ {a b : List Ex}, sameL a b = true → a.length = b.length
  | [], [], _ => rfl
  | a :: r, b :: r', h => by
    simp only [sameL, Bool.and_eq_true] at h
    simp [sameL_len h.2]
  | [], _ :: _, h => by simp [sameL] at h
  | _ :: _, [], h => by simp [sameL] at h

theorem sameL_ne {a b : List Ex} (h : a.length ≠ b.length) : sameL a b = false := by
  cases hs : sameL a b
  · rfl
  · exact absurd (sameL_len hs) h

/-- The pairs, one by one. -/
theorem sameL_zip : ∀ {a b : List Ex}, a.length = b.length → sameL a b = (a.zip b).all fun p => sameE p.1 p.2
  | [], [], _ => rfl
  | a :: r, b :: r', h => by
    simp only [sameL, List.zip_cons_cons, List.all_cons]
    rw [sameL_zip (by simpa using h)]
  | [], _ :: _, h => by simp at h
  | _ :: _, [], h => by simp at h

theorem sameE_node {k v k' v' : Int} {ks ks' : List Ex} (h : k = k') (h2 : v = v') (h3 : ks.length = ks'.length) : sameE (.node k v ks) (.node k' v' ks') = (ks.zip ks').all fun p => sameE p.1 p.2 := by
  simp only [sameE, h, h2, sameL_zip h3]
  simp
theorem sameE_kind {k v k' v' : Int} {ks ks' : List Ex} (h : k ≠ k') : sameE (.node k v ks) (.node k' v' ks') = false := by
  simp [sameE, h]
theorem sameE_value {k v k' v' : Int} {ks ks' : List Ex} (h : v ≠ v') : sameE (.node k v ks) (.node k' v' ks') = false := by
  simp [sameE, h]
theorem sameE_len {k v k' v' : Int} {ks ks' : List Ex} (h : ks.length ≠ ks'.length) : sameE (.node k v ks) (.node k' v' ks') = false := by
  simp [sameE, sameL_ne h]
theorem sameE_label {k v : Int} {ks ks' : List Ex} : sameE (.node k v ks) (.node k v ks') = sameL ks ks' := by
  simp [sameE]

theorem zip_get {α β : Type} {a : List α} {b : List β} {i : Nat} {x : α} {y : β} (hx : a[i]? = some x) (hy : b[i]? = some y) : (a.zip b)[i]? = some (x, y) := by
  rw [List.getElem?_zip_eq_some]
  exact ⟨hx, hy⟩
theorem allp_take_succ {α : Type} {f : α → Bool} {l : List α} {i : Nat} {x : α} (h : l[i]? = some x) : (l.take (i + 1)).all f = ((l.take i).all f && f x) := by
  have hi := (List.getElem?_eq_some_iff.1 h).1
  rw [List.take_succ_eq_append_getElem hi, (List.getElem?_eq_some_iff.1 h).2]
  simp
theorem allp_false_of {α : Type} {f : α → Bool} {l : List α} {i : Nat} {x : α} (h : l[i]? = some x) (hf : f x = false) : l.all f = false := by
  rw [List.all_eq_false]
  exact ⟨x, List.mem_of_getElem? h, by simp [hf]⟩

end Go.Proofs.Ytgdhmdhbpakahaa
