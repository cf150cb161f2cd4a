/- Plain facts about values of expressions. -/
import Derived.Test.YtcipnecdeipeaaaDoorPlain
namespace Go.Proofs.YtcipnecdeipeaaaDoor

def tb (b : Bool) : Int := if b then 1 else 0

/-- The value of a root from those of its operands. -/
def op (k v : Int) (zs : List Int) (a b : Int) : Int :=
  if k = 1 then v else if k = 2 then zs.getD v.toNat 0 else if k = 3 then tb (decide (a = 0)) else if k = 4 then tb (decide (a ≠ 0) && decide (b ≠ 0)) else if k = 5 then tb (decide (a ≠ 0) || decide (b ≠ 0))
  else if k = 6 then tb (decide (a = b)) else if k = 7 then tb (decide (a < b)) else if k = 8 then (a + b) % 4 else (a - b + 4) % 4

/-- The value of a tree, down to a depth. -/
def ev (zs : List Int) : Nat → Ex → Int
  | 0, _ => 0
  | d + 1, .node k v kids => op k v zs (ev zs d (kids.getD 0 default)) (ev zs d (kids.getD 1 default))

section
variable (v : Int) (zs : List Int) (a c : Int)
theorem op3 : op 3 v zs a c = tb (a == 0) := rfl
theorem op4 : op 4 v zs a c = tb (a != 0 && c != 0) := by
  show tb (decide (a ≠ 0) && decide (c ≠ 0)) = _
  rw [show (decide (a ≠ 0) && decide (c ≠ 0)) = (a != 0 && c != 0) by rw [Bool.eq_iff_iff]; simp]
theorem op4_no (h : a = 0) : op 4 v zs a c = tb false := by simp [op, h]
theorem op5 : op 5 v zs a c = tb (a != 0 || c != 0) := by
  show tb (decide (a ≠ 0) || decide (c ≠ 0)) = _
  rw [show (decide (a ≠ 0) || decide (c ≠ 0)) = (a != 0 || c != 0) by rw [Bool.eq_iff_iff]; simp]
theorem op5_no (h : a = 0) : op 5 v zs a c = tb (c != 0) := by
  rw [op5, h]; rfl
theorem op5_yes (h : ¬ a = 0) : op 5 v zs a c = tb true := by simp [op, h]
theorem op6 : op 6 v zs a c = tb (a == c) := rfl
theorem op7 : op 7 v zs a c = tb (decide (a < c)) := rfl
theorem op8 : op 8 v zs a c = (a + c) % 4 := rfl
theorem op9 : op 9 v zs a c = (a - c + 3 + 1) % 4 := by simp only [op]; simp; omega
end

theorem tb_range (b : Bool) : 0 ≤ tb b ∧ tb b ≤ 3 := by cases b <;> simp [tb]

theorem op_range {k v : Int} {zs : List Int} {a b : Int} (hz : ∀ i, 0 ≤ zs.getD i 0 ∧ zs.getD i 0 ≤ 3) (hv : k = 1 → 0 ≤ v ∧ v ≤ 3) : 0 ≤ op k v zs a b ∧ op k v zs a b ≤ 3 := by
  unfold op
  split
  · exact hv ‹_›
  split
  · exact hz _
  split
  · exact tb_range _
  split
  · exact tb_range _
  split
  · exact tb_range _
  split
  · exact tb_range _
  split
  · exact tb_range _
  split <;> omega

theorem rootOk_parts {k v : Int} {n : Nat} (h : rootOk k v n = true) : (k = 1 ∧ 0 ≤ v ∧ v ≤ 3 ∧ n = 0) ∨ (k = 2 ∧ 0 ≤ v ∧ v ≤ 2 ∧ n = 0) ∨ (k = 3 ∧ v = 0 ∧ n = 1) ∨ (4 ≤ k ∧ k ≤ 9 ∧ v = 0 ∧ n = 2) := by
  unfold rootOk arity limit at h
  simp only [Bool.and_eq_true, decide_eq_true_eq] at h
  obtain ⟨h1, h2, h3⟩ := h
  by_cases k1 : k = 1
  · subst k1; simp at h1 h3; omega
  by_cases k2 : k = 2
  · subst k2; simp at h1 h3; omega
  by_cases k3 : k = 3
  · subst k3; simp at h1 h3; omega
  rw [if_neg (by omega), if_neg k3] at h1
  rw [if_neg k1, if_neg k2] at h3
  by_cases k4 : 4 ≤ k ∧ k ≤ 9
  · rw [if_pos k4] at h1; omega
  · rw [if_neg k4] at h1; omega

theorem shape_kid {d : Nat} {k v : Int} {kids : List Ex} (h : shape (d + 1) (.node k v kids) = true) {i : Nat} {x : Ex} (hx : kids[i]? = some x) : shape d x = true := by
  simp only [shape, Bool.and_eq_true, List.all_eq_true] at h
  exact h.2 x (List.mem_of_getElem? hx)

theorem shape_root {d : Nat} {k v : Int} {kids : List Ex} (h : shape (d + 1) (.node k v kids) = true) : rootOk k v kids.length = true := by
  simp only [shape, Bool.and_eq_true] at h
  exact h.1

theorem ev_range {zs : List Int} (hz : ∀ i, 0 ≤ zs.getD i 0 ∧ zs.getD i 0 ≤ 3) : ∀ (d : Nat) (e : Ex), shape d e = true → 0 ≤ ev zs d e ∧ ev zs d e ≤ 3 := by
  intro d e h
  cases d with
  | zero => simp [shape] at h
  | succ d =>
    obtain ⟨k, v, kids⟩ := e
    have hr := rootOk_parts (shape_root h)
    exact op_range hz (fun e => by omega)

theorem valsOk_parts {n : Nat} {zs : List Int} (h : (zs.all (fun z => decide (0 ≤ z) && decide (z ≤ 3)) && decide (n = 3)) = true) : n = 3 ∧ ∀ i, 0 ≤ zs.getD i 0 ∧ zs.getD i 0 ≤ 3 := by
  simp only [Bool.and_eq_true, decide_eq_true_eq, List.all_eq_true] at h
  refine ⟨h.2, fun i => ?_⟩
  by_cases hi : i < zs.length
  · have := h.1 (zs[i]) (List.getElem_mem hi)
    simpa [List.getD, hi] using this
  · simp [List.getD, hi]

end Go.Proofs.YtcipnecdeipeaaaDoor
