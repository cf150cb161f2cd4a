/- The union of two automata as plain data. -/
import Derived.Test.YtldnegacgjijlaaAuT
import Derived.Test.YtldnegacgjijlaaAvP
namespace Go.Proofs.Ytldnegacgjijlaa
open Go.RowKit

theorem au_parts {a : Au} (h : auOk a = true) : 1 ≤ a.acc.length ∧ a.acc.length ≤ 64 ∧ a.es.length ≤ 2048 ∧ asc a.acc.length a.ini = true ∧ trsOk a.acc.length a.es = true := by
  unfold auOk at h
  simp only [Bool.and_eq_true, decide_eq_true_eq] at h
  exact ⟨h.1.1, h.1.2, h.2.1, h.2.2.1, h.2.2.2⟩
theorem au_ini {a : Au} (h : auOk a = true) : a.ini.length ≤ 64 ∧ ∀ z ∈ a.ini, 0 ≤ z ∧ z ≤ 64 := by
  obtain ⟨h1, h2, _, h4, _⟩ := au_parts h
  refine ⟨?_, fun z hz => ?_⟩
  · have := asc_len h4 (by omega)
    omega
  · obtain ⟨i, hi⟩ := List.getElem?_of_mem hz
    have hl := (List.getElem?_eq_some_iff.1 hi).1
    have := asc_ge (fun q hq => asc_at h4 hq) i hl
    have hx : a.ini.getD i 0 = z := by simp [List.getD, hi]
    omega
theorem au_tr {a : Au} (h : auOk a = true) {e : Tr} (he : e ∈ a.es) : 0 ≤ e.fr ∧ e.fr ≤ 64 ∧ 0 ≤ e.tt ∧ e.tt ≤ 64 := by
  obtain ⟨h1, h2, _, _, h5⟩ := au_parts h
  unfold trsOk at h5
  have h6 := List.all_eq_true.1 h5 e he
  unfold trOk at h6
  simp only [Bool.and_eq_true, decide_eq_true_eq] at h6
  omega

/-- An edge moved by n states. -/
def shT (n : Int) (e : Tr) : Tr := ⟨e.fr + n, e.ca, e.va, e.tt + n⟩
/-- The two automata side by side. -/
def joinA (a b : Au) : Au := ⟨a.ini ++ b.ini.map (fun z => z + (a.acc.length : Int)), a.acc ++ b.acc, a.es ++ b.es.map (shT a.acc.length)⟩
def uaOk (a b : Au) : Bool := auOk a && (auOk b && auOk (joinA a b))
def uaOut (a b : Au) : Au := if uaOk a b then joinA a b else ⟨[], [], []⟩
theorem uaOut_no {a b : Au} (h : uaOk a b = false) : uaOut a b = ⟨[], [], []⟩ := by unfold uaOut; rw [h]; rfl
theorem uaOut_yes {a b : Au} (h : uaOk a b = true) : uaOut a b = joinA a b := by unfold uaOut; rw [h]; rfl
theorem uaOut_small (a b : Au) : (uaOut a b).ini.length ≤ 64 ∧ (uaOut a b).acc.length ≤ 64 ∧ (uaOut a b).es.length ≤ 2048 := by
  by_cases h : uaOk a b = true
  · rw [uaOut_yes h]
    unfold uaOk at h
    rw [Bool.and_eq_true, Bool.and_eq_true] at h
    obtain ⟨_, p2, p3, _⟩ := au_parts h.2.2
    exact ⟨(au_ini h.2.2).1, p2, p3⟩
  · rw [uaOut_no (by simpa using h)]
    exact ⟨Nat.zero_le _, Nat.zero_le _, Nat.zero_le _⟩
theorem uaOut_rg {a b : Au} (ha : ∀ e ∈ a.es, TrR e) (hb : ∀ e ∈ b.es, TrR e) : ∀ e ∈ (uaOut a b).es, TrR e := by
  by_cases h : uaOk a b = true
  · rw [uaOut_yes h]
    unfold uaOk at h
    rw [Bool.and_eq_true, Bool.and_eq_true] at h
    obtain ⟨_, p2, p3, _⟩ := au_parts h.1
    intro e he
    rcases List.mem_append.1 he with h1 | h1
    · exact ha e h1
    · obtain ⟨x, hx, rfl⟩ := List.mem_map.1 h1
      obtain ⟨r0, r1, r2, r3⟩ := hb x hx
      obtain ⟨q0, q1, q2, q3⟩ := au_tr h.2.1 hx
      refine ⟨?_, r1, r2, ?_⟩
      · show _ ≤ x.fr + (a.acc.length : Int) ∧ x.fr + (a.acc.length : Int) ≤ _; omega
      · show _ ≤ x.tt + (a.acc.length : Int) ∧ x.tt + (a.acc.length : Int) ≤ _; omega
  · rw [uaOut_no (by simpa using h)]
    intro e he
    cases he

end Go.Proofs.Ytldnegacgjijlaa
