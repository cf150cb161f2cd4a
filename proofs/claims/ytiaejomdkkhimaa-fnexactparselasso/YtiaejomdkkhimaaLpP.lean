/- What ParseLasso answers, as plain data. -/
import Derived.Test.YtiaejomdkkhimaaPd
import Derived.Test.YtiaejomdkkhimaaLvW
import Derived.Test.YtiaejomdkkhimaaStX
namespace Go.Proofs.Ytiaejomdkkhimaa
namespace La
open Go.RowKit

/-- The text ends with a closing bracket. -/
def endB (t : ByteArray) : Bool := decide (0 < t.size) && decide (t[t.size - 1]! = 41)
def chop (t : ByteArray) : ByteArray := t.extract 0 (t.size - 1)
def okL (s : ByteArray) : Bool := decide (cnt40 s s.size = 1) && (endB (cutB s) && laOk ⟨nums (cutA s), nums (chop (cutB s))⟩)
def stL (s : ByteArray) : St := if okL s then ⟨nums (cutA s), nums (chop (cutB s))⟩ else ⟨[], []⟩
def LpPost (s : ByteArray) (w : World) (e' : Ending) (w' : World) : Prop :=
  ∃ X Y : Value, e' = .returned (.tuple #[.agg #[X, Y], .bool (okL s)]) ∧ StR w' w.heap.size w'.heap.size (stL s) X Y ∧ Below w.heap.size w w'

theorem cut_of_first {s : ByteArray} {p : Nat} (h : First s p) : cutA s = s.extract 0 p ∧ cutB s = s.extract (p + 1) s.size ∧ cutF s = true := by
  have hf : firstIdx s 40 = p := by
    rcases first_cases s with ⟨_, h2⟩ | ⟨q, h1, h2⟩
    · exact absurd h.2.1 (h2 p h.1)
    · have : q = p := by
        rcases Nat.lt_trichotomy q p with a | a | a
        · exact absurd h2.2.1 (h.2.2 q a)
        · exact a
        · exact absurd h.2.1 (h2.2.2 p a)
      rw [h1, this]
  have hn : ¬ ((p : Int) = -1) := by omega
  refine ⟨?_, ?_, ?_⟩ <;> simp [cutA, cutB, cutF, hf, hn]
theorem first_of_cutF {s : ByteArray} (h : cutF s = true) : ∃ p, First s p := by
  rcases first_cases s with ⟨h1, _⟩ | ⟨p, _, h2⟩
  · simp [cutF, h1] at h
  · exact ⟨p, h2⟩
theorem none_of_cutF {s : ByteArray} (h : cutF s = false) : cnt40 s s.size = 0 := by
  rcases first_cases s with ⟨_, h2⟩ | ⟨p, _, h2⟩
  · exact cnt40_none _ h2
  · rw [(cut_of_first h2).2.2] at h; cases h
theorem cut_sizes (s : ByteArray) : (cutA s).size + (cutB s).size ≤ s.size := by
  rcases first_cases s with ⟨h1, _⟩ | ⟨p, _, h2⟩
  · have h0 : (⟨#[]⟩ : ByteArray).size = 0 := rfl
    simp [cutA, cutB, h1, h0]
  · rw [(cut_of_first h2).1, (cut_of_first h2).2.1, ByteArray.size_extract, ByteArray.size_extract]
    have := h2.1
    omega
theorem extract_get {s : ByteArray} {a k : Nat} (h : a + k < s.size) : (s.extract a s.size)[k]! = s[a + k]! := by
  have hk : k < (s.extract a s.size).size := by rw [ByteArray.size_extract]; omega
  rw [getElem!_pos _ k hk, getElem!_pos s (a + k) h, ByteArray.getElem_extract]
theorem chop_size (t : ByteArray) : (chop t).size = t.size - 1 := by unfold chop; rw [ByteArray.size_extract]; omega
theorem chop_get {t : ByteArray} {k : Nat} (h : k < t.size - 1) : (chop t)[k]! = t[k]! := by
  unfold chop
  have hk : k < (t.extract 0 (t.size - 1)).size := by rw [ByteArray.size_extract]; omega
  rw [getElem!_pos _ k hk, getElem!_pos t k (by omega), ByteArray.getElem_extract]
  congr 1
  omega
theorem cnt40_one {s : ByteArray} {p : Nat} (h : First s p) : ∀ j, p + 1 + j ≤ s.size → (∀ i, p < i → i < p + 1 + j → s[i]! ≠ 40) → cnt40 s (p + 1 + j) = 1 := by
  intro j
  induction j with
  | zero =>
    intro _ _
    show cnt40 s p + _ = 1
    rw [cnt40_none p h.2.2, if_pos h.2.1]
  | succ j ih =>
    intro hj hi
    show cnt40 s (p + 1 + j) + (if s[p + 1 + j]! = 40 then 1 else 0) = 1
    rw [ih (by omega) fun i a b => hi i a (by omega), if_neg (hi (p + 1 + j) (by omega) (by omega))]
theorem endB_parts {t : ByteArray} (h : endB t = true) : 0 < t.size ∧ t[t.size - 1]! = 41 := by
  unfold endB at h
  simp only [Bool.and_eq_true, decide_eq_true_eq] at h
  exact h
theorem lets_get {zs : List Int} (h : letsOk zs = true) {i : Nat} {z : Int} (hz : zs[i]? = some z) : 0 ≤ z := by
  unfold letsOk at h
  rw [List.all_eq_true] at h
  have := h z (List.mem_of_getElem? hz)
  unfold letOk at this
  simp only [Bool.and_eq_true, decide_eq_true_eq] at this
  exact this.1
theorem okL_no {s : ByteArray} (h : cnt40 s s.size ≠ 1) : okL s = false := by unfold okL; rw [decide_eq_false h]; rfl
theorem okL_one {s : ByteArray} (h : cnt40 s s.size = 1) : okL s = (endB (cutB s) && laOk ⟨nums (cutA s), nums (chop (cutB s))⟩) := by unfold okL; rw [decide_eq_true h]; rfl
theorem okL_end {s : ByteArray} (h : endB (cutB s) = false) : okL s = false := by unfold okL; rw [h, Bool.false_and, Bool.and_false]
theorem okL_found {s : ByteArray} (hf : cutF s = true) (he : endB (cutB s) = true) : okL s = laOk ⟨nums (cutA s), nums (chop (cutB s))⟩ := by
  cases hc : laOk ⟨nums (cutA s), nums (chop (cutB s))⟩ with
  | false => unfold okL; rw [hc, Bool.and_false, Bool.and_false]
  | true =>
    obtain ⟨p, hp⟩ := first_of_cutF hf
    obtain ⟨e1, e2⟩ := endB_parts he
    have hB := (cut_of_first hp).2.1
    have hBs : (cutB s).size = s.size - (p + 1) := by rw [hB, ByteArray.size_extract]; omega
    have : cnt40 s s.size = 1 := by
      have h1 := cnt40_one hp (s.size - (p + 1)) (by have := hp.1; omega) (fun i hi1 hi2 h40 => by
        have hi : i < s.size := by omega
        have hg : (cutB s)[i - (p + 1)]! = s[i]! := by
          rw [hB, extract_get (by omega), show p + 1 + (i - (p + 1)) = i by omega]
        by_cases hl : i - (p + 1) = (cutB s).size - 1
        · rw [hl, e2, h40] at hg
          revert hg
          decide
        · have hk : i - (p + 1) < (chop (cutB s)).size := by rw [chop_size]; omega
          have hv := lets_get (laOk_parts hc).2.1 (nums_get hk)
          unfold numAt at hv
          rw [chop_get (by rw [chop_size] at hk; exact hk), hg, h40] at hv
          revert hv
          decide)
      rw [show p + 1 + (s.size - (p + 1)) = s.size by have := hp.1; omega] at h1
      exact h1
    rw [okL_one this, he, hc]
    rfl
theorem okL_len {s : ByteArray} (h : okL s = true) : s.size ≤ 162 := by
  have hc : cnt40 s s.size = 1 := by
    by_cases e : cnt40 s s.size = 1
    · exact e
    · rw [okL_no e] at h; cases h
  rw [okL_one hc, Bool.and_eq_true] at h
  obtain ⟨he, ho⟩ := h
  have hf : cutF s = true := by
    cases hx : cutF s with
    | true => rfl
    | false => have := none_of_cutF hx; omega
  obtain ⟨p, hp⟩ := first_of_cutF hf
  obtain ⟨_, _, q1, q2, q3⟩ := laOk_parts ho
  dsimp only at q1 q3
  rw [nums_length, (cut_of_first hp).1, ByteArray.size_extract] at q1
  rw [nums_length, chop_size, (cut_of_first hp).2.1, ByteArray.size_extract] at q3
  have := hp.1
  omega
theorem stL_yes {s : ByteArray} (h : okL s = true) : stL s = ⟨nums (cutA s), nums (chop (cutB s))⟩ := by unfold stL; rw [h]; rfl
theorem stL_no {s : ByteArray} (h : okL s = false) : stL s = ⟨[], []⟩ := by unfold stL; rw [h]; rfl
theorem stL_le {s : ByteArray} (h : s.size ≤ 1048576) : (stL s).locs.length ≤ 1048576 ∧ (stL s).vals.length ≤ 1048576 := by
  have h1 := cut_sizes s
  unfold stL
  split
  · refine ⟨?_, ?_⟩
    · show (nums (cutA s)).length ≤ _; rw [nums_length]; omega
    · show (nums (chop (cutB s))).length ≤ _; rw [nums_length, chop_size]; omega
  · exact ⟨Nat.zero_le _, Nat.zero_le _⟩

end La
end Go.Proofs.Ytiaejomdkkhimaa
