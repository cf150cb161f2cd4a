/- A line of words in a text, as plain data. -/
import Derived.Test.YtiikphdgnhajeaaDoorZp
namespace Go.Proofs.YtiikphdgnhajeaaDoor
open Go.RowKit

/-- The text begins with a line of this word and these fields; so much is left behind it. -/
def DecP (rest word : ByteArray) (lo hi : Nat) (ps : List (List UInt8)) (after : List UInt8) : Prop :=
  rest.data.toList = joinL (word.data.toList :: ps) ++ 10 :: after ∧ (lo ≤ ps.length ∧ ps.length ≤ hi) ∧ ∀ p ∈ ps, (32 : UInt8) ∉ p ∧ (10 : UInt8) ∉ p
def Wd (word : ByteArray) : Prop := (32 : UInt8) ∉ word.data.toList ∧ (10 : UInt8) ∉ word.data.toList

theorem joinL_mem {c : UInt8} (hc : c ≠ 32) : ∀ (ps : List (List UInt8)), (∀ p ∈ ps, c ∉ p) → c ∉ joinL ps := by
  intro ps
  induction ps with
  | nil => intro _; simp [joinL]
  | cons p r ih =>
    intro h
    cases r with
    | nil => exact h p List.mem_cons_self
    | cons q r =>
      show c ∉ p ++ 32 :: joinL (q :: r)
      rw [List.mem_append, List.mem_cons]
      rintro (h1 | h1 | h1)
      · exact h p List.mem_cons_self h1
      · exact hc h1
      · exact ih (fun x hx => h x (List.mem_cons_of_mem _ hx)) h1
theorem joinL_len : ∀ (ps : List (List UInt8)), (joinL ps).length + 1 = (ps.map List.length).sum + ps.length ∨ ps = [] := by
  intro ps
  induction ps with
  | nil => right; rfl
  | cons p r ih =>
    left
    cases r with
    | nil => simp [joinL]
    | cons q r =>
      rcases ih with ih | ih
      · show (p ++ 32 :: joinL (q :: r)).length + 1 = _
        rw [List.length_append, List.length_cons, List.map_cons, List.sum_cons, List.length_cons]
        omega
      · cases ih
theorem dec_cut {rest word : ByteArray} {lo hi : Nat} {ps : List (List UInt8)} {after : List UInt8} (hw : Wd word) (h : DecP rest word lo hi ps after) : Lib.cut rest.data.toList [10] = (joinL (word.data.toList :: ps), after, true) := by
  rw [h.1]
  refine cut_hit (joinL_mem (by decide) _ fun p hp => ?_)
  rw [List.mem_cons] at hp
  rcases hp with rfl | hp
  · exact hw.2
  · exact (h.2.2 p hp).2
theorem dec_parts {rest word : ByteArray} {lo hi : Nat} {ps : List (List UInt8)} {after : List UInt8} (hw : Wd word) (h : DecP rest word lo hi ps after) (line : ByteArray) (hl : line.data.toList = (Lib.cut rest.data.toList [10]).1) :
    (Lib.splitB spB 0 (min (hi + 2) (line.size + 1) - 1) line).map (fun b => b.data.toList) = word.data.toList :: ps := by
  rw [dec_cut hw h] at hl
  refine split_join _ (by simp) (fun p hp => ?_) _ _ hl ?_
  · rw [List.mem_cons] at hp
    rcases hp with rfl | hp
    · exact hw.1
    · exact (h.2.2 p hp).1
  · have h1 := h.2.1.2
    have h2 : line.size = (joinL (word.data.toList :: ps)).length := by
      show line.data.toList.length = _
      rw [hl]
    have h3 := joinL_len (word.data.toList :: ps)
    rcases h3 with h3 | h3
    · simp only [List.length_cons] at h3 ⊢
      omega
    · cases h3
theorem parts_dec {rest word : ByteArray} {lo hi : Nat} {ps : List ByteArray} (line : ByteArray) (hl : line.data.toList = (Lib.cut rest.data.toList [10]).1) (hf : (Lib.cut rest.data.toList [10]).2.2 = true)
    (hp : Lib.splitB spB 0 (min (hi + 2) (line.size + 1) - 1) line = word :: ps) (h0 : lo ≤ ps.length) (h1 : ps.length ≤ hi) : DecP rest word lo hi (ps.map fun b => b.data.toList) (Lib.cut rest.data.toList [10]).2.1 := by
  obtain ⟨i1, i2, i3⟩ := split_some (min (hi + 2) (line.size + 1) - 1) line
  obtain ⟨c1, c2⟩ := cut_found hf
  rw [hp] at i1 i3
  rw [List.map_cons] at i1
  have hsp : ∀ p ∈ word :: ps, (32 : UInt8) ∉ p.data.toList := by
    by_cases hc : (word :: ps).length ≤ min (hi + 2) (line.size + 1) - 1
    · exact i3 hc
    · intro p hpm hm
      have h3 := joinL_len (word.data.toList :: ps.map fun b => b.data.toList)
      rcases h3 with h3 | h3
      · rw [i1] at h3
        have h4 : line.data.toList.length = line.size := rfl
        simp only [List.length_cons, List.length_map] at h3 hc
        have h5 : ((word.data.toList :: ps.map fun b => b.data.toList).map List.length).sum = 0 := by omega
        have h6 : p.data.toList.length = 0 := by
          have h7 : p.data.toList.length ∈ (word.data.toList :: ps.map fun b => b.data.toList).map List.length := by
            rw [List.mem_map]
            refine ⟨p.data.toList, ?_, rfl⟩
            rw [List.mem_cons] at hpm ⊢
            rcases hpm with rfl | hpm
            · left; rfl
            · right; exact List.mem_map.2 ⟨p, hpm, rfl⟩
          exact (List.sum_eq_zero_iff_forall_eq_nat.1 h5) _ h7
        rw [List.length_eq_zero_iff.1 h6] at hm
        cases hm
      · cases h3
  refine ⟨?_, ⟨by rw [List.length_map]; exact h0, by rw [List.length_map]; exact h1⟩, fun p hpm => ?_⟩
  · rw [i1, hl]
    exact c2
  · rw [List.mem_map] at hpm
    obtain ⟨b, hb, rfl⟩ := hpm
    refine ⟨hsp b (List.mem_cons_of_mem _ hb), fun hm => ?_⟩
    apply c1
    rw [← hl, ← i1]
    clear i1 i2 i3 hp hsp
    have key : ∀ (qs : List (List UInt8)), (∃ q ∈ qs, (10 : UInt8) ∈ q) → (10 : UInt8) ∈ joinL qs := by
      intro qs
      induction qs with
      | nil => rintro ⟨q, hq, _⟩; cases hq
      | cons q r ih =>
        rintro ⟨x, hx, hx10⟩
        cases r with
        | nil =>
          simp only [List.mem_singleton] at hx
          subst hx
          exact hx10
        | cons y r =>
          show (10 : UInt8) ∈ q ++ 32 :: joinL (y :: r)
          rw [List.mem_append, List.mem_cons]
          rw [List.mem_cons] at hx
          rcases hx with rfl | hx
          · exact .inl hx10
          · exact .inr (.inr (ih ⟨x, hx, hx10⟩))
    exact key _ ⟨b.data.toList, List.mem_cons_of_mem _ (List.mem_map.2 ⟨b, hb, rfl⟩), hm⟩

end Go.Proofs.YtiikphdgnhajeaaDoor
