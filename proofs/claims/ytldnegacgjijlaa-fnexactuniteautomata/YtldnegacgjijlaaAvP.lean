/- Valid automata as plain data. -/
import Derived.Test.YtldnegacgjijlaaAuT
import Derived.Laws.BitsAllLaws
namespace Go.Proofs.Ytldnegacgjijlaa
open Go.RowKit

theorem toNat_rg {a : Int} (h : Rg a) : ((BitVec.ofInt 64 a).toNat : Int) = if 0 ≤ a then a else a + 18446744073709551616 := by
  unfold Rg at h
  rw [BitVec.toNat_ofInt]
  split <;> omega
theorem wrap_i64 (n : Nat) (h : n < 18446744073709551616) : IntKind.i64.wrap (n : Int) = if (n : Int) < 9223372036854775808 then (n : Int) else n - 18446744073709551616 := by
  simp [IntKind.wrap, IntKind.bits, IntKind.signed]
  split <;> split <;> omega
/-- The bits of a lie within those of b. -/
def inside (a b : Int) : Bool := bits .andNot .i64 a b == 0
theorem inside_iff (a b : Int) : inside a b = decide (BitVec.ofInt 64 a &&& BitVec.ofInt 64 b = BitVec.ofInt 64 a) := by
  unfold inside
  show (IntKind.i64.wrap ((BitVec.ofInt 64 a &&& ~~~ BitVec.ofInt 64 b).toNat : Int) == 0) = _
  rw [wrap_i64 _ (BitVec.isLt _)]
  have h1 : (BitVec.ofInt 64 a &&& ~~~ BitVec.ofInt 64 b = 0#64) ↔ (BitVec.ofInt 64 a &&& BitVec.ofInt 64 b = BitVec.ofInt 64 a) := by
    generalize BitVec.ofInt 64 a = x
    generalize BitVec.ofInt 64 b = y
    constructor
    · intro h
      ext i hi
      have h2 := congrArg (fun z => z.getLsbD i) h
      simp [hi] at h2 ⊢
      exact h2
    · intro h
      ext i hi
      have h2 := congrArg (fun z => z.getLsbD i) h
      simp [hi] at h2 ⊢
      exact h2
  have hlt := (BitVec.ofInt 64 a &&& ~~~ BitVec.ofInt 64 b).isLt
  have h3 : ((BitVec.ofInt 64 a &&& ~~~ BitVec.ofInt 64 b).toNat = 0) ↔ (BitVec.ofInt 64 a &&& ~~~ BitVec.ofInt 64 b = 0#64) := by
    constructor
    · intro h; exact BitVec.eq_of_toNat_eq (by simpa using h)
    · intro h; rw [h]; rfl
  by_cases h : BitVec.ofInt 64 a &&& BitVec.ofInt 64 b = BitVec.ofInt 64 a
  · rw [decide_eq_true h, h3.2 (h1.2 h)]
    rfl
  · rw [decide_eq_false h]
    have h5 : ¬ (BitVec.ofInt 64 a &&& ~~~ BitVec.ofInt 64 b).toNat = 0 := fun h6 => h (h1.1 (h3.1 h6))
    simp only [beq_eq_false_iff_ne, ne_eq]
    split <;> omega
theorem and_iff {a b : Int} (ha : Rg a) : (bits .and .i64 a b == a) = decide (BitVec.ofInt 64 a &&& BitVec.ofInt 64 b = BitVec.ofInt 64 a) := by
  show (IntKind.i64.wrap ((BitVec.ofInt 64 a &&& BitVec.ofInt 64 b).toNat : Int) == a) = _
  have hlt := (BitVec.ofInt 64 a &&& BitVec.ofInt 64 b).isLt
  rw [wrap_i64 _ hlt]
  have h1 := toNat_rg ha
  unfold Rg at ha
  by_cases h : BitVec.ofInt 64 a &&& BitVec.ofInt 64 b = BitVec.ofInt 64 a
  · rw [decide_eq_true h, h]
    simp only [beq_iff_eq]
    split at h1 <;> split <;> omega
  · rw [decide_eq_false h]
    simp only [beq_eq_false_iff_ne, ne_eq]
    intro h2
    apply h
    apply BitVec.eq_of_toNat_eq
    split at h1 <;> split at h2 <;> omega
theorem inside_le {a b : Int} (ha : Rg a) (hb : 0 ≤ b) (hb2 : b ≤ 9223372036854775807) (h : inside a b = true) : 0 ≤ a ∧ a ≤ b := by
  rw [inside_iff] at h
  have h1 := of_decide_eq_true h
  have h2 := toNat_rg ha
  have h3 := toNat_rg (a := b) ⟨by omega, hb2⟩
  rw [if_pos hb] at h3
  have h4 : (BitVec.ofInt 64 a).toNat ≤ (BitVec.ofInt 64 b).toNat := by
    have h5 := congrArg BitVec.toNat h1
    rw [BitVec.toNat_and] at h5
    rw [← h5]
    exact Nat.and_le_right
  unfold Rg at ha
  split at h2 <;> omega
theorem inside_7 {a : Int} (ha : Rg a) : inside a 7 = (decide (0 ≤ a) && decide (a ≤ 7)) := by
  by_cases h : inside a 7 = true
  · obtain ⟨h1, h2⟩ := inside_le ha (by omega) (by omega) h
    rw [h, decide_eq_true h1, decide_eq_true h2]
    rfl
  · rw [Bool.not_eq_true] at h
    rw [h]
    by_cases h1 : 0 ≤ a
    · by_cases h2 : a ≤ 7
      · exfalso
        have : a = 0 ∨ a = 1 ∨ a = 2 ∨ a = 3 ∨ a = 4 ∨ a = 5 ∨ a = 6 ∨ a = 7 := by omega
        rcases this with rfl | rfl | rfl | rfl | rfl | rfl | rfl | rfl <;> exact absurd h (by decide)
      · rw [decide_eq_false h2, Bool.and_false]
    · rw [decide_eq_false h1]; rfl

/-- An edge is valid. -/
def trOk (n : Int) (e : Tr) : Bool := decide (0 ≤ e.fr ∧ e.fr < n) && (decide (0 ≤ e.tt ∧ e.tt < n) && (decide (0 ≤ e.ca ∧ e.ca ≤ 7) && inside e.va e.ca))
def trsOk (n : Int) (es : List Tr) : Bool := es.all (trOk n)
theorem trsOk_false {n : Int} {es : List Tr} {i : Nat} {e : Tr} (h : es[i]? = some e) (hf : trOk n e = false) : trsOk n es = false := by
  unfold trsOk
  exact List.all_eq_false.2 ⟨e, List.mem_of_getElem? h, by simp [hf]⟩
theorem trsOk_true {n : Int} {es : List Tr} (h : ∀ (i : Nat) (e : Tr), es[i]? = some e → trOk n e = true) : trsOk n es = true := by
  unfold trsOk
  exact List.all_eq_true.2 fun e he => by
    obtain ⟨i, hi⟩ := List.getElem?_of_mem he
    exact h i e hi

/-- The element before an index of a list; -1 before the first. -/
def before (zs : List Int) : Nat → Int
  | 0 => -1
  | i + 1 => zs.getD i 0
def okAt (n : Int) (zs : List Int) (i : Nat) : Bool := decide (before zs i < zs.getD i 0) && decide (zs.getD i 0 < n)
/-- The list is ascending, not negative and below n. -/
def asc (n : Int) (zs : List Int) : Bool := (List.range zs.length).all (okAt n zs)
theorem asc_false {n : Int} {zs : List Int} {i : Nat} (h : i < zs.length) (hf : okAt n zs i = false) : asc n zs = false := by
  unfold asc
  exact List.all_eq_false.2 ⟨i, List.mem_range.2 h, by simp [hf]⟩
theorem asc_true {n : Int} {zs : List Int} (h : ∀ i, i < zs.length → okAt n zs i = true) : asc n zs = true := by
  unfold asc
  exact List.all_eq_true.2 fun i hi => h i (List.mem_range.1 hi)
theorem asc_at {n : Int} {zs : List Int} (h : asc n zs = true) {i : Nat} (hi : i < zs.length) : okAt n zs i = true := by
  unfold asc at h
  exact List.all_eq_true.1 h i (List.mem_range.2 hi)
theorem okAt_iff {n : Int} {zs : List Int} {i : Nat} {x : Int} (hx : zs[i]? = some x) : okAt n zs i = (decide (before zs i < x) && decide (x < n)) := by
  unfold okAt
  have : zs.getD i 0 = x := by simp [List.getD, hx]
  rw [this]
theorem asc_ge {n : Int} {zs : List Int} {j : Nat} (h : ∀ i, i < j → okAt n zs i = true) (i : Nat) (hi : i < j) : (i : Int) ≤ zs.getD i 0 ∧ zs.getD i 0 < n := by
  induction i with
  | zero =>
    have h1 := h 0 hi
    unfold okAt before at h1
    simp only [Bool.and_eq_true, decide_eq_true_eq] at h1
    omega
  | succ i ih =>
    have h1 := h (i + 1) hi
    have h2 := ih (by omega)
    unfold okAt before at h1
    simp only [Bool.and_eq_true, decide_eq_true_eq] at h1
    omega
theorem before_ge {n : Int} {zs : List Int} {j : Nat} (h : ∀ i, i < j → okAt n zs i = true) : -1 ≤ before zs j ∧ (0 < j → 0 ≤ before zs j) := by
  cases j with
  | zero => exact ⟨by show (-1 : Int) ≤ -1; omega, fun h => by omega⟩
  | succ j =>
    have := asc_ge h j (by omega)
    exact ⟨by show (-1 : Int) ≤ zs.getD j 0; omega, fun _ => by show (0 : Int) ≤ zs.getD j 0; omega⟩
theorem asc_len {n : Int} {zs : List Int} (h : asc n zs = true) (h0 : 0 ≤ n) : (zs.length : Int) ≤ n := by
  by_cases hz : zs.length = 0
  · omega
  · have := asc_ge (fun i hi => asc_at h hi) (zs.length - 1) (by omega)
    omega

/-- The automaton is valid. -/
def auOk (a : Au) : Bool := decide (1 ≤ a.acc.length ∧ a.acc.length ≤ 64) && (decide (a.es.length ≤ 2048) && (asc a.acc.length a.ini && trsOk a.acc.length a.es))

end Go.Proofs.Ytldnegacgjijlaa
