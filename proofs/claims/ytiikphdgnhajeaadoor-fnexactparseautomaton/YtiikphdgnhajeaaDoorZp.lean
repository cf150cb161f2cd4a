/- Numbers and words in a text, as plain data: what Atoi, Cut and SplitN make of a formatted line. -/
import Derived.Test.YtiikphdgnhajeaaDoorBs
import Derived.Lib.AtoiAll
import Derived.Lib.ItoaNum
import Derived.Lib.Split
import Derived.Lib.IndexLaws
import Derived.Lib.IndexMore
import Derived.Lib.IndexBytes
namespace Go.Proofs.YtiikphdgnhajeaaDoor
open Go.RowKit

theorem parse_digit {u d : Nat} (hd : d < 10) (hu : u * 10 + d < 18446744073709551616) (r : List UInt8) : Lib.parseUint10 u (UInt8.ofNat (48 + d) :: r) = Lib.parseUint10 (u * 10 + d) r := by
  have h1 : (UInt8.ofNat (48 + d)).toNat = 48 + d := by
    rw [UInt8.toNat_ofNat']
    omega
  rw [Lib.parseUint10, h1, if_pos (by omega), if_neg (by omega), if_neg (by omega)]
  rw [Nat.add_sub_cancel_left]
theorem parse_dec : ∀ (n u : Nat), u ≤ n → u < 18446744073709551616 → ∀ r : List UInt8, Lib.parseUint10 0 (Lib.decDigits u ++ r) = Lib.parseUint10 u r := by
  intro n
  induction n with
  | zero =>
    intro u hu hlt r
    have h0 : u = 0 := by omega
    subst h0
    rw [Lib.decDigits, dif_pos (by decide)]
    exact parse_digit (u := 0) (d := 0) (by decide) (by decide) r
  | succ n ih =>
    intro u hu hlt r
    by_cases h : u < 10
    · rw [Lib.decDigits, dif_pos h]
      have := parse_digit (u := 0) (d := u) h (by omega) r
      rw [Nat.zero_mul, Nat.zero_add] at this
      exact this
    · rw [Lib.decDigits, dif_neg h, List.append_assoc, ih (u / 10) (by omega) (by omega)]
      have := parse_digit (u := u / 10) (d := u % 10) (by omega) (by omega) r
      rw [show u / 10 * 10 + u % 10 = u by omega] at this
      exact this
theorem dec_ne (u : Nat) : Lib.decDigits u ≠ [] := by
  rw [Lib.decDigits]
  split
  · simp
  · simp
theorem dec_digit : ∀ (n u : Nat), u ≤ n → ∀ b ∈ Lib.decDigits u, 48 ≤ b.toNat ∧ b.toNat ≤ 57 := by
  intro n
  induction n with
  | zero =>
    intro u hu b hb
    have h0 : u = 0 := by omega
    subst h0
    rw [Lib.decDigits, dif_pos (by decide)] at hb
    simp at hb
    subst hb
    decide
  | succ n ih =>
    intro u hu b hb
    have key : ∀ d : Nat, d < 10 → b = UInt8.ofNat (48 + d) → 48 ≤ b.toNat ∧ b.toNat ≤ 57 := fun d hd h => by
      rw [h, UInt8.toNat_ofNat']
      omega
    rw [Lib.decDigits] at hb
    split at hb
    · rename_i h
      simp only [List.mem_singleton] at hb
      exact key u h hb
    · rename_i h
      rw [List.mem_append] at hb
      rcases hb with hb | hb
      · exact ih (u / 10) (by omega) b hb
      · simp only [List.mem_singleton] at hb
        exact key (u % 10) (by omega) hb
theorem parseMag_dec {u : Nat} (h : u < 18446744073709551616) : Lib.parseMag (Lib.decDigits u) = .ok u := by
  unfold Lib.parseMag
  rw [if_neg (dec_ne u)]
  have := parse_dec u u (Nat.le_refl _) h []
  rw [List.append_nil] at this
  rw [this]
  rfl
/-- The digits of a number that an int holds are read back. -/
theorem atoi_itoa {z : Int} (h0 : -9223372036854775808 ≤ z) (h1 : z ≤ 9223372036854775807) : Lib.atoiAll (Lib.itoa z) = .ok z := by
  unfold Lib.itoa
  by_cases hz : z < 0
  · rw [if_pos hz]
    unfold Lib.atoiAll
    dsimp only
    rw [if_pos (by right; rfl), parseMag_dec (by omega)]
    dsimp only
    rw [if_neg (by intro h; exact h.1 rfl), if_neg (by omega), if_pos (by rfl)]
    congr 1
    omega
  · rw [if_neg hz]
    obtain ⟨c, r, hcr⟩ : ∃ c r, Lib.decDigits z.toNat = c :: r := by
      cases hh : Lib.decDigits z.toNat with
      | nil => exact absurd hh (dec_ne _)
      | cons c r => exact ⟨c, r, rfl⟩
    have hc := dec_digit z.toNat z.toNat (Nat.le_refl _) c (by rw [hcr]; exact List.mem_cons_self)
    rw [hcr]
    unfold Lib.atoiAll
    dsimp only
    rw [if_neg (by omega), ← hcr, parseMag_dec (by omega)]
    dsimp only
    rw [if_neg (by omega), if_neg (by omega), if_neg (by omega)]
    congr 1
    omega
/-- What Atoi reads is a number that an int holds. -/
theorem atoi_rg {l : List UInt8} {v : Int} (h : Lib.atoiAll l = .ok v) : -9223372036854775808 ≤ v ∧ v ≤ 9223372036854775807 := by
  unfold Lib.atoiAll at h
  split at h
  · cases h
  · dsimp only at h
    split at h
    · cases h
    · cases h
    · rename_i u hu
      split at h
      · cases h
      · rename_i n1
        split at h
        · cases h
        · rename_i n2
          injection h with h
          split at h <;> omega
theorem itoa_byte {z : Int} {b : UInt8} (h : b ∈ Lib.itoa z) : b ≠ 32 ∧ b ≠ 10 := by
  unfold Lib.itoa at h
  have key : ∀ u, b ∈ Lib.decDigits u → b ≠ 32 ∧ b ≠ 10 := fun u hu => by
    have := dec_digit u u (Nat.le_refl _) b hu
    constructor <;> (intro e; subst e; revert this; decide)
  split at h
  · rw [List.mem_cons] at h
    rcases h with rfl | h
    · decide
    · exact key _ h
  · exact key _ h

/-- The text before the first newline, and behind it. -/
theorem cut_hit {a b : List UInt8} (h : (10 : UInt8) ∉ a) : Lib.cut (a ++ 10 :: b) [10] = (a, b, true) := by
  have hi : Lib.index (a ++ 10 :: b) [10] = a.length := by
    rw [Lib.index_one]
    induction a with
    | nil => rfl
    | cons x r ih =>
      have hx : x ≠ 10 := fun e => h (by rw [e]; exact List.mem_cons_self)
      have ih' := ih (fun e => h (List.mem_cons_of_mem _ e))
      show (if x == 10 then (0 : Int) else if Lib.indexByte (r ++ 10 :: b) 10 == -1 then -1 else Lib.indexByte (r ++ 10 :: b) 10 + 1) = _
      rw [if_neg (by simpa using hx), ih', if_neg (by simp)]
      simp
  unfold Lib.cut
  rw [hi, if_pos (by omega)]
  simp
theorem cut_found {s : List UInt8} (h : (Lib.cut s [10]).2.2 = true) : (10 : UInt8) ∉ (Lib.cut s [10]).1 ∧ s = (Lib.cut s [10]).1 ++ 10 :: (Lib.cut s [10]).2.1 := by
  unfold Lib.cut at h ⊢
  rw [Lib.index_one] at h ⊢
  by_cases h0 : 0 ≤ Lib.indexByte s 10
  · rw [if_pos h0]
    obtain ⟨o, ho⟩ := Int.eq_ofNat_of_zero_le h0
    obtain ⟨h1, h2⟩ := Lib.indexByte_some ho
    rw [ho]
    dsimp only [Int.toNat_natCast]
    have hlt := (List.getElem?_eq_some_iff.1 h1).1
    constructor
    · intro hm
      obtain ⟨i, hi⟩ := List.getElem?_of_mem hm
      rw [List.getElem?_take] at hi
      split at hi
      · rename_i hio
        exact h2 i hio hi
      · cases hi
    · rw [show o + [(10 : UInt8)].length = o + 1 from rfl]
      rw [← (List.getElem?_eq_some_iff.1 h1).2]
      rw [show (s[o] :: List.drop (o + 1) s) = List.drop o s from (List.drop_eq_getElem_cons hlt).symm]
      rw [List.take_append_drop]
  · rw [if_neg h0] at h
    cases h

/-- Words with single spaces between them. -/
def joinL : List (List UInt8) → List UInt8
  | [] => []
  | [x] => x
  | x :: y :: r => x ++ 32 :: joinL (y :: r)
abbrev spB : ByteArray := ⟨#[32]⟩
theorem extract_list (s : ByteArray) (a b : Nat) : (s.extract a b).data.toList = (s.data.toList.drop a).take (b - a) := by
  rw [ByteArray.data_extract, Array.toList_extract]
theorem split_some : ∀ (k : Nat) (s : ByteArray), joinL ((Lib.splitB spB 0 k s).map fun b => b.data.toList) = s.data.toList ∧ Lib.splitB spB 0 k s ≠ [] ∧ ((Lib.splitB spB 0 k s).length ≤ k → ∀ p ∈ Lib.splitB spB 0 k s, (32 : UInt8) ∉ p.data.toList) := by
  intro k
  induction k with
  | zero => intro s; exact ⟨rfl, by rw [Lib.splitB_zero]; simp, fun h => by rw [Lib.splitB_zero] at h; simp at h⟩
  | succ k ih =>
    intro s
    have hio : Lib.indexB s spB = Lib.indexByte s.data.toList 32 := Lib.index_one _ _
    by_cases h0 : 0 ≤ Lib.indexByte s.data.toList 32
    · obtain ⟨o, ho⟩ := Int.eq_ofNat_of_zero_le h0
      obtain ⟨h1, h2⟩ := Lib.indexByte_some ho
      have hlt := (List.getElem?_eq_some_iff.1 h1).1
      have hsz : s.data.toList.length = s.size := rfl
      rw [Lib.splitB_hit spB 0 k s o (by rw [hio, ho])]
      obtain ⟨i1, i2, i3⟩ := ih (s.extract (o + spB.size) s.size)
      have hrest : (s.extract (o + spB.size) s.size).data.toList = s.data.toList.drop (o + 1) := by
        rw [extract_list, show spB.size = 1 from rfl, List.take_of_length_le (by rw [List.length_drop]; omega)]
      have hfirst : (s.extract 0 (o + 0)).data.toList = s.data.toList.take o := by
        rw [extract_list, Nat.sub_zero, Nat.add_zero, List.drop_zero]
      refine ⟨?_, by simp, fun hl p hp => ?_⟩
      · obtain ⟨q, qs, hq⟩ : ∃ q qs, Lib.splitB spB 0 k (s.extract (o + spB.size) s.size) = q :: qs := by
          cases hh : Lib.splitB spB 0 k (s.extract (o + spB.size) s.size) with
          | nil => exact absurd hh i2
          | cons q qs => exact ⟨q, qs, rfl⟩
        rw [hq] at i1 ⊢
        rw [List.map_cons, List.map_cons]
        rw [List.map_cons] at i1
        show (s.extract 0 (o + 0)).data.toList ++ 32 :: joinL (q.data.toList :: qs.map fun b => b.data.toList) = _
        rw [i1, hfirst, hrest, ← (List.getElem?_eq_some_iff.1 h1).2, show (s.data.toList[o] :: List.drop (o + 1) s.data.toList) = List.drop o s.data.toList from (List.drop_eq_getElem_cons hlt).symm, List.take_append_drop]
      · rw [List.mem_cons] at hp
        rcases hp with rfl | hp
        · rw [hfirst]
          intro hm
          obtain ⟨i, hi⟩ := List.getElem?_of_mem hm
          rw [List.getElem?_take] at hi
          split at hi
          · rename_i hio2
            exact h2 i hio2 hi
          · cases hi
        · exact i3 (by simp only [List.length_cons] at hl; omega) p hp
    · have hm1 : Lib.indexByte s.data.toList 32 = -1 := by have := Lib.indexByte_ge s.data.toList 32; omega
      rw [Lib.splitB_miss spB 0 (k + 1) s (by rw [hio, hm1])]
      refine ⟨rfl, by simp, fun _ p hp => ?_⟩
      simp only [List.mem_singleton] at hp
      subst hp
      intro hm
      obtain ⟨i, hi⟩ := List.getElem?_of_mem hm
      exact Lib.indexByte_none hm1 i hi
theorem indexByte_app {a b : List UInt8} {c : UInt8} (h : c ∉ a) : Lib.indexByte (a ++ c :: b) c = a.length := by
  induction a with
  | nil =>
    show (if c == c then (0 : Int) else _) = _
    simp
  | cons x r ih =>
    have hx : x ≠ c := fun e => h (by rw [e]; exact List.mem_cons_self)
    have ih' := ih (fun e => h (List.mem_cons_of_mem _ e))
    show (if x == c then (0 : Int) else if Lib.indexByte (r ++ c :: b) c == -1 then -1 else Lib.indexByte (r ++ c :: b) c + 1) = _
    rw [if_neg (by simpa using hx), ih', if_neg (by simp)]
    simp
theorem indexByte_miss {a : List UInt8} {c : UInt8} (h : c ∉ a) : Lib.indexByte a c = -1 := by
  induction a with
  | nil => rfl
  | cons x r ih =>
    have hx : x ≠ c := fun e => h (by rw [e]; exact List.mem_cons_self)
    have ih' := ih (fun e => h (List.mem_cons_of_mem _ e))
    show (if x == c then (0 : Int) else if Lib.indexByte r c == -1 then -1 else Lib.indexByte r c + 1) = _
    rw [if_neg (by simpa using hx), ih']
    rfl
theorem split_join : ∀ (ps : List (List UInt8)), ps ≠ [] → (∀ p ∈ ps, (32 : UInt8) ∉ p) → ∀ (k : Nat) (s : ByteArray), s.data.toList = joinL ps → ps.length ≤ k + 1 → (Lib.splitB spB 0 k s).map (fun b => b.data.toList) = ps := by
  intro ps
  induction ps with
  | nil => intro h; exact absurd rfl h
  | cons p r ih =>
    intro _ hn k s hs hl
    have hio : Lib.indexB s spB = Lib.indexByte s.data.toList 32 := Lib.index_one _ _
    cases r with
    | nil =>
      have hs' : s.data.toList = p := hs
      rw [Lib.splitB_miss spB 0 k s (by rw [hio, hs']; exact indexByte_miss (hn p List.mem_cons_self))]
      simp [hs']
    | cons q r =>
      cases k with
      | zero => simp at hl
      | succ k =>
        have hs' : s.data.toList = p ++ 32 :: joinL (q :: r) := hs
        have hi : Lib.indexB s spB = (p.length : Nat) := by rw [hio, hs']; exact indexByte_app (hn p List.mem_cons_self)
        have hsz : s.data.toList.length = s.size := rfl
        have hlen : s.size = p.length + (1 + (joinL (q :: r)).length) := by rw [← hsz, hs']; simp; omega
        rw [Lib.splitB_hit spB 0 k s p.length hi, List.map_cons]
        have hrest : (s.extract (p.length + spB.size) s.size).data.toList = joinL (q :: r) := by
          rw [extract_list, show spB.size = 1 from rfl, List.take_of_length_le (by rw [List.length_drop]; omega), hs']
          simp
        have hfirst : (s.extract 0 (p.length + 0)).data.toList = p := by
          rw [extract_list, Nat.sub_zero, Nat.add_zero, List.drop_zero, hs']
          simp
        rw [hfirst, ih (by simp) (fun x hx => hn x (List.mem_cons_of_mem _ hx)) k _ hrest (by simp only [List.length_cons] at hl ⊢; omega)]

end Go.Proofs.YtiikphdgnhajeaaDoor
