/- Breadth-first search as plain data: the parents, the queue, the way back. Nothing is assumed. -/
import Derived.Test.YtkeokgeaekjgeaaGv0
namespace Go.Proofs.Ytkeokgeaekjgeaa
open Go.RowKit

/-- A search: the parents found (-1: none), and the queue. -/
structure Sr where
  par : List Int
  q : List Int
def visit (x : Int) (s : Sr) (z : Int) : Sr := if inB s.q z then s else ⟨s.par.set z.toNat x, s.q ++ [z]⟩
def visits (x : Int) (s : Sr) (l : List Int) : Sr := l.foldl (visit x) s
def outs (nxt : List (List Int)) (x : Int) : List Int := (nxt[x.toNat]?).getD []
/-- The search from a when i nodes of the queue have been taken. -/
def srch (nxt : List (List Int)) (a : Int) : Nat → Sr
  | 0 => ⟨List.replicate nxt.length (-1), [a]⟩
  | i + 1 => match (srch nxt a i).q[i]? with
    | some x => visits x (srch nxt a i) (outs nxt x)
    | none => srch nxt a i

structure SrOk (n : Nat) (a : Int) (s : Sr) : Prop where
  len : s.par.length = n
  head : s.q[0]? = some a
  range : ∀ z, z ∈ s.q → ∃ m : Nat, z = m ∧ m < n
  nodup : s.q.Nodup
  unseen : ∀ m : Nat, m < n → (m : Int) ∉ s.q → s.par[m]? = some (-1)
  first : ∀ m : Nat, a = m → s.par[m]? = some (-1)
  back : ∀ (i m : Nat), s.q[i]? = some (m : Int) → 0 < i → ∃ (k : Nat) (y : Int), k < i ∧ s.q[k]? = some y ∧ s.par[m]? = some y

theorem inB_true {x : List Int} {z : Int} (h : z ∈ x) : inB x z = true := decide_eq_true h
theorem inB_false {x : List Int} {z : Int} (h : z ∉ x) : inB x z = false := decide_eq_false h
theorem visit_in {x z : Int} {s : Sr} (h : inB s.q z = true) : visit x s z = s := by unfold visit; rw [if_pos h]
theorem visit_out {x z : Int} {s : Sr} (h : inB s.q z = false) : visit x s z = ⟨s.par.set z.toNat x, s.q ++ [z]⟩ := by unfold visit; rw [if_neg (by rw [h]; exact Bool.false_ne_true)]
theorem visit_q {x z : Int} {s : Sr} {k : Nat} {y : Int} (h : s.q[k]? = some y) : (visit x s z).q[k]? = some y := by
  unfold visit
  split
  · exact h
  · show (s.q ++ [z])[k]? = _
    rw [List.getElem?_append_left (List.getElem?_eq_some_iff.1 h).1]; exact h
theorem visits_nil (x : Int) (s : Sr) : visits x s [] = s := rfl
theorem visits_snoc (x : Int) (s : Sr) (l : List Int) (z : Int) : visits x s (l ++ [z]) = visit x (visits x s l) z := by unfold visits; rw [List.foldl_append]; rfl
theorem visits_take_succ {x z : Int} {s : Sr} {l : List Int} {k : Nat} (h : l[k]? = some z) : visits x s (l.take (k + 1)) = visit x (visits x s (l.take k)) z := by
  rw [List.take_add_one, h]; exact visits_snoc _ _ _ _

theorem SrOk.start {nxt : List (List Int)} {m : Nat} (hm : m < nxt.length) : SrOk nxt.length m ⟨List.replicate nxt.length (-1), [(m : Int)]⟩ where
  len := List.length_replicate
  head := rfl
  range z hz := ⟨m, List.mem_singleton.1 hz, hm⟩
  nodup := List.pairwise_singleton _ _
  unseen k hk _ := by simp [hk]
  first k hk := by
    have : k = m := by omega
    subst this; simp [hm]
  back i k h hi := by
    have h2 := (List.getElem?_eq_some_iff.1 h).1
    simp at h2; omega

theorem SrOk.visit {n : Nat} {a x : Int} {s : Sr} {z : Int} (h : SrOk n a s) {kx m : Nat} (hx : s.q[kx]? = some x) (hz : z = m) (hm : m < n) : SrOk n a (visit x s z) := by
  cases hin : inB s.q z
  · rw [visit_out hin]
    have hnz : z ∉ s.q := of_decide_eq_false hin
    subst hz
    have hkx := (List.getElem?_eq_some_iff.1 hx).1
    refine ⟨by simpa using h.len, ?_, fun y hy => ?_, ?_, fun k hk hnk => ?_, fun k hk => ?_, fun i k hik hi => ?_⟩
    · show (s.q ++ [(m : Int)])[0]? = _
      rw [List.getElem?_append_left (List.getElem?_eq_some_iff.1 h.head).1]; exact h.head
    · rcases List.mem_append.1 hy with hy | hy
      · exact h.range y hy
      · exact ⟨m, List.mem_singleton.1 hy, hm⟩
    · refine List.nodup_append.2 ⟨h.nodup, List.pairwise_singleton _ _, fun u hu v hv e => ?_⟩
      rw [List.mem_singleton.1 hv] at e
      exact hnz (e ▸ hu)
    · have h1 : (k : Int) ∉ s.q := fun hh => hnk (List.mem_append.2 (.inl hh))
      have h2 : k ≠ m := fun hh => hnk (List.mem_append.2 (.inr (by rw [hh]; exact List.mem_singleton.2 rfl)))
      show (s.par.set (m : Int).toNat x)[k]? = _
      rw [Int.toNat_natCast, List.getElem?_set_ne (by omega)]
      exact h.unseen k hk h1
    · have h2 : k ≠ m := fun hh => hnz (by rw [← hh, ← hk]; exact List.mem_of_getElem? h.head)
      show (s.par.set (m : Int).toNat x)[k]? = _
      rw [Int.toNat_natCast, List.getElem?_set_ne (by omega)]
      exact h.first k hk
    · change (s.q ++ [(m : Int)])[i]? = _ at hik
      by_cases hil : i < s.q.length
      · rw [List.getElem?_append_left hil] at hik
        obtain ⟨k2, y, h1, h2, h3⟩ := h.back i k hik hi
        have hne : k ≠ m := fun hh => hnz (by rw [← hh]; exact List.mem_of_getElem? hik)
        refine ⟨k2, y, h1, ?_, ?_⟩
        · show (s.q ++ [(m : Int)])[k2]? = _
          rw [List.getElem?_append_left (by omega)]; exact h2
        · show (s.par.set (m : Int).toNat x)[k]? = _
          rw [Int.toNat_natCast, List.getElem?_set_ne (by omega)]; exact h3
      · have hi2 := (List.getElem?_eq_some_iff.1 hik).1
        rw [List.length_append, List.length_singleton] at hi2
        have hii : i = s.q.length := by omega
        subst hii
        rw [List.getElem?_concat_length] at hik
        injection hik with hik
        have hkm : m = k := by omega
        subst hkm
        refine ⟨kx, x, hkx, ?_, ?_⟩
        · show (s.q ++ [(m : Int)])[kx]? = _
          rw [List.getElem?_append_left hkx]; exact hx
        · show (s.par.set (m : Int).toNat x)[m]? = _
          rw [Int.toNat_natCast, List.getElem?_set_self (by rw [h.len]; exact hm)]
  · rw [visit_in hin]; exact h

theorem visits_q {x : Int} {k : Nat} {y : Int} : ∀ (l : List Int) {s : Sr}, s.q[k]? = some y → (visits x s l).q[k]? = some y
  | [], _, h => h
  | z :: l, _, h => visits_q l (visit_q (z := z) h)
theorem SrOk.visits {n : Nat} {a x : Int} {kx : Nat} : ∀ (l : List Int) {s : Sr}, SrOk n a s → s.q[kx]? = some x → (∀ z, z ∈ l → ∃ m : Nat, z = m ∧ m < n) → SrOk n a (visits x s l)
  | [], _, h, _, _ => h
  | z :: l, s, h, hx, hl => by
    obtain ⟨m, hz, hm⟩ := hl z (List.mem_cons_self ..)
    exact SrOk.visits l (h.visit hx hz hm) (visit_q hx) fun u hu => hl u (List.mem_cons_of_mem _ hu)

/-- Every successor is a node. -/
def Ranged (nxt : List (List Int)) : Prop := ∀ (i : Nat) (l : List Int), nxt[i]? = some l → ∀ z, z ∈ l → ∃ m : Nat, z = m ∧ m < nxt.length
theorem outs_range {nxt : List (List Int)} (h : Ranged nxt) (x : Int) : ∀ z, z ∈ outs nxt x → ∃ m : Nat, z = m ∧ m < nxt.length := by
  intro z hz
  unfold outs at hz
  cases hx : nxt[x.toNat]? with
  | none => rw [hx] at hz; cases hz
  | some l => rw [hx] at hz; exact h _ l hx z hz
theorem srch_ok {nxt : List (List Int)} (h : Ranged nxt) {m : Nat} (hm : m < nxt.length) : ∀ i : Nat, SrOk nxt.length m (srch nxt m i)
  | 0 => SrOk.start hm
  | i + 1 => by
    have ih := srch_ok h hm i
    show SrOk _ _ (match (srch nxt m i).q[i]? with
      | some x => visits x (srch nxt m i) (outs nxt x)
      | none => srch nxt m i)
    cases hq : (srch nxt m i).q[i]? with
    | none => exact ih
    | some x => exact ih.visits _ hq (outs_range h x)
theorem srch_next {nxt : List (List Int)} {a x : Int} {i : Nat} (h : (srch nxt a i).q[i]? = some x) : srch nxt a (i + 1) = visits x (srch nxt a i) (outs nxt x) := by
  show (match (srch nxt a i).q[i]? with
      | some x => visits x (srch nxt a i) (outs nxt x)
      | none => srch nxt a i) = _
  rw [h]
theorem srch_stop {nxt : List (List Int)} {a : Int} {i : Nat} (h : (srch nxt a i).q.length ≤ i) : ∀ k : Nat, srch nxt a (i + k) = srch nxt a i
  | 0 => rfl
  | k + 1 => by
    have ih := srch_stop h k
    show (match (srch nxt a (i + k)).q[i + k]? with
      | some x => visits x (srch nxt a (i + k)) (outs nxt x)
      | none => srch nxt a (i + k)) = _
    rw [ih, List.getElem?_eq_none (by omega)]
theorem SrOk.short {n : Nat} {a : Int} {s : Sr} (h : SrOk n a s) : s.q.length ≤ n := few n s.q (fun z hz => by
  obtain ⟨m, rfl, hm⟩ := h.range z hz
  omega) h.nodup
/-- The search at its end. -/
def found (nxt : List (List Int)) (a : Int) : Sr := srch nxt a nxt.length
theorem srch_end {nxt : List (List Int)} {a : Int} {i : Nat} (h : (srch nxt a i).q.length ≤ i) (hi : i ≤ nxt.length) : srch nxt a i = found nxt a := by
  have := srch_stop h (nxt.length - i)
  rw [show i + (nxt.length - i) = nxt.length by omega] at this
  exact this.symm

/-- The way to z, by at most f parents. -/
def way (s : Sr) (a : Int) : Nat → Int → List Int
  | 0, z => [z]
  | f + 1, z => if z = a then [z] else way s a f ((s.par[z.toNat]?).getD (-1)) ++ [z]
theorem way_first (s : Sr) (a : Int) (f : Nat) : way s a f a = [a] := by
  cases f
  · rfl
  · show (if a = a then [a] else _) = _
    rw [if_pos rfl]
theorem SrOk.zero {n : Nat} {a : Int} {s : Sr} (h : SrOk n a s) {k : Nat} (hk : s.q[k]? = some a) : k = 0 := by
  have h0 := h.head
  have hl := (List.getElem?_eq_some_iff.1 hk).1
  have hl0 := (List.getElem?_eq_some_iff.1 h0).1
  rcases Nat.eq_zero_or_pos k with e | hp
  · exact e
  · exact absurd (by rw [(List.getElem?_eq_some_iff.1 hk).2, (List.getElem?_eq_some_iff.1 h0).2]) (List.pairwise_iff_getElem.1 h.nodup 0 k hl0 hl hp)
theorem SrOk.up {n : Nat} {a : Int} {s : Sr} (h : SrOk n a s) {k : Nat} {z : Int} (hk : s.q[k]? = some z) (hz : z ≠ a) : 0 < k ∧ ∃ (j : Nat) (y : Int), j < k ∧ s.q[j]? = some y ∧ (s.par[z.toNat]?) = some y := by
  have hk0 : 0 < k := by
    rcases Nat.eq_zero_or_pos k with h0 | h0
    · subst h0; rw [h.head] at hk; injection hk with hk; exact absurd hk.symm hz
    · exact h0
  obtain ⟨m, rfl, _⟩ := h.range z (List.mem_of_getElem? hk)
  obtain ⟨j, y, h1, h2, h3⟩ := h.back k m hk hk0
  exact ⟨hk0, j, y, h1, h2, by rw [Int.toNat_natCast]; exact h3⟩
theorem way_any {n : Nat} {a : Int} {s : Sr} (h : SrOk n a s) : ∀ (k f : Nat) (z : Int), s.q[k]? = some z → k ≤ f → way s a f z = way s a k z := by
  intro k
  induction k using Nat.strongRecOn with
  | _ k ih =>
    intro f z hk hf
    by_cases hz : z = a
    · subst hz; rw [way_first, way_first]
    · obtain ⟨hk0, j, y, h1, h2, h3⟩ := h.up hk hz
      obtain ⟨k', rfl⟩ : ∃ k', k = k' + 1 := ⟨k - 1, by omega⟩
      obtain ⟨f', rfl⟩ : ∃ f', f = f' + 1 := ⟨f - 1, by omega⟩
      show (if z = a then [z] else way s a f' ((s.par[z.toNat]?).getD (-1)) ++ [z]) = (if z = a then [z] else way s a k' ((s.par[z.toNat]?).getD (-1)) ++ [z])
      rw [if_neg hz, if_neg hz, h3]
      show way s a f' y ++ [z] = way s a k' y ++ [z]
      rw [ih j h1 f' y h2 (by omega), ih j h1 k' y h2 (by omega)]
theorem way_step {n : Nat} {a : Int} {s : Sr} (h : SrOk n a s) {k j : Nat} {z y : Int} (hk : s.q[k]? = some z) (hz : z ≠ a) (hj : j < k) (hy : s.q[j]? = some y) (hp : s.par[z.toNat]? = some y) : way s a k z = way s a j y ++ [z] := by
  obtain ⟨k', rfl⟩ : ∃ k', k = k' + 1 := ⟨k - 1, by omega⟩
  show (if z = a then [z] else way s a k' ((s.par[z.toNat]?).getD (-1)) ++ [z]) = _
  rw [if_neg hz, hp]
  show way s a k' y ++ [z] = _
  rw [way_any h j k' y hy (by omega)]
theorem way_len {s : Sr} {a : Int} : ∀ (f : Nat) (z : Int), (way s a f z).length ≤ f + 1
  | 0, _ => Nat.le_refl _
  | f + 1, z => by
    show (if z = a then [z] else way s a f ((s.par[z.toNat]?).getD (-1)) ++ [z]).length ≤ _
    split
    · simp
    · have := way_len (s := s) (a := a) f ((s.par[z.toNat]?).getD (-1))
      simp; omega

theorem ranged_of {g : Gp} (h : grOk g = true) : Ranged g.nxt ∧ g.nxt.length = g.sts.length ∧ g.sts.length ≤ 60 := by
  unfold grOk at h
  simp only [Bool.and_eq_true, decide_eq_true_eq] at h
  obtain ⟨_, h2, h3, h4⟩ := h
  refine ⟨fun i l hl z hz => ?_, h3, h2⟩
  have hi := (List.getElem?_eq_some_iff.1 hl).1
  obtain ⟨x, hx⟩ : ∃ x, g.sts[i]? = some x := ⟨_, List.getElem?_eq_getElem (by omega)⟩
  have h5 := List.all_eq_true.1 h4 (x, l) (List.mem_of_getElem? (zip_get hx hl))
  unfold nodeOk at h5
  simp only [Bool.and_eq_true, decide_eq_true_eq] at h5
  obtain ⟨k, hk⟩ := List.getElem?_of_mem hz
  have h6 := List.all_eq_true.1 h5.2.2 k (List.mem_range.2 (List.getElem?_eq_some_iff.1 hk).1)
  rw [fresh_some hk] at h6
  simp only [Bool.and_eq_true] at h6
  have h7 := h6.1
  unfold inOk at h7
  simp only [Bool.and_eq_true, decide_eq_true_eq] at h7
  exact ⟨z.toNat, by omega, by omega⟩

end Go.Proofs.Ytkeokgeaekjgeaa
