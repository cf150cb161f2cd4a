/- A pair is taken from the stack, and the pairs of its operands are what comes in its place. Nothing is assumed. -/
import Derived.Test.YtgdhmdhbpakahaaSmT
namespace Go.Proofs.Ytgdhmdhbpakahaa
open Go.RowKit

/-- The pair of the operands i. -/
def newE (la lb : List Ex) (C2 D2 : Nat → Value) (s : Nat → Nat) (i : Nat) : Ent := ⟨la.getD i default, lb.getD i default, C2 i, D2 i, s i, s (i + 1)⟩
def news (la lb : List Ex) (C2 D2 : Nat → Value) (s : Nat → Nat) (j : Nat) : List Ent := (List.range j).map (newE la lb C2 D2 s)
theorem news_succ (la lb : List Ex) (C2 D2 : Nat → Value) (s : Nat → Nat) (j : Nat) : news la lb C2 D2 s (j + 1) = news la lb C2 D2 s j ++ [newE la lb C2 D2 s j] := by
  simp [news, List.range_succ]
theorem news_length (la lb : List Ex) (C2 D2 : Nat → Value) (s : Nat → Nat) (j : Nat) : (news la lb C2 D2 s j).length = j := by simp [news]
theorem getD_some {l : List Ex} {i : Nat} {x : Ex} (h : l[i]? = some x) : l.getD i default = x := by simp [List.getD, h]
theorem tot_news {la lb : List Ex} {C2 D2 : Nat → Value} {s : Nat → Nat} : ∀ j, j ≤ la.length → tot (news la lb C2 D2 s j) = descL (la.take j) := by
  intro j
  induction j with
  | zero => intro _; simp [news, tot, descL]
  | succ j ih =>
    intro hj
    obtain ⟨x, hx⟩ : ∃ x, la[j]? = some x := ⟨_, List.getElem?_eq_getElem (by omega)⟩
    rw [news_succ, tot_append, ih (by omega), descL_take_succ hx]
    simp [tot, newE, List.getD, hx]

theorem mono_s {s : Nat → Nat} {n : Nat} (hs : ∀ i, i < n → s i ≤ s (i + 1)) : ∀ i j, i ≤ j → j ≤ n → s i ≤ s j := by
  intro i j hij
  induction j with
  | zero => intro _; obtain rfl : i = 0 := by omega
            exact Nat.le_refl _
  | succ j ih =>
    intro hj
    by_cases e : i = j + 1
    · subst e; exact Nat.le_refl _
    · exact Nat.le_trans (ih (by omega) (by omega)) (hs j (by omega))

theorem sep_form {w : World} {lo hi : Nat} {x : Ex} {c0 c1 c2 : Value} (h : SepF w lo hi x c0 c1 c2) : ∃ k v ks A cap, x = .node k v ks ∧ c0 = .int .i64 k ∧ c1 = .int .i64 v ∧ c2 = .slice A ks.length cap := by
  cases h with
  | mk _ _ k v ks A cap g cs C0 C1 C2 s _ _ _ _ _ _ _ => exact ⟨k, v, ks, A, cap, rfl, rfl, rfl, rfl⟩
theorem lies_form {w : World} {B : Nat} {x : Ex} {c0 c1 c2 : Value} (h : Lies w B x c0 c1 c2) : ∃ k v ks A cap, x = .node k v ks ∧ c0 = .int .i64 k ∧ c1 = .int .i64 v ∧ c2 = .slice A ks.length cap := by
  cases h with
  | mk k v ks A cap b off C0 C1 C2 _ _ _ _ _ _ => exact ⟨k, v, ks, A, cap, rfl, rfl, rfl, rfl⟩

theorem ent_form {w0 : World} {B : Nat} {en : List Ent} {e : Ent} (hp : Pend w0 B en) (he : e ∈ en) :
    ∃ k v la k' v' lb A ca A' cb, e.x = .node k v la ∧ e.y = .node k' v' lb ∧ e.V = .slice A la.length ca ∧ e.U = .slice A' lb.length cb := by
  obtain ⟨c0, c1, hs⟩ := hp.a e he
  obtain ⟨d0, d1, hl⟩ := hp.b e he
  obtain ⟨x, y, V, U, lo, hi⟩ := e
  dsimp only at hs hl ⊢
  cases hs with
  | mk _ _ k v la A ca g cs C0 C1 C2 s _ _ _ _ _ _ _ =>
    cases hl with
    | mk k' v' lb A' cb b off D0 D1 D2 _ _ _ _ _ _ => exact ⟨k, v, la, k', v', lb, A, ca, A', cb, rfl, rfl, rfl, rfl⟩

theorem ent_kids {w0 : World} {B : Nat} {rest : List Ent} {e : Ent} (hp : Pend w0 B (rest ++ [e])) {k v k' v' : Int} {la lb : List Ex} (hx : e.x = .node k v la) (hy : e.y = .node k' v' lb) (hlen : la.length = lb.length) (hpos : 0 < la.length) :
    ∃ (g : Nat) (cs : Array Value) (C0 C1 C2 D0 D1 D2 : Nat → Value) (s : Nat → Nat) (ca cb b off : Nat), e.V = .slice (some ⟨g, 0, none⟩) la.length ca ∧ e.U = .slice (some ⟨b, off, none⟩) la.length cb ∧ g < B ∧ b < B ∧ (e.lo ≤ g ∧ g < e.hi) ∧ Row w0 g 42 cs ∧
      (∀ (i : Nat) (x : Ex), la[i]? = some x → cs[i * 3]? = some (C0 i) ∧ cs[i * 3 + 1]? = some (C1 i) ∧ cs[i * 3 + 2]? = some (C2 i) ∧ SepF w0 (s i) (s (i + 1)) x (C0 i) (C1 i) (C2 i)) ∧
      Opened w0 B lb (some ⟨b, off, none⟩) b off D0 D1 D2 ∧ la.length ≤ maxLen ∧
      (∀ j, j ≤ la.length → Pend w0 B (rest ++ news la lb C2 D2 s j)) ∧
      (∀ q, (q < e.lo ∨ e.hi ≤ q ∨ q = g) → ∀ i, i < la.length → q < s i ∨ s (i + 1) ≤ q) ∧ (∀ f ∈ rest, g < f.lo ∨ f.hi ≤ g) := by
  have he : e ∈ rest ++ [e] := by simp
  obtain ⟨c0, c1, hs⟩ := hp.a e he
  obtain ⟨d0, d1, hl⟩ := hp.b e he
  have hhi := hp.hi e he
  have hap : ∀ f ∈ rest, apartE f e := fun f hf => (List.pairwise_append.1 hp.apart).2.2 f hf e (by simp)
  have hapr := (List.pairwise_append.1 hp.apart).1
  have hpa := fun f (hf : f ∈ rest) => hp.a f (by simp [hf])
  have hpb := fun f (hf : f ∈ rest) => hp.b f (by simp [hf])
  have hph := fun f (hf : f ∈ rest) => hp.hi f (by simp [hf])
  clear hp
  obtain ⟨ex, ey, V, U, lo, hi⟩ := e
  dsimp only at hs hl hx hy hhi hap ⊢
  subst hx hy
  cases hs with
  | mk _ _ k v la A ca g cs C0 C1 C2 s hln hA h0 h1 h2 hss hr =>
    obtain ⟨A', cb, b, off, D0, D1, D2, e0, e1, e2, hl', hO⟩ := hl.open_
    obtain ⟨x0, hx0⟩ : ∃ x, la[0]? = some x := ⟨_, List.getElem?_eq_getElem hpos⟩
    obtain ⟨y0, hy0⟩ : ∃ y, lb[0]? = some y := ⟨_, List.getElem?_eq_getElem (by omega)⟩
    obtain ⟨rfl, q1, q2, q3, q4, q5, q6⟩ := hA 0 x0 hx0
    obtain ⟨rfl, hb, _⟩ := hO 0 y0 hy0
    have hm := mono_s hss
    refine ⟨g, cs, C0, C1, C2, D0, D1, D2, s, ca, cb, b, off, rfl, by rw [e2, hlen], by omega, hb, ⟨q1, q2⟩, q6, fun i x hx => ⟨h0 i x hx, h1 i x hx, h2 i x hx, hr i x hx⟩, hO, hln, fun j hj => ⟨fun f hf => ?_, fun f hf => ?_, fun f hf => ?_, ?_⟩, fun q hq i hi => ?_, fun f hf => ?_⟩
    · simp only [List.mem_append, news, List.mem_map, List.mem_range] at hf
      rcases hf with hf | ⟨i, hi, rfl⟩
      · exact hpa f hf
      · obtain ⟨x, hx⟩ : ∃ x, la[i]? = some x := ⟨_, List.getElem?_eq_getElem (by omega)⟩
        exact ⟨C0 i, C1 i, by show SepF w0 _ _ (la.getD i default) _ _ _; rw [getD_some hx]; exact hr i x hx⟩
    · simp only [List.mem_append, news, List.mem_map, List.mem_range] at hf
      rcases hf with hf | ⟨i, hi, rfl⟩
      · exact hpb f hf
      · obtain ⟨y, hy⟩ : ∃ y, lb[i]? = some y := ⟨_, List.getElem?_eq_getElem (by omega)⟩
        exact ⟨D0 i, D1 i, by show Lies w0 B (lb.getD i default) _ _ _; rw [getD_some hy]; exact (hO i y hy).2.2.2.2.2⟩
    · simp only [List.mem_append, news, List.mem_map, List.mem_range] at hf
      rcases hf with hf | ⟨i, hi, rfl⟩
      · exact hph f hf
      · have := hm (i + 1) la.length (by omega) (Nat.le_refl _)
        show s (i + 1) ≤ B
        omega
    · refine List.pairwise_append.2 ⟨hapr, ?_, fun f hf f' hf' => ?_⟩
      · unfold news
        rw [List.pairwise_map]
        refine List.Pairwise.imp_of_mem ?_ (List.pairwise_lt_range)
        intro i i' hi hi' hlt
        simp only [List.mem_range] at hi hi'
        exact .inl (hm (i + 1) i' (by omega) (by omega))
      · simp only [news, List.mem_map, List.mem_range] at hf'
        obtain ⟨i, hi, rfl⟩ := hf'
        have m1 := hm 0 i (by omega) (by omega)
        have m2 := hm (i + 1) la.length (by omega) (Nat.le_refl _)
        rcases hap f hf with h | h
        · exact .inl (by show f.hi ≤ s i; dsimp only at h; omega)
        · exact .inr (by show s (i + 1) ≤ f.lo; dsimp only at h; omega)
    · have m1 := hm 0 i (by omega) (by omega)
      have m2 := hm (i + 1) la.length (by omega) (Nat.le_refl _)
      rcases hq with h | h | rfl
      · omega
      · omega
      · omega
    · rcases hap f hf with h | h
      · dsimp only at h; omega
      · dsimp only at h; omega

end Go.Proofs.Ytgdhmdhbpakahaa
