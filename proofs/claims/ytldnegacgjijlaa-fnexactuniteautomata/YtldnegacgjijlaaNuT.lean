/- Rows of edges by append of another row; the walk of slices.Clone of edges. -/
import Derived.Test.YtldnegacgjijlaaOwT
import Derived.Test.YtldnegacgjijlaaTrM
import Derived.Deep.Upon
namespace Go.Proofs.Ytldnegacgjijlaa
open Go.RowKit

theorem cellsT_get {es : List Tr} {j : Nat} {u : Value} (h : (cellsT es)[j]? = some u) : ∃ (i k : Nat) (e : Tr), j = i * 4 + k ∧ k < 4 ∧ es[i]? = some e ∧ ((k = 0 ∧ u = .int .i64 e.fr) ∨ (k = 1 ∧ u = .int .i64 e.ca) ∨ (k = 2 ∧ u = .int .i64 e.va) ∨ (k = 3 ∧ u = .int .i64 e.tt)) := by
  have hl : j < (cellsT es).length := (List.getElem?_eq_some_iff.1 h).1
  rw [cellsT_len] at hl
  have hi : j / 4 < es.length := by omega
  have he : es[j / 4]? = some es[j / 4] := List.getElem?_eq_getElem hi
  obtain ⟨c0, c1, c2, c3⟩ := cellsT_at he
  refine ⟨j / 4, j % 4, es[j / 4], by omega, by omega, he, ?_⟩
  have hj : j = j / 4 * 4 + j % 4 := by omega
  rcases (by omega : j % 4 = 0 ∨ j % 4 = 1 ∨ j % 4 = 2 ∨ j % 4 = 3) with h4 | h4 | h4 | h4
  · rw [hj, h4, Nat.add_zero, c0] at h
    injection h with h
    exact .inl ⟨h4, h.symm⟩
  · rw [hj, h4, c1] at h
    injection h with h
    exact .inr (.inl ⟨h4, h.symm⟩)
  · rw [hj, h4, c2] at h
    injection h with h
    exact .inr (.inr (.inl ⟨h4, h.symm⟩))
  · rw [hj, h4, c3] at h
    injection h with h
    exact .inr (.inr (.inr ⟨h4, h.symm⟩))
theorem cellsT_app (xs ys : List Tr) : cellsT (xs ++ ys) = cellsT xs ++ cellsT ys := by unfold cellsT; rw [List.flatMap_append]

/-- Edges in a row of one's own, block g. -/
def OwnG (w : World) (base g : Nat) (zs : List Tr) (cap : Nat) : Prop := OwnT w base (.slice (some ⟨g, 0, none⟩) zs.length cap) zs
theorem OwnG.parts {w : World} {base g cap : Nat} {zs : List Tr} (h : OwnG w base g zs cap) : ∃ cur : Array Value, base ≤ g ∧ w.heap[g]? = some (.cells cur 116 (0, 0)) ∧ zs.length ≤ cap ∧ cap ≤ maxLen ∧ cur.size = cap * 4 ∧ cur.toList.take (zs.length * 4) = cellsT zs := by
  rcases h.2 with ⟨h1, _⟩ | ⟨g', cap', cur, hv, hb, hh, q1, q2, q3, ht⟩
  · cases h1
  · injection hv with e1 e2 e3
    injection e1 with e1
    injection e1 with e1
    subst e1
    subst e3
    exact ⟨cur, hb, hh, q1, q2, q3, ht⟩
theorem OwnG.le {w : World} {base g cap : Nat} {zs : List Tr} (h : OwnG w base g zs cap) : base ≤ g := by
  obtain ⟨_, h1, _⟩ := h.parts
  exact h1
theorem OwnG.row {w : World} {base g cap : Nat} {zs : List Tr} (h : OwnG w base g zs cap) : ∃ cur, Row w g 116 cur := by
  obtain ⟨cur, _, h1, _⟩ := h.parts
  exact ⟨cur, h1⟩
theorem OwnG.lt {w : World} {base g cap : Nat} {zs : List Tr} (h : OwnG w base g zs cap) : g < w.heap.size := by
  obtain ⟨cur, h1⟩ := h.row
  exact h1.lt
theorem OwnG.keep {w w' : World} {base g cap : Nat} {zs : List Tr} (h : OwnG w base g zs cap) (hk : w'.heap[g]? = w.heap[g]?) : OwnG w' base g zs cap := by
  obtain ⟨cur, h1, h2, h3⟩ := h.parts
  exact ⟨h.1, .inr ⟨g, cap, cur, rfl, h1, by rw [hk]; exact h2, h3⟩⟩
theorem OwnG.empty {w : World} {base g : Nat} (hb : base ≤ g) (h : Row w g 116 #[]) : OwnG w base g [] 0 :=
  ⟨rfl, .inr ⟨g, 0, #[], rfl, hb, h, Nat.le_refl _, Nat.zero_le _, rfl, rfl⟩⟩
theorem OwnG.base {w : World} {base b2 g cap : Nat} {zs : List Tr} (h : OwnG w base g zs cap) (hb : b2 ≤ g) : OwnG w b2 g zs cap := by
  obtain ⟨cur, _, h2, h3⟩ := h.parts
  exact ⟨h.1, .inr ⟨g, cap, cur, rfl, hb, h2, h3⟩⟩
theorem OwnG.tri {w : World} {base g cap : Nat} {zs : List Tr} (h : OwnG w base g zs cap) : TrI w g (g + 1) zs (.slice (some ⟨g, 0, none⟩) zs.length cap) := by
  obtain ⟨cur, _, hh, _, _, _, ht⟩ := h.parts
  have hr : Row w g 116 cur := hh
  refine ⟨_, _, rfl, .inr ⟨g, cur, rfl, Nat.le_refl _, by omega, hr, fun i s hs => ?_⟩⟩
  obtain ⟨c0, c1, c2, c3⟩ := cellsT_at hs
  have key : ∀ (j : Nat) (u : Value), (cellsT zs)[j]? = some u → cur[j]? = some u := fun j u hu => by
    rw [← ht, List.getElem?_take] at hu
    split at hu
    · simpa using hu
    · cases hu
  exact ⟨key _ _ c0, key _ _ c1, key _ _ c2, key _ _ c3⟩

/-- The second row is read into the first one, or into a new one with it. -/
theorem run_trs (X : World) (ty : TypeId) (base g0 c0 : Nat) (zs ys : List Tr) (hown : OwnG X base g0 zs c0) (A : Option Addr) (b off c : Nat) (hI : Trs X X.heap.size A b off ys) (h63 : zs.length + ys.length ≤ 2097152) (hbase : base ≤ X.heap.size) :
    ∃ (g cap : Nat) (w' : World), (Builtin.append_ #[49, 49] ty #[.slice (some ⟨g0, 0, none⟩) zs.length c0, .slice A ys.length c]).run Try.prog X = .ok (.slice (some ⟨g, 0, none⟩) (zs ++ ys).length cap) w' ∧ OwnG w' base g (zs ++ ys) cap ∧ X.grownBy w' (some g0) ∧ (g = g0 ∨ g = X.heap.size) ∧ g < w'.heap.size := by
  obtain ⟨i0, hi0, hz0, hz1, hz2⟩ := info_parts infoT
  by_cases h0 : ys.length = 0
  · have hnil : ys = [] := List.length_eq_zero_iff.1 h0
    subst hnil
    have hs : Go.Src Try.prog i0.size 49 (.slice A 0 c) 0 [] X := by
      cases A with
      | none => exact Go.Src.ofNil X Try.underlying49 c
      | some ad => exact Go.Src.ofSlice X Try.underlying49 ad 0 c [] (by simp) (fun j u h => by simp at h) (fun u h => by simp at h)
    obtain ⟨cur, h1, h2, h3, _⟩ := hown.parts
    refine ⟨g0, c0, X, by rw [List.append_nil]; exact run_append_nothing X 49 49 ty 116 i0 Try.underlying49 hi0 (some ⟨g0, 0, none⟩) zs.length c0 h3 _ hs, by rw [List.append_nil]; exact hown, ⟨rfl, rfl, rfl, Nat.le_refl _, fun _ _ _ => rfl⟩, .inl rfl, hown.lt⟩
  · obtain ⟨y0, hy0⟩ : ∃ y, ys[0]? = some y := ⟨_, List.getElem?_eq_getElem (by omega)⟩
    obtain ⟨rfl, _⟩ := hI 0 y0 hy0
    obtain ⟨v', w', hr, h2, h3, h4, h5⟩ := run_append_own_at (P := Try.prog) X base 49 ty 116 i0 (.agg #[.int .i64 0, .int .i64 0, .int .i64 0, .int .i64 0]) 4 32 Try.underlying49 hi0 hz0 hz1 hz2 rfl (by decide) _ zs.length _ hown ⟨b, off, none⟩ ys.length c (cellsT ys) (by rw [cellsT_len]) (fun j u hu => by
      obtain ⟨i, k, e, rfl, hk, he, hc⟩ := cellsT_get hu
      obtain ⟨_, _, t0, t1, t2, t3, _⟩ := hI i e he
      rw [show (⟨b, off, none⟩ : Addr).add (i * 4 + k) = ⟨b, off + (i * 4 + k), none⟩ by unfold Addr.add; split <;> simp_all]
      rcases hc with ⟨rfl, rfl⟩ | ⟨rfl, rfl⟩ | ⟨rfl, rfl⟩ | ⟨rfl, rfl⟩
      · exact t0
      · rw [← Nat.add_assoc]; exact t1
      · rw [← Nat.add_assoc]; exact t2
      · rw [← Nat.add_assoc]; exact t3) (fun u hu => by
      obtain ⟨j, hj⟩ := List.getElem?_of_mem hu
      obtain ⟨i, k, e, _, _, _, hc⟩ := cellsT_get hj
      rcases hc with ⟨_, rfl⟩ | ⟨_, rfl⟩ | ⟨_, rfl⟩ | ⟨_, rfl⟩ <;> rfl) (by unfold maxLen; omega) (by omega) hbase
    rcases h2.2 with ⟨_, hx⟩ | ⟨g, cap, cur, rfl, q1, q2, q3⟩
    · omega
    · refine ⟨g, cap, w', by rw [List.length_append]; exact hr, ?_, h3, ?_, ?_⟩
      · unfold OwnG OwnT
        rw [List.length_append, cellsT_app]
        exact h2
      · rcases h5 with h5 | h5
        · left; simpa [Value.ownBlock] using h5
        · right; simpa [Value.ownBlock] using h5
      · rcases Nat.lt_or_ge g w'.heap.size with hlt | hge
        · exact hlt
        · rw [Array.getElem?_eq_none hge] at q2; cases q2
theorem below_grow {lo g0 : Nat} {a w w' : World} (h : Below lo a w) (hg : w.grownBy w' (some g0)) (hl : lo ≤ w.heap.size) (h0 : lo ≤ g0) : Below lo a w' := h.grown hg hl (fun q hq => by injection hq with hq; omega)
theorem wpList_trs {X : World} {ops : Array Oper} {rest : List Oper} {o : Oper} {a : Act} {Q : Exit → Act → World → Prop} (hgd : o.guard = none) (s x : Operand)
    (ho : o.op = .call { callee := .builtin .append, args := #[s, x], argTypes := #[49, 49] }) (base g0 c0 : Nat) (zs ys : List Tr) (A : Option Addr) (b off c : Nat) (hs : a.eval s = .slice (some ⟨g0, 0, none⟩) zs.length c0) (hx : a.eval x = .slice A ys.length c)
    (hown : OwnG X base g0 zs c0) (hI : Trs X X.heap.size A b off ys) (h63 : zs.length + ys.length ≤ 2097152) (hbase : base ≤ X.heap.size)
    (h : ∀ (g cap : Nat) (w' : World), OwnG w' base g (zs ++ ys) cap → X.grownBy w' (some g0) → (g = g0 ∨ g = X.heap.size) → g < w'.heap.size → wpList Try.prog ops Q rest (a.put o.dst (.slice (some ⟨g, 0, none⟩) (zs ++ ys).length cap)) w') : wpList Try.prog ops Q (o :: rest) a X := by
  obtain ⟨g, cap, w', hr, h1, h2, h3, h4⟩ := run_trs X o.type base g0 c0 zs ys hown A b off c hI h63 hbase
  exact wpList_append_eq hgd s x 49 ho hs hx hr (h g cap w' h1 h2 h3 h4)

/-- What a copy of edges leaves. -/
def RowPostT (zs : List Tr) (w : World) (e' : Ending) (w' : World) : Prop :=
  ∃ (A : Option Addr) (k : Nat), e' = .returned (.slice A zs.length k) ∧ ((A = none ∧ zs = [] ∧ k = 0) ∨ ∃ g, A = some ⟨g, 0, none⟩ ∧ OwnG w' w.heap.size g zs k) ∧ Below w.heap.size w w'
set_option maxHeartbeats 400000 in
set_option maxRecDepth 100000 in
theorem cloneT_any (zs : List Tr) (A : Option Addr) (cap b off : Nat) (w : World) (hz : zs.length ≤ 1048576) (hI : Trs w w.heap.size A b off zs) :
    Calls Try.prog 68 #[.slice A zs.length cap] w (RowPostT zs w) := by
  cases A with
  | none =>
    have h0 : zs = [] := by
      cases zs with
      | nil => rfl
      | cons z r => exact absurd (hI 0 z rfl).1 (by simp)
    subst h0
    have hnil : Sem.run Try.prog (binOp BinOp.eql 49 (.slice none 0 cap) (.slice none 0 0)) w = .ok (.bool true) w := by kernel_rfl
    clear hI hz
    go_enter Try.func68, Try.ntmps68
    go_wp2_with fail
    go_ret
    exact ⟨none, 0, rfl, .inl ⟨rfl, rfl, rfl⟩, Below.refl _ _⟩
  | some ad =>
    have hnil : Sem.run Try.prog (binOp BinOp.eql 49 (.slice (some ad) zs.length cap) (.slice none 0 0)) w = .ok (.bool false) w := by kernel_rfl
    have HI := Lib.hid (hI.under (B' := (w.alloc (.cells #[] 116)).heap.size) ((Below.refl _ w).alloc (Nat.le_refl _) (.cells #[] 116)) (by simp))
    have HO : Hid (OwnG (w.alloc (.cells #[] 116)) w.heap.size w.heap.size [] 0) := OwnG.empty (Nat.le_refl _) (Row.new _ _ _)
    obtain ⟨n, hn⟩ : ∃ n, n = zs.length := ⟨_, rfl⟩
    have HN := Lib.hid hn
    rw [← hn] at hnil ⊢
    clear hI hn
    go_enter Try.func68, Try.ntmps68
    go_wp2_with (at_builtin; refine wpList_trs rfl (.tmp 5) (.tmp 6) rfl w.heap.size w.heap.size 0 [] zs (some ad) b off cap rfl (by rw [← HN.out]; rfl) HO.out HI.out (by simp; omega) (by simp) ?_; intro g k w' hown hgrow hat hlt)
    have HOw := Lib.hid hown
    have HB : Hid (Below w.heap.size w w') := below_grow ((Below.refl _ w).alloc (Nat.le_refl _) _) hgrow (by simp) (Nat.le_refl _)
    clear hown hgrow hat
    go_wp2_with fail
    go_ret
    exact ⟨some ⟨g, 0, none⟩, k, rfl, .inr ⟨g, rfl, HOw.out⟩, HB.out⟩

end Go.Proofs.Ytldnegacgjijlaa
