/- Rows of numbers that an append makes: the operation in a walk and in a region that draws its order. -/
import Derived.Test.YtldnegacgjijlaaStX
import Derived.Test.YtldnegacgjijlaaCl0
import Derived.Deep.AppendSrc
import Derived.Deep.Upon
import Derived.Maps.AppendAt
namespace Go.Proofs.Ytldnegacgjijlaa
namespace La
open Go.RowKit

/-- The numbers lie in a row of one's own. -/
def OwnI (w : World) (base g : Nat) (zs : List Int) (cap : Nat) : Prop := w.ownsRow base 3 1 (.slice (some ⟨g, 0, none⟩) zs.length cap) zs.length (zs.map (Value.int .i64))
theorem OwnI.parts {w : World} {base g cap : Nat} {zs : List Int} (h : OwnI w base g zs cap) : ∃ cur : Array Value, base ≤ g ∧ w.heap[g]? = some (.cells cur 3 (0, 0)) ∧ zs.length ≤ cap ∧ cap ≤ maxLen ∧ cur.size = cap * 1 ∧ cur.toList.take (zs.length * 1) = zs.map (Value.int .i64) := by
  rcases h.2 with ⟨h1, _⟩ | ⟨g', cap', cur, hv, hb, hh, q1, q2, q3, ht⟩
  · cases h1
  · injection hv with e1 e2 e3
    injection e1 with e1
    injection e1 with e1
    subst e1
    subst e3
    exact ⟨cur, hb, hh, q1, q2, q3, ht⟩
theorem OwnI.row {w : World} {base g cap : Nat} {zs : List Int} (h : OwnI w base g zs cap) : ∃ cs : Array Value, Row w g 3 cs ∧ ∀ (i : Nat) (z : Int), zs[i]? = some z → cs[i]? = some (Value.int .i64 z) := by
  obtain ⟨cs, _, h2, h3⟩ := row_of_owns h
  exact ⟨cs, h2, fun i z hz => h3 i _ (by rw [List.getElem?_map, hz]; rfl)⟩
theorem OwnI.le {w : World} {base g cap : Nat} {zs : List Int} (h : OwnI w base g zs cap) : base ≤ g := by
  obtain ⟨_, h1, _⟩ := row_of_owns h
  exact h1
theorem OwnI.lt {w : World} {base g cap : Nat} {zs : List Int} (h : OwnI w base g zs cap) : g < w.heap.size := by
  obtain ⟨cs, h1, _⟩ := h.row
  exact h1.lt
theorem OwnI.keep {w w' : World} {base g cap : Nat} {zs : List Int} (h : OwnI w base g zs cap) (hk : w'.heap[g]? = w.heap[g]?) : OwnI w' base g zs cap := by
  obtain ⟨cur, h1, h2, h3⟩ := h.parts
  exact ⟨h.1, .inr ⟨g, cap, cur, rfl, h1, by rw [hk]; exact h2, h3⟩⟩
theorem OwnI.empty {w : World} {base g : Nat} (hb : base ≤ g) (h : Row w g 3 #[]) : OwnI w base g [] 0 :=
  ⟨rfl, .inr ⟨g, 0, #[], rfl, hb, h, Nat.le_refl _, Nat.zero_le _, rfl, rfl⟩⟩
theorem OwnI.base {w : World} {base b2 g cap : Nat} {zs : List Int} (h : OwnI w base g zs cap) (hb : b2 ≤ g) : OwnI w b2 g zs cap := by
  obtain ⟨cur, _, h2, h3⟩ := h.parts
  exact ⟨h.1, .inr ⟨g, cap, cur, rfl, hb, h2, h3⟩⟩
theorem OwnI.sep {w : World} {base g cap : Nat} {zs : List Int} (h : OwnI w base g zs cap) (hz : zs.length ≤ 1048576) : (Lay.int.slice 3).sep w g (g + 1) zs (fun _ => .slice (some ⟨g, 0, none⟩) zs.length cap) := by
  obtain ⟨cs, h1, h2⟩ := h.row
  exact sep_row h1 (by unfold maxLen; omega) h2
theorem OwnI.ints {w : World} {base g cap : Nat} {zs : List Int} (h : OwnI w base g zs cap) {B : Nat} (hB : g < B) : Ints w B (some ⟨g, 0, none⟩) g 0 zs := fun i z hz => by
  obtain ⟨cs, h1, h2⟩ := h.row
  exact ⟨rfl, hB, by rw [h1.cell, Nat.zero_add]; exact h2 i z hz⟩

/-- The second row is read into the first one, or into a new one with it. -/
theorem run_ints (X : World) (ty : TypeId) (base g0 c0 : Nat) (zs ys : List Int) (hown : OwnI X base g0 zs c0) (A : Option Addr) (b off c : Nat) (hI : Ints X X.heap.size A b off ys) (h63 : zs.length + ys.length ≤ 2097152) (hbase : base ≤ X.heap.size) :
    ∃ (g cap : Nat) (w' : World), (Builtin.append_ #[22, 22] ty #[.slice (some ⟨g0, 0, none⟩) zs.length c0, .slice A ys.length c]).run Try.prog X = .ok (.slice (some ⟨g, 0, none⟩) (zs ++ ys).length cap) w' ∧ OwnI w' base g (zs ++ ys) cap ∧ X.grownBy w' (some g0) ∧ (g = g0 ∨ g = X.heap.size) ∧ g < w'.heap.size := by
  obtain ⟨i0, hi0, hz0, hz1, hz2⟩ := info_parts Try.info3
  by_cases h0 : ys.length = 0
  · have hnil : ys = [] := List.length_eq_zero_iff.1 h0
    subst hnil
    have hs : Go.Src Try.prog i0.size 22 (.slice A 0 c) 0 [] X := by
      cases A with
      | none => exact Go.Src.ofNil X Try.underlying22 c
      | some ad => exact Go.Src.ofSlice X Try.underlying22 ad 0 c [] (by simp) (fun j u h => by simp at h) (fun u h => by simp at h)
    obtain ⟨cur, h1, h2, h3, _⟩ := hown.parts
    refine ⟨g0, c0, X, by rw [List.append_nil]; exact run_append_nothing X 22 22 ty 3 i0 Try.underlying22 hi0 (some ⟨g0, 0, none⟩) zs.length c0 h3 _ hs, by rw [List.append_nil]; exact hown, ⟨rfl, rfl, rfl, Nat.le_refl _, fun _ _ _ => rfl⟩, .inl rfl, hown.lt⟩
  · obtain ⟨y0, hy0⟩ : ∃ y, ys[0]? = some y := ⟨_, List.getElem?_eq_getElem (by omega)⟩
    obtain ⟨rfl, _, _⟩ := hI 0 y0 hy0
    obtain ⟨v', w', hr, h2, h3, h4, h5⟩ := run_append_own_at (P := Try.prog) X base 22 ty 3 i0 (.int .i64 0) 1 8 Try.underlying22 hi0 hz0 hz1 hz2 rfl (by decide) _ zs.length _ hown ⟨b, off, none⟩ ys.length c (ys.map (Value.int .i64)) (by simp) (fun j u hu => by
      rw [List.getElem?_map] at hu
      obtain ⟨y, hy, rfl⟩ := Option.map_eq_some_iff.1 hu
      have := (hI j y hy).2.2
      rw [show (⟨b, off, none⟩ : Addr).add j = ⟨b, off + j, none⟩ by unfold Addr.add; split <;> simp_all]
      exact this) (fun u hu => by
      obtain ⟨y, _, rfl⟩ := List.mem_map.1 hu
      rfl) (by unfold maxLen; omega) (by omega) hbase
    rcases h2.2 with ⟨_, hx⟩ | ⟨g, cap, cur, rfl, q1, q2, q3⟩
    · omega
    · refine ⟨g, cap, w', by rw [List.length_append]; exact hr, ?_, h3, ?_, ?_⟩
      · show World.ownsRow _ _ _ _ _ _ _
        rw [List.length_append, List.map_append]
        exact h2
      · rcases h5 with h5 | h5
        · left; simpa [Value.ownBlock] using h5
        · right; simpa [Value.ownBlock] using h5
      · rcases Nat.lt_or_ge g w'.heap.size with hlt | hge
        · exact hlt
        · rw [Array.getElem?_eq_none hge] at q2; cases q2
theorem Below.grow {lo g0 : Nat} {a w w' : World} (h : Below lo a w) (hg : w.grownBy w' (some g0)) (hl : lo ≤ w.heap.size) (h0 : lo ≤ g0) : Below lo a w' := h.grown hg hl (fun q hq => by injection hq with hq; omega)
theorem wpList_ints {X : World} {ops : Array Oper} {rest : List Oper} {o : Oper} {a : Act} {Q : Exit → Act → World → Prop} (hgd : o.guard = none) (s x : Operand)
    (ho : o.op = .call { callee := .builtin .append, args := #[s, x], argTypes := #[22, 22] }) (base g0 c0 : Nat) (zs ys : List Int) (A : Option Addr) (b off c : Nat) (hs : a.eval s = .slice (some ⟨g0, 0, none⟩) zs.length c0) (hx : a.eval x = .slice A ys.length c)
    (hown : OwnI X base g0 zs c0) (hI : Ints X X.heap.size A b off ys) (h63 : zs.length + ys.length ≤ 2097152) (hbase : base ≤ X.heap.size)
    (h : ∀ (g cap : Nat) (w' : World), OwnI w' base g (zs ++ ys) cap → X.grownBy w' (some g0) → (g = g0 ∨ g = X.heap.size) → g < w'.heap.size → wpList Try.prog ops Q rest (a.put o.dst (.slice (some ⟨g, 0, none⟩) (zs ++ ys).length cap)) w') : wpList Try.prog ops Q (o :: rest) a X := by
  obtain ⟨g, cap, w', hr, h1, h2, h3, h4⟩ := run_ints X o.type base g0 c0 zs ys hown A b off c hI h63 hbase
  exact wpList_append_eq hgd s x 22 ho hs hx hr (h g cap w' h1 h2 h3 h4)
theorem step_ints {X : World} {ops : Array Oper} {o : Oper} {a : Act} {K : Act → World → Prop} {Q : Exit → Act → World → Prop} {E : Prop} (hgd : o.guard = none) (s x : Operand)
    (ho : o.op = .call { callee := .builtin .append, args := #[s, x], argTypes := #[22, 22] }) (base g0 c0 : Nat) (zs ys : List Int) (A : Option Addr) (b off c : Nat) (hs : a.eval s = .slice (some ⟨g0, 0, none⟩) zs.length c0) (hx : a.eval x = .slice A ys.length c)
    (hown : OwnI X base g0 zs c0) (hI : Ints X X.heap.size A b off ys) (h63 : zs.length + ys.length ≤ 2097152) (hbase : base ≤ X.heap.size)
    (h : ∀ (g cap : Nat) (w' : World), OwnI w' base g (zs ++ ys) cap → X.grownBy w' (some g0) → (g = g0 ∨ g = X.heap.size) → g < w'.heap.size → K (a.put o.dst (.slice (some ⟨g, 0, none⟩) (zs ++ ys).length cap)) w') :
    if Region.wanted o (yielded ops a.tmps) = true then Oper.wp Try.prog o a X K Q else E := by
  obtain ⟨g, cap, w', hr, h1, h2, h3, h4⟩ := run_ints X o.type base g0 c0 zs ys hown A b off c hI h63 hbase
  exact step_append_eq hgd s x 22 ho hs hx hr (h g cap w' h1 h2 h3 h4)

end La
end Go.Proofs.Ytldnegacgjijlaa
