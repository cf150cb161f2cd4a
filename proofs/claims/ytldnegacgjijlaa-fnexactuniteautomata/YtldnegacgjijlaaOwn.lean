/- A tree that lies in rows of the call's own, from one block on: each row is a block by itself, known whole, none of it frozen. Nothing is assumed. -/
import Derived.Test.YtldnegacgjijlaaMem
import Derived.Laws.OwnMore
import Derived.Laws.Rows
namespace Go.Proofs.Ytldnegacgjijlaa
open Go.RowKit

/-- Block g is just these cells, none frozen. -/
def Row (w : World) (g : Nat) (t : TypeId) (cs : Array Value) : Prop := w.heap[g]? = some (.cells cs t (0, 0))

section
variable {w w' : World} {g : Nat} {t : TypeId} {cs : Array Value}
theorem Row.lt (h : Row w g t cs) : g < w.heap.size := by
  rcases Nat.lt_or_ge g w.heap.size with hlt | hge
  · exact hlt
  · unfold Row at h; rw [Array.getElem?_eq_none hge] at h; cases h
theorem Row.cell (h : Row w g t cs) (i : Nat) : w.cell? ⟨g, i, none⟩ = cs[i]? := cell_of_row w g i cs t (0, 0) h
theorem Row.frozen (h : Row w g t cs) (i : Nat) : w.frozen? ⟨g, i, none⟩ = false := by
  unfold Row at h
  simp [World.frozen?, h]
theorem Row.new (w : World) (t : TypeId) (cs : Array Value) : Row (w.alloc (.cells cs t)) w.heap.size t cs := heap_alloc_new w _
theorem Row.set_ (h : Row w g t cs) (i : Nat) (u : Value) : Row (w.setCell ⟨g, i, none⟩ u) g t (cs.setIfInBounds i u) := by
  unfold Row at h ⊢
  simp [World.setCell, Array.getElem?_modify, h]
theorem Row.under {B : Nat} (h : Row w g t cs) (hb : Below B w w') (hg : g < B) : Row w' g t cs := (hb.block g hg).trans h
end

/-- The three cells of a node hold the tree, and every row that is reached is a block from lo on and below hi. -/
inductive Own (w : World) (t : TypeId) (lo hi : Nat) : Ex → Value → Value → Value → Prop
  | mk (k v : Int) (kids : List Ex) (A : Option Addr) (cap g : Nat) (cs : Array Value) (C0 C1 C2 : Nat → Value) (hl : kids.length ≤ maxLen)
      (hA : ∀ (i : Nat) (x : Ex), kids[i]? = some x → A = some ⟨g, 0, none⟩ ∧ lo ≤ g ∧ g < hi ∧ Row w g t cs)
      (h0 : ∀ (i : Nat) (x : Ex), kids[i]? = some x → cs[i * 3]? = some (C0 i))
      (h1 : ∀ (i : Nat) (x : Ex), kids[i]? = some x → cs[i * 3 + 1]? = some (C1 i))
      (h2 : ∀ (i : Nat) (x : Ex), kids[i]? = some x → cs[i * 3 + 2]? = some (C2 i))
      (hr : ∀ (i : Nat) (x : Ex), kids[i]? = some x → Own w t lo hi x (C0 i) (C1 i) (C2 i)) :
      Own w t lo hi (.node k v kids) (.int .i64 k) (.int .i64 v) (.slice A kids.length cap)

theorem Own.keep {w w' : World} {t : TypeId} {lo hi lo' hi' : Nat} (hlo : lo' ≤ lo) (hhi : hi ≤ hi') (hk : ∀ g, lo ≤ g → g < hi → w'.heap[g]? = w.heap[g]?) {e : Ex} {c0 c1 c2 : Value} (h : Own w t lo hi e c0 c1 c2) : Own w' t lo' hi' e c0 c1 c2 := by
  induction h with
  | mk k v kids A cap g cs C0 C1 C2 hl hA h0 h1 h2 hr ih =>
    exact .mk k v kids A cap g cs C0 C1 C2 hl (fun i x hx => by
      obtain ⟨a, b, c, d⟩ := hA i x hx
      exact ⟨a, by omega, by omega, (hk g b c).trans d⟩) h0 h1 h2 ih

theorem Own.under {w w' : World} {t : TypeId} {lo hi B : Nat} {e : Ex} {c0 c1 c2 : Value} (h : Own w t lo hi e c0 c1 c2) (hb : Below B w w') (hB : hi ≤ B) : Own w' t lo hi e c0 c1 c2 :=
  h.keep (Nat.le_refl _) (Nat.le_refl _) fun g _ hg => hb.block g (by omega)

theorem Own.more {w : World} {t : TypeId} {lo hi lo' hi' : Nat} {e : Ex} {c0 c1 c2 : Value} (h : Own w t lo hi e c0 c1 c2) (hlo : lo' ≤ lo) (hhi : hi ≤ hi') : Own w t lo' hi' e c0 c1 c2 := h.keep hlo hhi fun _ _ _ => rfl

theorem Own.lies {w : World} {t : TypeId} {lo hi : Nat} {e : Ex} {c0 c1 c2 : Value} (h : Own w t lo hi e c0 c1 c2) : Lies w hi e c0 c1 c2 := by
  induction h with
  | mk k v kids A cap g cs C0 C1 C2 hl hA h0 h1 h2 hr ih =>
    exact .mk k v kids A cap g 0 C0 C1 C2 hl (fun i x hx => ⟨(hA i x hx).1, (hA i x hx).2.2.1⟩)
      (fun i x hx => by rw [Nat.zero_add, (hA i x hx).2.2.2.cell]; exact h0 i x hx) (fun i x hx => by rw [Nat.zero_add, (hA i x hx).2.2.2.cell]; exact h1 i x hx) (fun i x hx => by rw [Nat.zero_add, (hA i x hx).2.2.2.cell]; exact h2 i x hx) ih

theorem Own.form {w : World} {t : TypeId} {lo hi : Nat} {e : Ex} {c0 c1 c2 : Value} (h : Own w t lo hi e c0 c1 c2) : ∃ (n0 n1 : Int) (a : Option Addr) (l c : Nat), c0 = .int .i64 n0 ∧ c1 = .int .i64 n1 ∧ c2 = .slice a l c := by
  cases h with
  | mk k v kids A cap g cs C0 C1 C2 hl hA h0 h1 h2 hr => exact ⟨k, v, A, kids.length, cap, rfl, rfl, rfl⟩

theorem Lies.form {w : World} {B : Nat} {e : Ex} {c0 c1 c2 : Value} (h : Lies w B e c0 c1 c2) : ∃ (n0 n1 : Int) (a : Option Addr) (l c : Nat), c0 = .int .i64 n0 ∧ c1 = .int .i64 n1 ∧ c2 = .slice a l c := by
  cases h with
  | mk k v kids A cap b off C0 C1 C2 hl hA h0 h1 h2 hr => exact ⟨k, v, A, kids.length, cap, rfl, rfl, rfl⟩

/-- The first j operands have been laid into row g; what they reach lies behind it. -/
def Laid (w : World) (t : TypeId) (g : Nat) (kids : List Ex) (j : Nat) : Prop :=
  ∃ (cs : Array Value) (C0 C1 C2 : Nat → Value), Row w g t cs ∧ cs.size = kids.length * 3 ∧
    ∀ (i : Nat) (x : Ex), kids[i]? = some x → i < j → cs[i * 3]? = some (C0 i) ∧ cs[i * 3 + 1]? = some (C1 i) ∧ cs[i * 3 + 2]? = some (C2 i) ∧ Own w t (g + 1) w.heap.size x (C0 i) (C1 i) (C2 i)

theorem Laid.under {w w' : World} {t : TypeId} {g : Nat} {kids : List Ex} {j : Nat} (h : Laid w t g kids j) (hb : Below w.heap.size w w') : Laid w' t g kids j := by
  obtain ⟨cs, C0, C1, C2, hr, hs, hk⟩ := h
  refine ⟨cs, C0, C1, C2, hr.under hb hr.lt, hs, fun i x hx hi => ?_⟩
  obtain ⟨a, b, c, d⟩ := hk i x hx hi
  exact ⟨a, b, c, (d.under hb (Nat.le_refl _)).more (Nat.le_refl _) hb.size⟩

/-- The three cells of an operand that is not laid yet. -/
theorem Laid.cells {w : World} {t : TypeId} {g : Nat} {kids : List Ex} {j : Nat} (h : Laid w t g kids j) (hj : j < kids.length) :
    (∃ u0 u1 u2, w.cell? ⟨g, j * 3, none⟩ = some u0 ∧ w.cell? ⟨g, j * 3 + 1, none⟩ = some u1 ∧ w.cell? ⟨g, j * 3 + 2, none⟩ = some u2) ∧ ∀ i, w.frozen? ⟨g, i, none⟩ = false := by
  obtain ⟨cs, C0, C1, C2, hr, hs, hk⟩ := h
  refine ⟨⟨cs[j * 3], cs[j * 3 + 1], cs[j * 3 + 2], ?_, ?_, ?_⟩, hr.frozen⟩ <;> rw [hr.cell] <;> exact Array.getElem?_eq_getElem _

theorem heap_setCell_size (w : World) (p : Addr) (u : Value) : (w.setCell p u).heap.size = w.heap.size := by simp [World.setCell]

/-- One operand more. -/
theorem Laid.step {w : World} {t : TypeId} {g : Nat} {kids : List Ex} {j : Nat} (h : Laid w t g kids j) (hj : j < kids.length) {x : Ex} (hx : kids[j]? = some x) {d0 d1 d2 : Value} (ho : Own w t (g + 1) w.heap.size x d0 d1 d2) :
    Laid (((w.setCell ⟨g, j * 3, none⟩ d0).setCell ⟨g, j * 3 + 1, none⟩ d1).setCell ⟨g, j * 3 + 2, none⟩ d2) t g kids (j + 1) := by
  obtain ⟨cs, C0, C1, C2, hr, hs, hk⟩ := h
  refine ⟨((cs.setIfInBounds (j * 3) d0).setIfInBounds (j * 3 + 1) d1).setIfInBounds (j * 3 + 2) d2, fun i => if i = j then d0 else C0 i, fun i => if i = j then d1 else C1 i, fun i => if i = j then d2 else C2 i,
    ((hr.set_ _ _).set_ _ _).set_ _ _, by simp [hs], fun i y hy hi => ?_⟩
  have kept : ∀ q, g + 1 ≤ q → (((w.setCell ⟨g, j * 3, none⟩ d0).setCell ⟨g, j * 3 + 1, none⟩ d1).setCell ⟨g, j * 3 + 2, none⟩ d2).heap[q]? = w.heap[q]? := fun q hq => by
    rw [Below.heap_setCell _ _ _ _ (by simp; omega), Below.heap_setCell _ _ _ _ (by simp; omega), Below.heap_setCell _ _ _ _ (by simp; omega)]
  have hsz : (((w.setCell ⟨g, j * 3, none⟩ d0).setCell ⟨g, j * 3 + 1, none⟩ d1).setCell ⟨g, j * 3 + 2, none⟩ d2).heap.size = w.heap.size := by simp
  rw [hsz]
  simp only [Array.getElem?_setIfInBounds, Array.size_setIfInBounds, hs]
  by_cases e : i = j
  · subst e
    rw [hy] at hx
    injection hx with hx
    subst hx
    refine ⟨?_, ?_, ?_, ?_⟩
    · rw [if_neg (by omega), if_neg (by omega), if_pos rfl, if_pos (by omega), if_pos rfl]
    · rw [if_neg (by omega), if_pos rfl, if_pos (by omega), if_pos rfl]
    · rw [if_pos rfl, if_pos (by omega), if_pos rfl]
    · simp only [if_true]
      exact ho.keep (Nat.le_refl _) (Nat.le_refl _) fun q hq _ => kept q hq
  · obtain ⟨a, b, c, d⟩ := hk i y hy (by omega)
    refine ⟨?_, ?_, ?_, ?_⟩
    · rw [if_neg (by omega), if_neg (by omega), if_neg (by omega), if_neg e]; exact a
    · rw [if_neg (by omega), if_neg (by omega), if_neg (by omega), if_neg e]; exact b
    · rw [if_neg (by omega), if_neg (by omega), if_neg (by omega), if_neg e]; exact c
    · simp only [if_neg e]
      exact d.keep (Nat.le_refl _) (Nat.le_refl _) fun q hq _ => kept q hq

theorem Laid.own {w : World} {t : TypeId} {g : Nat} {kids : List Ex} (h : Laid w t g kids kids.length) (hl : kids.length ≤ maxLen) (k v : Int) (cap : Nat) : Own w t g w.heap.size (.node k v kids) (.int .i64 k) (.int .i64 v) (.slice (some ⟨g, 0, none⟩) kids.length cap) := by
  obtain ⟨cs, C0, C1, C2, hr, hs, hk⟩ := h
  have lt : ∀ (i : Nat) (x : Ex), kids[i]? = some x → i < kids.length := fun i x hx => (List.getElem?_eq_some_iff.1 hx).1
  exact .mk k v kids _ cap g cs C0 C1 C2 hl (fun i x hx => ⟨rfl, Nat.le_refl _, hr.lt, hr⟩) (fun i x hx => (hk i x hx (lt i x hx)).1) (fun i x hx => (hk i x hx (lt i x hx)).2.1) (fun i x hx => (hk i x hx (lt i x hx)).2.2.1)
    (fun i x hx => (hk i x hx (lt i x hx)).2.2.2.more (Nat.le_succ _) (Nat.le_refl _))

theorem Laid.start {w : World} {t : TypeId} {kids : List Ex} {cs : Array Value} (hs : cs.size = kids.length * 3) : Laid (w.alloc (.cells cs t)) t w.heap.size kids 0 :=
  ⟨cs, fun _ => undef, fun _ => undef, fun _ => undef, Row.new w t cs, hs, fun _ _ _ hi => absurd hi (Nat.not_lt_zero _)⟩

theorem mono_to {s : Nat → Nat} {n : Nat} (hs : ∀ i, i < n → s i ≤ s (i + 1)) : ∀ j i, i ≤ j → j ≤ n → s i ≤ s j := by
  intro j
  induction j with
  | zero => intro i hi _; have : i = 0 := by omega
            subst this; exact Nat.le_refl _
  | succ j ih =>
    intro i hi hj
    by_cases e : i = j + 1
    · subst e; exact Nat.le_refl _
    · exact Nat.le_trans (ih i (by omega) (by omega)) (hs j (by omega))

end Go.Proofs.Ytldnegacgjijlaa
