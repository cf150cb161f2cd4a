/- Trees whose rows are pairwise apart; the walk of impl.rebuildNode and of the fold that copies. -/
import Derived.Test.YtcipnecdeipeaaaDoorBld
import Derived.Test.YtcipnecdeipeaaaDoorGr
namespace Go.Proofs.YtcipnecdeipeaaaDoor
open Go.RowKit

/-- The three cells of a node hold the tree; the rows of each operand lie in an interval of its own, the node's row ahead of them or behind. -/
inductive Sep (w : World) : Nat → Nat → Ex → Value → Value → Value → Prop
  | mk (lo hi : Nat) (k v : Int) (kids : List Ex) (A : Option Addr) (cap g : Nat) (cs : Array Value) (C0 C1 C2 : Nat → Value) (s : Nat → Nat) (hl : kids.length ≤ maxLen)
      (hA : ∀ (i : Nat) (x : Ex), kids[i]? = some x → A = some ⟨g, 0, none⟩ ∧ lo ≤ g ∧ g < hi ∧ (g < s 0 ∨ s kids.length ≤ g) ∧ lo ≤ s 0 ∧ s kids.length ≤ hi ∧ Row w g 44 cs)
      (h0 : ∀ (i : Nat) (x : Ex), kids[i]? = some x → cs[i * 3]? = some (C0 i))
      (h1 : ∀ (i : Nat) (x : Ex), kids[i]? = some x → cs[i * 3 + 1]? = some (C1 i))
      (h2 : ∀ (i : Nat) (x : Ex), kids[i]? = some x → cs[i * 3 + 2]? = some (C2 i))
      (hs : ∀ i, i < kids.length → s i ≤ s (i + 1))
      (hr : ∀ (i : Nat) (x : Ex), kids[i]? = some x → Sep w (s i) (s (i + 1)) x (C0 i) (C1 i) (C2 i)) :
      Sep w lo hi (.node k v kids) (.int .i64 k) (.int .i64 v) (.slice A kids.length cap)

theorem Sep.keep {w w' : World} {lo hi : Nat} {e : Ex} {c0 c1 c2 : Value} (h : Sep w lo hi e c0 c1 c2) : (∀ g, lo ≤ g → g < hi → w'.heap[g]? = w.heap[g]?) → Sep w' lo hi e c0 c1 c2 := by
  induction h with
  | mk lo hi k v kids A cap g cs C0 C1 C2 s hl hA h0 h1 h2 hs hr ih =>
    intro hk
    refine .mk lo hi k v kids A cap g cs C0 C1 C2 s hl (fun i x hx => ?_) h0 h1 h2 hs (fun i x hx => ih i x hx fun q q1 q2 => ?_)
    · obtain ⟨a, b, c, d, e1, e2, r⟩ := hA i x hx
      exact ⟨a, b, c, d, e1, e2, (hk g b c).trans r⟩
    · obtain ⟨a, b, c, d, e1, e2, r⟩ := hA i x hx
      have hi := (List.getElem?_eq_some_iff.1 hx).1
      have m1 := mono_to hs i 0 (Nat.zero_le _) (by omega)
      have m2 := mono_to hs kids.length (i + 1) (by omega) (Nat.le_refl _)
      exact hk q (by omega) (by omega)

theorem Sep.more {w : World} {lo hi lo' hi' : Nat} {e : Ex} {c0 c1 c2 : Value} (h : Sep w lo hi e c0 c1 c2) (hlo : lo' ≤ lo) (hhi : hi ≤ hi') : Sep w lo' hi' e c0 c1 c2 := by
  cases h with
  | mk _ _ k v kids A cap g cs C0 C1 C2 s hl hA h0 h1 h2 hs hr =>
    exact .mk lo' hi' k v kids A cap g cs C0 C1 C2 s hl (fun i x hx => by
      obtain ⟨a, b, c, d, e1, e2, r⟩ := hA i x hx
      exact ⟨a, by omega, by omega, d, by omega, by omega, r⟩) h0 h1 h2 hs hr

theorem Sep.under {w w' : World} {lo hi B : Nat} {e : Ex} {c0 c1 c2 : Value} (h : Sep w lo hi e c0 c1 c2) (hb : Below B w w') (hB : hi ≤ B) : Sep w' lo hi e c0 c1 c2 := h.keep fun g _ hg => hb.block g (by omega)

theorem Sep.own {w : World} {lo hi : Nat} {e : Ex} {c0 c1 c2 : Value} (h : Sep w lo hi e c0 c1 c2) : Own w 44 lo hi e c0 c1 c2 := by
  induction h with
  | mk lo hi k v kids A cap g cs C0 C1 C2 s hl hA h0 h1 h2 hs hr ih =>
    refine .mk k v kids A cap g cs C0 C1 C2 hl (fun i x hx => ?_) h0 h1 h2 (fun i x hx => ?_)
    · obtain ⟨a, b, c, d, e1, e2, r⟩ := hA i x hx
      exact ⟨a, b, c, r⟩
    · obtain ⟨a, b, c, d, e1, e2, r⟩ := hA i x hx
      have hi := (List.getElem?_eq_some_iff.1 hx).1
      have m1 := mono_to hs i 0 (Nat.zero_le _) (by omega)
      have m2 := mono_to hs kids.length (i + 1) (by omega) (Nat.le_refl _)
      exact (ih i x hx).more (by omega) (by omega)

theorem Sep.leaf (w : World) (lo hi : Nat) (k v : Int) (A : Option Addr) (cap : Nat) : Sep w lo hi (.node k v []) (.int .i64 k) (.int .i64 v) (.slice A 0 cap) :=
  .mk lo hi k v [] A cap 0 #[] (fun _ => undef) (fun _ => undef) (fun _ => undef) (fun _ => 0) (Nat.zero_le _) (fun i x hx => by simp at hx) (fun i x hx => by simp at hx) (fun i x hx => by simp at hx) (fun i x hx => by simp at hx) (fun i hi => by simp at hi) (fun i x hx => by simp at hx)

/-- The first j operands have been laid into row g, each in an interval of its own. -/
def LaidS (w : World) (g : Nat) (ks : List Ex) (j : Nat) : Prop :=
  ∃ (cs : Array Value) (C0 C1 C2 : Nat → Value) (s : Nat → Nat), Row w g 44 cs ∧ cs.size = ks.length * 3 ∧ g < s 0 ∧ (∀ i, i < j → s i ≤ s (i + 1)) ∧ s j ≤ w.heap.size ∧
    ∀ (i : Nat) (x : Ex), ks[i]? = some x → i < j → cs[i * 3]? = some (C0 i) ∧ cs[i * 3 + 1]? = some (C1 i) ∧ cs[i * 3 + 2]? = some (C2 i) ∧ Sep w (s i) (s (i + 1)) x (C0 i) (C1 i) (C2 i)

theorem LaidS.lt {w : World} {g : Nat} {ks : List Ex} {j : Nat} (h : LaidS w g ks j) : g < w.heap.size := by
  obtain ⟨cs, C0, C1, C2, s, hr, _⟩ := h
  exact hr.lt

theorem LaidS.under {w w' : World} {g : Nat} {ks : List Ex} {j : Nat} (h : LaidS w g ks j) (hb : Below w.heap.size w w') : LaidS w' g ks j := by
  obtain ⟨cs, C0, C1, C2, s, hr, hz, h0, hs, hj, hk⟩ := h
  refine ⟨cs, C0, C1, C2, s, hr.under hb hr.lt, hz, h0, hs, Nat.le_trans hj hb.size, fun i x hx hi => ?_⟩
  obtain ⟨a, b, c, d⟩ := hk i x hx hi
  have := mono_to hs j (i + 1) (by omega) (Nat.le_refl _)
  exact ⟨a, b, c, d.under hb (by omega)⟩

theorem LaidS.cells {w : World} {g : Nat} {ks : List Ex} {j : Nat} (h : LaidS w g ks j) (hj : j < ks.length) :
    (∃ u0 u1 u2, w.cell? ⟨g, j * 3, none⟩ = some u0 ∧ w.cell? ⟨g, j * 3 + 1, none⟩ = some u1 ∧ w.cell? ⟨g, j * 3 + 2, none⟩ = some u2) ∧ ∀ i, w.frozen? ⟨g, i, none⟩ = false := by
  obtain ⟨cs, C0, C1, C2, s, hr, hs, _⟩ := h
  refine ⟨⟨cs[j * 3], cs[j * 3 + 1], cs[j * 3 + 2], ?_, ?_, ?_⟩, hr.frozen⟩ <;> rw [hr.cell] <;> exact Array.getElem?_eq_getElem _

theorem LaidS.step {w0 w : World} {g : Nat} {ks : List Ex} {j : Nat} (h : LaidS w0 g ks j) (hb : Below w0.heap.size w0 w) (hj : j < ks.length) {x : Ex} (hx : ks[j]? = some x) {d0 d1 d2 : Value} (ho : Sep w w0.heap.size w.heap.size x d0 d1 d2) :
    LaidS (((w.setCell ⟨g, j * 3, none⟩ d0).setCell ⟨g, j * 3 + 1, none⟩ d1).setCell ⟨g, j * 3 + 2, none⟩ d2) g ks (j + 1) := by
  obtain ⟨cs, C0, C1, C2, s, hr, hz, h0, hs, hsj, hk⟩ := h
  have hgl := hr.lt
  have hr' := hr.under hb hr.lt
  have kept : ∀ q, q ≠ g → (((w.setCell ⟨g, j * 3, none⟩ d0).setCell ⟨g, j * 3 + 1, none⟩ d1).setCell ⟨g, j * 3 + 2, none⟩ d2).heap[q]? = w.heap[q]? := fun q hq => by
    rw [Below.heap_setCell _ _ _ _ (by simpa using hq), Below.heap_setCell _ _ _ _ (by simpa using hq), Below.heap_setCell _ _ _ _ (by simpa using hq)]
  have hsz : (((w.setCell ⟨g, j * 3, none⟩ d0).setCell ⟨g, j * 3 + 1, none⟩ d1).setCell ⟨g, j * 3 + 2, none⟩ d2).heap.size = w.heap.size := by simp
  refine ⟨((cs.setIfInBounds (j * 3) d0).setIfInBounds (j * 3 + 1) d1).setIfInBounds (j * 3 + 2) d2, fun i => if i = j then d0 else C0 i, fun i => if i = j then d1 else C1 i, fun i => if i = j then d2 else C2 i, fun i => if i = j + 1 then w.heap.size else s i,
    ((hr'.set_ _ _).set_ _ _).set_ _ _, by simp [hz], ?_, fun i hi => ?_, ?_, fun i y hy hi => ?_⟩
  · dsimp only; rw [if_neg (by omega)]; exact h0
  · dsimp only
    by_cases e : i = j
    · subst e
      rw [if_neg (by omega), if_pos rfl]
      have := hb.size
      omega
    · rw [if_neg (by omega), if_neg (by omega)]
      exact hs i (by omega)
  · dsimp only; rw [if_pos rfl, hsz]; exact Nat.le_refl _
  · simp only [Array.getElem?_setIfInBounds, Array.size_setIfInBounds, hz]
    by_cases e : i = j
    · subst e
      rw [hy] at hx
      injection hx with hx
      subst hx
      refine ⟨?_, ?_, ?_, ?_⟩
      · rw [if_neg (by omega), if_neg (by omega), if_pos rfl, if_pos (by omega), if_pos rfl]
      · rw [if_neg (by omega), if_pos rfl, if_pos (by omega), if_pos rfl]
      · rw [if_pos rfl, if_pos (by omega), if_pos rfl]
      · simp only [if_true]
        rw [if_neg (by omega)]
        exact (ho.keep fun q hq _ => kept q (by omega)).more hsj (Nat.le_refl _)
    · obtain ⟨a, b, c, d⟩ := hk i y hy (by omega)
      have m1 := mono_to hs j (i + 1) (by omega) (Nat.le_refl _)
      have m2 := mono_to hs i 0 (by omega) (by omega)
      refine ⟨?_, ?_, ?_, ?_⟩
      · rw [if_neg (by omega), if_neg (by omega), if_neg (by omega), if_neg e]; exact a
      · rw [if_neg (by omega), if_neg (by omega), if_neg (by omega), if_neg e]; exact b
      · rw [if_neg (by omega), if_neg (by omega), if_neg (by omega), if_neg e]; exact c
      · simp only [if_neg e]
        rw [if_neg (by omega), if_neg (by omega)]
        exact (d.under hb (by omega)).keep fun q hq _ => kept q (by omega)

theorem LaidS.sep {w : World} {g lo : Nat} {ks : List Ex} (h : LaidS w g ks ks.length) (hl : ks.length ≤ maxLen) (hlo : lo ≤ g) (k v : Int) (cap : Nat) : Sep w lo w.heap.size (.node k v ks) (.int .i64 k) (.int .i64 v) (.slice (some ⟨g, 0, none⟩) ks.length cap) := by
  obtain ⟨cs, C0, C1, C2, s, hr, hz, h0, hs, hsj, hk⟩ := h
  have lt : ∀ (i : Nat) (x : Ex), ks[i]? = some x → i < ks.length := fun i x hx => (List.getElem?_eq_some_iff.1 hx).1
  exact .mk lo w.heap.size k v ks _ cap g cs C0 C1 C2 s hl (fun i x hx => ⟨rfl, hlo, hr.lt, .inl h0, by omega, hsj, hr⟩) (fun i x hx => (hk i x hx (lt i x hx)).1) (fun i x hx => (hk i x hx (lt i x hx)).2.1) (fun i x hx => (hk i x hx (lt i x hx)).2.2.1) hs (fun i x hx => (hk i x hx (lt i x hx)).2.2.2)

theorem LaidS.start {w : World} {ks : List Ex} {cs : Array Value} (hs : cs.size = ks.length * 3) : LaidS (w.alloc (.cells cs 44)) w.heap.size ks 0 :=
  ⟨cs, fun _ => undef, fun _ => undef, fun _ => undef, fun _ => w.heap.size + 1, Row.new w 44 cs, hs, Nat.lt_succ_self _, fun _ h => absurd h (Nat.not_lt_zero _), by simp, fun _ _ _ hi => absurd hi (Nat.not_lt_zero _)⟩

/-- A tree of the call's own, its rows apart. -/
def SepPost (lo : Nat) (e : Ex) (w : World) (e' : Ending) (w' : World) : Prop := ∃ (d0 d1 d2 : Value), e' = .returned (.agg #[d0, d1, d2]) ∧ Sep w' lo w'.heap.size e d0 d1 d2 ∧ Below w.heap.size w w'

theorem Sep.form {w : World} {lo hi : Nat} {e : Ex} {c0 c1 c2 : Value} (h : Sep w lo hi e c0 c1 c2) : ∃ (n0 n1 : Int) (a : Option Addr) (l c : Nat), c0 = .int .i64 n0 ∧ c1 = .int .i64 n1 ∧ c2 = .slice a l c := h.own.form

theorem pair_rows (w : World) (a b : Array Value) : Row ((w.alloc (.cells a 44)).alloc (.cells b 44)) w.heap.size 44 a ∧ Row ((w.alloc (.cells a 44)).alloc (.cells b 44)) (w.heap.size + 1) 44 b ∧ Below w.heap.size w ((w.alloc (.cells a 44)).alloc (.cells b 44)) := by
  refine ⟨(Row.new w 44 a).under (B := w.heap.size + 1) ((Below.refl _ _).alloc (by simp) _) (by omega), ?_, ((Below.refl _ _).alloc (Nat.le_refl _) _).alloc (by simp) _⟩
  have h := Row.new (w.alloc (.cells a 44)) 44 b
  rw [show (w.alloc (.cells a 44)).heap.size = w.heap.size + 1 by simp] at h
  exact h

/-- The world behind the three stores of a result. -/
theorem sep_end {w wl : World} {n lo : Nat} {e : Ex} {d0 d1 d2 : Value} (hb : Below w.heap.size w wl) (hn : w.heap.size ≤ n) (hlo : n < lo) (u0 u1 u2 : Value) (hs : Sep wl lo wl.heap.size e d0 d1 d2) :
    Sep (((wl.setCell ⟨n, 0, none⟩ u0).setCell ⟨n, 1, none⟩ u1).setCell ⟨n, 2, none⟩ u2) lo (((wl.setCell ⟨n, 0, none⟩ u0).setCell ⟨n, 1, none⟩ u1).setCell ⟨n, 2, none⟩ u2).heap.size e d0 d1 d2 ∧ Below w.heap.size w (((wl.setCell ⟨n, 0, none⟩ u0).setCell ⟨n, 1, none⟩ u1).setCell ⟨n, 2, none⟩ u2) := by
  refine ⟨?_, occ_end hb hn _ _ _⟩
  rw [show (((wl.setCell ⟨n, 0, none⟩ u0).setCell ⟨n, 1, none⟩ u1).setCell ⟨n, 2, none⟩ u2).heap.size = wl.heap.size by simp]
  exact hs.keep fun q hq _ => by rw [Below.heap_setCell _ _ _ _ (by simp; omega), Below.heap_setCell _ _ _ _ (by simp; omega), Below.heap_setCell _ _ _ _ (by simp; omega)]

end Go.Proofs.YtcipnecdeipeaaaDoor
