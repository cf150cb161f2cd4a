/- A row of operands that grows by append: what it holds and what an append leaves of it. Nothing is assumed. -/
import Derived.Test.YtcipnecdeipeaaaDoorOwn
import Derived.Deep.AppendLies
namespace Go.Proofs.YtcipnecdeipeaaaDoor
open Go.RowKit

/-- As Own, the blocks told by a predicate. -/
inductive OwnP (w : World) (t : TypeId) (ok : Nat → Prop) : Ex → Value → Value → Value → Prop
  | mk (k v : Int) (kids : List Ex) (A : Option Addr) (cap g : Nat) (cs : Array Value) (C0 C1 C2 : Nat → Value) (hl : kids.length ≤ maxLen)
      (hA : ∀ (i : Nat) (x : Ex), kids[i]? = some x → A = some ⟨g, 0, none⟩ ∧ ok g ∧ Row w g t cs)
      (h0 : ∀ (i : Nat) (x : Ex), kids[i]? = some x → cs[i * 3]? = some (C0 i))
      (h1 : ∀ (i : Nat) (x : Ex), kids[i]? = some x → cs[i * 3 + 1]? = some (C1 i))
      (h2 : ∀ (i : Nat) (x : Ex), kids[i]? = some x → cs[i * 3 + 2]? = some (C2 i))
      (hr : ∀ (i : Nat) (x : Ex), kids[i]? = some x → OwnP w t ok x (C0 i) (C1 i) (C2 i)) :
      OwnP w t ok (.node k v kids) (.int .i64 k) (.int .i64 v) (.slice A kids.length cap)

theorem OwnP.keep {w w' : World} {t : TypeId} {ok ok' : Nat → Prop} (hi : ∀ g, ok g → ok' g) (hk : ∀ g, ok g → w'.heap[g]? = w.heap[g]?) {e : Ex} {c0 c1 c2 : Value} (h : OwnP w t ok e c0 c1 c2) : OwnP w' t ok' e c0 c1 c2 := by
  induction h with
  | mk k v kids A cap g cs C0 C1 C2 hl hA h0 h1 h2 hr ih =>
    exact .mk k v kids A cap g cs C0 C1 C2 hl (fun i x hx => by
      obtain ⟨a, b, c⟩ := hA i x hx
      exact ⟨a, hi g b, (hk g b).trans c⟩) h0 h1 h2 ih

theorem OwnP.own {w : World} {t : TypeId} {ok : Nat → Prop} {lo hi : Nat} (him : ∀ g, ok g → lo ≤ g ∧ g < hi) {e : Ex} {c0 c1 c2 : Value} (h : OwnP w t ok e c0 c1 c2) : Own w t lo hi e c0 c1 c2 := by
  induction h with
  | mk k v kids A cap g cs C0 C1 C2 hl hA h0 h1 h2 hr ih =>
    exact .mk k v kids A cap g cs C0 C1 C2 hl (fun i x hx => by
      obtain ⟨a, b, c⟩ := hA i x hx
      exact ⟨a, (him g b).1, (him g b).2, c⟩) h0 h1 h2 ih

theorem Own.ownP {w : World} {t : TypeId} {ok : Nat → Prop} {lo hi : Nat} (him : ∀ g, lo ≤ g → g < hi → ok g) {e : Ex} {c0 c1 c2 : Value} (h : Own w t lo hi e c0 c1 c2) : OwnP w t ok e c0 c1 c2 := by
  induction h with
  | mk k v kids A cap g cs C0 C1 C2 hl hA h0 h1 h2 hr ih =>
    exact .mk k v kids A cap g cs C0 C1 C2 hl (fun i x hx => by
      obtain ⟨a, b, c, d⟩ := hA i x hx
      exact ⟨a, him g b c, d⟩) h0 h1 h2 ih

/-- The slice S owns a row that holds these trees; what they reach lies elsewhere. -/
def Built (w : World) (t : TypeId) (lo : Nat) (S : Value) (es : List Ex) : Prop :=
  ∃ (xs : List Value) (C0 C1 C2 : Nat → Value), w.ownsRow lo t 3 S es.length xs ∧
    ∀ (i : Nat) (x : Ex), es[i]? = some x → xs[i * 3]? = some (C0 i) ∧ xs[i * 3 + 1]? = some (C1 i) ∧ xs[i * 3 + 2]? = some (C2 i) ∧ OwnP w t (fun b => lo ≤ b ∧ b < w.heap.size ∧ S.ownBlock ≠ some b) x (C0 i) (C1 i) (C2 i)

theorem Built.nil (w : World) (t : TypeId) (lo : Nat) : Built w t lo (.slice none 0 0) [] :=
  ⟨[], fun _ => undef, fun _ => undef, fun _ => undef, ⟨rfl, .inl ⟨rfl, rfl⟩⟩, fun i x hx => by simp at hx⟩

theorem Built.form {w : World} {t : TypeId} {lo : Nat} {S : Value} {es : List Ex} (h : Built w t lo S es) : ∃ A cap, S = .slice A es.length cap ∧ es.length ≤ maxLen ∧ ∀ g, S.ownBlock = some g → lo ≤ g ∧ g < w.heap.size := by
  obtain ⟨xs, C0, C1, C2, ho, _⟩ := h
  rcases ho.2 with ⟨rfl, h0⟩ | ⟨g, cap, cur, rfl, hb, hh, hn, hm, _⟩
  · exact ⟨none, 0, by rw [h0], by omega, fun g hg => by simp [Value.ownBlock] at hg⟩
  · refine ⟨_, cap, rfl, by omega, fun g' hg => ?_⟩
    have e : g = g' := by simpa [Value.ownBlock] using hg
    subst e
    exact ⟨hb, Row.lt (t := t) (cs := cur) hh⟩

theorem Built.keep {w w' : World} {t : TypeId} {lo : Nat} {S : Value} {es : List Ex} (h : Built w t lo S es) (hsz : w.heap.size ≤ w'.heap.size) (hk : ∀ g, lo ≤ g → g < w.heap.size → w'.heap[g]? = w.heap[g]?) : Built w' t lo S es := by
  obtain ⟨A, cap, _, _, hS⟩ := h.form
  obtain ⟨xs, C0, C1, C2, ho, hx⟩ := h
  refine ⟨xs, C0, C1, C2, ⟨ho.1, ?_⟩, fun i x hi => ?_⟩
  · rcases ho.2 with h0 | ⟨g, cap, cur, hv, hb, hh, hr⟩
    · exact .inl h0
    · exact .inr ⟨g, cap, cur, hv, hb, (hk g hb (Row.lt (t := t) (cs := cur) hh)).trans hh, hr⟩
  · obtain ⟨a, b, c, d⟩ := hx i x hi
    exact ⟨a, b, c, d.keep (fun g hg => ⟨hg.1, by omega, hg.2.2⟩) (fun g hg => hk g hg.1 hg.2.1)⟩

theorem Built.under {w w' : World} {t : TypeId} {lo : Nat} {S : Value} {es : List Ex} (h : Built w t lo S es) (hb : Below w.heap.size w w') : Built w' t lo S es := h.keep hb.size fun g _ hg => hb.block g hg

/-- One append. -/
theorem Built.append {w w' : World} {t : TypeId} {lo : Nat} {S : Value} {es : List Ex} (h : Built w t lo S es) {x : Ex} {d0 d1 d2 : Value} {g cap : Nat}
    (hx : OwnP w t (fun b => lo ≤ b ∧ b < w.heap.size ∧ S.ownBlock ≠ some b) x d0 d1 d2) {xs : List Value} (hxs : w.ownsRow lo t 3 S es.length xs)
    (ho : w'.ownsRow lo t 3 (.slice (some ⟨g, 0, none⟩) (es.length + 1) cap) (es.length + 1) (xs ++ [d0, d1, d2])) (hg : w.grownBy w' S.ownBlock) (hat : S.ownBlock = some g ∨ g = w.heap.size) :
    Built w' t lo (.slice (some ⟨g, 0, none⟩) (es.length + 1) cap) (es ++ [x]) := by
  obtain ⟨ys, C0, C1, C2, hys, hk⟩ := h
  have hxy : ys = xs := by
    rcases hys.2 with ⟨e1, e2⟩ | ⟨g1, c1, u1, v1, _, q1, _, _, _, t1⟩
    · have h1 := hys.1
      have h2 := hxs.1
      rw [e2] at h1 h2
      rw [List.length_eq_zero_iff.1 (by omega : ys.length = 0), List.length_eq_zero_iff.1 (by omega : xs.length = 0)]
    · rcases hxs.2 with ⟨e1, _⟩ | ⟨g2, c2, u2, v2, _, q2, _, _, _, t2⟩
      · rw [e1] at v1; cases v1
      · rw [v1] at v2
        injection v2 with v2
        injection v2 with v2
        injection v2 with v2
        subst v2
        rw [q1] at q2
        injection q2 with q2
        injection q2 with q2
        subst q2
        rw [← t1, ← t2]
  subst hxy
  have hlen : ys.length = es.length * 3 := hys.1
  have step : ∀ {y : Ex} {a b c : Value}, OwnP w t (fun b => lo ≤ b ∧ b < w.heap.size ∧ S.ownBlock ≠ some b) y a b c → OwnP w' t (fun b => lo ≤ b ∧ b < w'.heap.size ∧ (Value.slice (some ⟨g, 0, none⟩) (es.length + 1) cap).ownBlock ≠ some b) y a b c := fun h =>
    h.keep (fun q hq => ⟨hq.1, Nat.lt_of_lt_of_le hq.2.1 hg.size, fun e => by
      have e : g = q := by simpa [Value.ownBlock] using e
      subst e
      rcases hat with hat | hat
      · exact hq.2.2 hat
      · omega⟩) (fun q hq => hg.block q hq.2.1 (fun e => hq.2.2 e.symm))
  refine ⟨ys ++ [d0, d1, d2], fun i => if i = es.length then d0 else C0 i, fun i => if i = es.length then d1 else C1 i, fun i => if i = es.length then d2 else C2 i, by simpa using ho, fun i y hy => ?_⟩
  by_cases hi : i < es.length
  · rw [List.getElem?_append_left hi] at hy
    obtain ⟨a, b, c, d⟩ := hk i y hy
    have e : ¬ i = es.length := by omega
    simp only [if_neg e]
    rw [List.getElem?_append_left (by omega), List.getElem?_append_left (by omega), List.getElem?_append_left (by omega)]
    exact ⟨a, b, c, step d⟩
  · have e : i = es.length := by
      have := (List.getElem?_eq_some_iff.1 hy).1
      simp at this
      omega
    subst e
    have ey : x = y := by simpa using hy
    subst ey
    simp only [if_true]
    rw [List.getElem?_append_right (by omega), List.getElem?_append_right (by omega), List.getElem?_append_right (by omega), hlen]
    simp only [Nat.sub_self, show es.length * 3 + 1 - es.length * 3 = 1 by omega, show es.length * 3 + 2 - es.length * 3 = 2 by omega]
    exact ⟨rfl, rfl, rfl, step hx⟩

theorem Built.own {w : World} {t : TypeId} {lo : Nat} {A : Option Addr} {n cap : Nat} {es : List Ex} (h : Built w t lo (.slice A n cap) es) (k v : Int) : Own w t lo w.heap.size (.node k v es) (.int .i64 k) (.int .i64 v) (.slice A n cap) := by
  obtain ⟨A', cap', hS, hl, _⟩ := h.form
  injection hS with e1 e2 e3
  subst e1 e2 e3
  obtain ⟨xs, C0, C1, C2, ho, hk⟩ := h
  rcases ho.2 with ⟨hv, h0⟩ | ⟨g, c, cur, hv, hb, hh, hn, hm, hc, ht⟩
  · obtain rfl : es = [] := List.length_eq_zero_iff.1 h0
    exact .mk k v [] _ cap 0 #[] C0 C1 C2 hl (fun i x hx => by simp at hx) (fun i x hx => by simp at hx) (fun i x hx => by simp at hx) (fun i x hx => by simp at hx) (fun i x hx => by simp at hx)
  · injection hv with hv _ _
    have lift : ∀ {q : Nat} {u : Value}, xs[q]? = some u → cur[q]? = some u := fun {q u} hq => by
      have hq2 := hq
      rw [← ht, List.getElem?_take] at hq
      split at hq
      · simpa using hq
      · cases hq
    exact .mk k v es _ cap g cur C0 C1 C2 hl (fun i x _ => ⟨hv, hb, Row.lt (t := t) (cs := cur) hh, hh⟩) (fun i x hx => lift (hk i x hx).1) (fun i x hx => lift (hk i x hx).2.1) (fun i x hx => lift (hk i x hx).2.2.1)
      (fun i x hx => (hk i x hx).2.2.2.own fun g hg => ⟨hg.1, hg.2.1⟩)

theorem Built.more {w : World} {t : TypeId} {lo lo' : Nat} {S : Value} {es : List Ex} (h : Built w t lo S es) (hlo : lo' ≤ lo) : Built w t lo' S es := by
  obtain ⟨xs, C0, C1, C2, ho, hx⟩ := h
  refine ⟨xs, C0, C1, C2, ⟨ho.1, ?_⟩, fun i x hi => ?_⟩
  · rcases ho.2 with h0 | ⟨g, cap, cur, hv, hb, hr⟩
    · exact .inl h0
    · exact .inr ⟨g, cap, cur, hv, by omega, hr⟩
  · obtain ⟨a, b, c, d⟩ := hx i x hi
    exact ⟨a, b, c, d.keep (fun g hg => ⟨by omega, hg.2⟩) (fun _ _ => rfl)⟩

/-- As Built, the blocks told by a predicate. -/
def BuiltP (w : World) (t : TypeId) (ok : Nat → Prop) (S : Value) (es : List Ex) : Prop :=
  ∃ (xs : List Value) (C0 C1 C2 : Nat → Value), w.ownsRow 0 t 3 S es.length xs ∧ (∀ g, S.ownBlock = some g → ok g) ∧
    ∀ (i : Nat) (x : Ex), es[i]? = some x → xs[i * 3]? = some (C0 i) ∧ xs[i * 3 + 1]? = some (C1 i) ∧ xs[i * 3 + 2]? = some (C2 i) ∧ OwnP w t (fun b => ok b ∧ S.ownBlock ≠ some b) x (C0 i) (C1 i) (C2 i)

theorem Built.toP {w : World} {t : TypeId} {lo : Nat} {S : Value} {es : List Ex} (h : Built w t lo S es) : BuiltP w t (fun b => lo ≤ b ∧ b < w.heap.size) S es := by
  obtain ⟨A, cap, _, _, hS⟩ := h.form
  obtain ⟨xs, C0, C1, C2, ho, hx⟩ := h
  refine ⟨xs, C0, C1, C2, ⟨ho.1, ?_⟩, hS, fun i x hi => ?_⟩
  · rcases ho.2 with h0 | ⟨g, cap, cur, hv, hb, hr⟩
    · exact .inl h0
    · exact .inr ⟨g, cap, cur, hv, Nat.zero_le _, hr⟩
  · obtain ⟨a, b, c, d⟩ := hx i x hi
    exact ⟨a, b, c, d.keep (fun g hg => ⟨⟨hg.1, hg.2.1⟩, hg.2.2⟩) (fun _ _ => rfl)⟩

theorem BuiltP.keep {w w' : World} {t : TypeId} {ok : Nat → Prop} {S : Value} {es : List Ex} (h : BuiltP w t ok S es) (hk : ∀ g, ok g → w'.heap[g]? = w.heap[g]?) : BuiltP w' t ok S es := by
  obtain ⟨xs, C0, C1, C2, ho, hS, hx⟩ := h
  refine ⟨xs, C0, C1, C2, ⟨ho.1, ?_⟩, hS, fun i x hi => ?_⟩
  · rcases ho.2 with h0 | ⟨g, cap, cur, hv, hb, hh, hr⟩
    · exact .inl h0
    · exact .inr ⟨g, cap, cur, hv, hb, (hk g (hS g (by rw [hv]; rfl))).trans hh, hr⟩
  · obtain ⟨a, b, c, d⟩ := hx i x hi
    exact ⟨a, b, c, d.keep (fun g hg => hg) (fun g hg => hk g hg.1)⟩

theorem BuiltP.lies {w : World} {t : TypeId} {ok : Nat → Prop} {A : Option Addr} {n cap : Nat} {es : List Ex} (h : BuiltP w t ok (.slice A n cap) es) (hn : n = es.length) (hl : es.length ≤ maxLen) (k v : Int) : OwnP w t ok (.node k v es) (.int .i64 k) (.int .i64 v) (.slice A n cap) := by
  subst hn
  obtain ⟨xs, C0, C1, C2, ho, hS, hk⟩ := h
  rcases ho.2 with ⟨hv, h0⟩ | ⟨g, c, cur, hv, hb, hh, hn, hm, hc, ht⟩
  · obtain rfl : es = [] := List.length_eq_zero_iff.1 h0
    exact .mk k v [] _ cap 0 #[] C0 C1 C2 hl (fun i x hx => by simp at hx) (fun i x hx => by simp at hx) (fun i x hx => by simp at hx) (fun i x hx => by simp at hx) (fun i x hx => by simp at hx)
  · have hv2 := hv
    injection hv with hv _ _
    have lift : ∀ {q : Nat} {u : Value}, xs[q]? = some u → cur[q]? = some u := fun {q u} hq => by
      rw [← ht, List.getElem?_take] at hq
      split at hq
      · simpa using hq
      · cases hq
    exact .mk k v es _ cap g cur C0 C1 C2 hl (fun i x _ => ⟨hv, hS g (by rw [hv2]; rfl), hh⟩) (fun i x hx => lift (hk i x hx).1) (fun i x hx => lift (hk i x hx).2.1) (fun i x hx => lift (hk i x hx).2.2.1)
      (fun i x hx => (hk i x hx).2.2.2.keep (fun g hg => hg.1) (fun _ _ => rfl))

/-- One append. -/
theorem BuiltP.append {w w' : World} {t : TypeId} {ok ok' : Nat → Prop} {S : Value} {es : List Ex} (h : BuiltP w t ok S es) (hok : ∀ b, ok b → ok' b ∧ b < w.heap.size) {x : Ex} {d0 d1 d2 : Value} {g cap : Nat} (hnew : ok' g)
    (hx : OwnP w t (fun b => ok b ∧ S.ownBlock ≠ some b) x d0 d1 d2) {xs : List Value} (hxs : w.ownsRow 0 t 3 S es.length xs)
    (ho : w'.ownsRow 0 t 3 (.slice (some ⟨g, 0, none⟩) (es.length + 1) cap) (es.length + 1) (xs ++ [d0, d1, d2])) (hg : w.grownBy w' S.ownBlock) (hat : S.ownBlock = some g ∨ g = w.heap.size) :
    BuiltP w' t ok' (.slice (some ⟨g, 0, none⟩) (es.length + 1) cap) (es ++ [x]) := by
  obtain ⟨ys, C0, C1, C2, hys, _, hk⟩ := h
  have hxy : ys = xs := by
    rcases hys.2 with ⟨e1, e2⟩ | ⟨g1, c1, u1, v1, _, q1, _, _, _, t1⟩
    · have h1 := hys.1
      have h2 := hxs.1
      rw [e2] at h1 h2
      rw [List.length_eq_zero_iff.1 (by omega : ys.length = 0), List.length_eq_zero_iff.1 (by omega : xs.length = 0)]
    · rcases hxs.2 with ⟨e1, _⟩ | ⟨g2, c2, u2, v2, _, q2, _, _, _, t2⟩
      · rw [e1] at v1; cases v1
      · rw [v1] at v2
        injection v2 with v2
        injection v2 with v2
        injection v2 with v2
        subst v2
        rw [q1] at q2
        injection q2 with q2
        injection q2 with q2
        subst q2
        rw [← t1, ← t2]
  subst hxy
  have hlen : ys.length = es.length * 3 := hys.1
  have step : ∀ {y : Ex} {a b c : Value}, OwnP w t (fun b => ok b ∧ S.ownBlock ≠ some b) y a b c → OwnP w' t (fun b => ok' b ∧ (Value.slice (some ⟨g, 0, none⟩) (es.length + 1) cap).ownBlock ≠ some b) y a b c := fun h =>
    h.keep (fun q hq => ⟨(hok q hq.1).1, fun e => by
      have e : g = q := by simpa [Value.ownBlock] using e
      subst e
      rcases hat with hat | hat
      · exact hq.2 hat
      · have := (hok g hq.1).2; omega⟩) (fun q hq => hg.block q (hok q hq.1).2 (fun e => hq.2 e.symm))
  refine ⟨ys ++ [d0, d1, d2], fun i => if i = es.length then d0 else C0 i, fun i => if i = es.length then d1 else C1 i, fun i => if i = es.length then d2 else C2 i, by simpa using ho, fun q hq => ?_, fun i y hy => ?_⟩
  · have e : g = q := by simpa [Value.ownBlock] using hq
    subst e
    exact hnew
  by_cases hi : i < es.length
  · rw [List.getElem?_append_left hi] at hy
    obtain ⟨a, b, c, d⟩ := hk i y hy
    have e : ¬ i = es.length := by omega
    simp only [if_neg e]
    rw [List.getElem?_append_left (by omega), List.getElem?_append_left (by omega), List.getElem?_append_left (by omega)]
    exact ⟨a, b, c, step d⟩
  · have e : i = es.length := by
      have := (List.getElem?_eq_some_iff.1 hy).1
      simp at this
      omega
    subst e
    have ey : x = y := by simpa using hy
    subst ey
    simp only [if_true]
    rw [List.getElem?_append_right (by omega), List.getElem?_append_right (by omega), List.getElem?_append_right (by omega), hlen]
    simp only [Nat.sub_self, show es.length * 3 + 1 - es.length * 3 = 1 by omega, show es.length * 3 + 2 - es.length * 3 = 2 by omega]
    exact ⟨rfl, rfl, rfl, step hx⟩

/-- The node that is being built stands in block g with its numbers and its slice; below it nothing has turned since a. -/
def Making (a : World) (t : TypeId) (g : Nat) (k v : Int) (es : List Ex) (A : Option Addr) (cap : Nat) (w : World) : Prop :=
  Row w g t #[.int .i64 k, .int .i64 v, .slice A es.length cap] ∧ Built w t (g + 1) (.slice A es.length cap) es ∧ Below g a w

theorem Making.step {a w w1 w2 : World} {t : TypeId} {g : Nat} {k v : Int} {es : List Ex} {A : Option Addr} {cap : Nat} (h : Making a t g k v es A cap w) (hb : Below w.heap.size w w1)
    {x : Ex} {d0 d1 d2 : Value} (hx : Own w1 t w.heap.size w1.heap.size x d0 d1 d2) {xs : List Value} (hxs : (w1.alloc (.cells #[d0, d1, d2] t)).ownsRow (g + 1) t 3 (.slice A es.length cap) es.length xs) {b cap' : Nat}
    (ho : w2.ownsRow (g + 1) t 3 (.slice (some ⟨b, 0, none⟩) (es.length + 1) cap') (es.length + 1) (xs ++ [d0, d1, d2])) (hg : (w1.alloc (.cells #[d0, d1, d2] t)).grownBy w2 (Value.slice A es.length cap).ownBlock)
    (hat : (Value.slice A es.length cap).ownBlock = some b ∨ b = w1.heap.size + 1) :
    (w2.cell? ⟨g, 2, none⟩ = some (.slice A es.length cap) ∧ w2.frozen? ⟨g, 2, none⟩ = false) ∧ Making a t g k v (es ++ [x]) (some ⟨b, 0, none⟩) cap' (w2.setCell ⟨g, 2, none⟩ (.slice (some ⟨b, 0, none⟩) (es.length + 1) cap')) := by
  obtain ⟨hr, hbu, hbe⟩ := h
  obtain ⟨_, _, _, _, hS⟩ := hbu.form
  have hgl : g < w.heap.size := hr.lt
  have hb1 : Below w.heap.size w (w1.alloc (.cells #[d0, d1, d2] t)) := hb.trans ((Below.refl _ _).alloc hb.size _)
  have hne : some g ≠ (Value.slice A es.length cap).ownBlock := fun e => by have := (hS g e.symm).1; omega
  have hr2 : Row w2 g t #[.int .i64 k, .int .i64 v, .slice A es.length cap] := (hg.block g (by have := hb1.size; omega) hne).trans (hr.under hb1 hgl)
  have hbu1 : Built (w1.alloc (.cells #[d0, d1, d2] t)) t (g + 1) (.slice A es.length cap) es := hbu.under hb1
  have hsz1 : (w1.alloc (.cells #[d0, d1, d2] t)).heap.size = w1.heap.size + 1 := by simp
  have hx1 : OwnP (w1.alloc (.cells #[d0, d1, d2] t)) t (fun b => g + 1 ≤ b ∧ b < (w1.alloc (.cells #[d0, d1, d2] t)).heap.size ∧ (Value.slice A es.length cap).ownBlock ≠ some b) x d0 d1 d2 := by
    have h1 := hx.ownP (ok := fun b => w.heap.size ≤ b ∧ b < w1.heap.size) (fun q h1 h2 => ⟨h1, h2⟩)
    refine h1.keep (fun q hq => ⟨by omega, by omega, fun e => ?_⟩) (fun q hq => Below.heap_alloc _ _ _ hq.2)
    have := (hS q e).2
    omega
  have hmade := hbu1.append hx1 hxs ho hg (by rw [hsz1]; exact hat)
  have hsz : w.heap.size ≤ w2.heap.size := Nat.le_trans hb1.size hg.size
  refine ⟨⟨hr2.cell 2, hr2.frozen 2⟩, ?_, ?_, ?_⟩
  · have := hr2.set_ 2 (.slice (some ⟨b, 0, none⟩) (es.length + 1) cap')
    simpa using this
  · have hl : (es ++ [x]).length = es.length + 1 := by simp
    rw [hl]
    exact hmade.keep (by simp) fun q hq _ => Below.heap_setCell _ _ _ _ (by simp; omega)
  · refine Below.setCell (p := ⟨g, 2, none⟩) ?_ (Nat.le_refl g) _
    refine (hbe.trans (hb1.mono (by omega))).grown hg (by have := hb1.size; omega) fun q hq => ?_
    have := (hS q hq).1
    omega

theorem Making.drew {a w : World} {t : TypeId} {g : Nat} {k v : Int} {es : List Ex} {A : Option Addr} {cap : Nat} (h : Making a t g k v es A cap w) : Making a t g k v es A cap w.drew :=
  ⟨h.1, h.2.1.under ((Below.refl _ _).drew), h.2.2.drew⟩

theorem Making.start {w : World} {t : TypeId} {k v : Int} : Making w t w.heap.size k v [] none 0 (w.alloc (.cells #[.int .i64 k, .int .i64 v, .slice none 0 0] t)) :=
  ⟨Row.new _ _ _, Built.nil _ _ _, (Below.refl _ _).alloc (Nat.le_refl _) _⟩

end Go.Proofs.YtcipnecdeipeaaaDoor
