/- Layouts: how numbers, expressions, structs and slices of them lie in memory, and in rows of a call's own that are pairwise apart. Nothing is assumed. -/
import Derived.Test.YtldnegacgjijlaaBs
namespace Go.Proofs.Ytldnegacgjijlaa
open Go.RowKit

/-- A layout: so many cells; what it is that the cells C hold x with all rows below block B; the same in rows of one's own from lo on and below hi, pairwise apart; how many elements lie in its slices. -/
structure Lay (X : Type) where
  st : Nat
  sz : X → Nat
  lies : World → Nat → X → (Nat → Value) → Prop
  sep : World → Nat → Nat → X → (Nat → Value) → Prop
  lies_keep : ∀ {w w' : World} {B B' : Nat} {x : X} {C : Nat → Value}, B ≤ B' → (∀ p : Addr, p.block < B → w'.cell? p = w.cell? p) → lies w B x C → lies w' B' x C
  lies_ext : ∀ {w : World} {B : Nat} {x : X} {C D : Nat → Value}, (∀ j, j < st → D j = C j) → lies w B x C → lies w B x D
  sep_keep : ∀ {w w' : World} {lo hi : Nat} {x : X} {C : Nat → Value}, (∀ g, lo ≤ g → g < hi → w'.heap[g]? = w.heap[g]?) → sep w lo hi x C → sep w' lo hi x C
  sep_more : ∀ {w : World} {lo hi lo' hi' : Nat} {x : X} {C : Nat → Value}, lo' ≤ lo → hi ≤ hi' → sep w lo hi x C → sep w lo' hi' x C
  sep_ext : ∀ {w : World} {lo hi : Nat} {x : X} {C D : Nat → Value}, (∀ j, j < st → D j = C j) → sep w lo hi x C → sep w lo hi x D
  sep_lies : ∀ {w : World} {lo hi : Nat} {x : X} {C : Nat → Value}, sep w lo hi x C → lies w hi x C

namespace Lay
variable {X Y : Type} (L : Lay X) {w w' : World} {B B' lo hi : Nat} {x : X} {C : Nat → Value}

theorem under (h : L.lies w B x C) (hb : Below B w w') : L.lies w' B x C := L.lies_keep (Nat.le_refl _) (fun _ hp => hb.cell hp) h
theorem more (h : L.lies w B x C) (hB : B ≤ B') : L.lies w B' x C := L.lies_keep hB (fun _ _ => rfl) h
theorem later (h : L.lies w B x C) (hb : Below B w w') (hB : B ≤ w'.heap.size) : L.lies w' w'.heap.size x C := L.more (L.under h hb) hB
theorem sunder (h : L.sep w lo hi x C) (hb : Below B w w') (hB : hi ≤ B) : L.sep w' lo hi x C := L.sep_keep (fun g _ hg => hb.block g (by omega)) h

def int : Lay Int where
  st := 1
  sz _ := 0
  lies _ _ n C := C 0 = .int .i64 n
  sep _ _ _ n C := C 0 = .int .i64 n
  lies_keep _ _ h := h
  lies_ext h k := (h 0 (by omega)).trans k
  sep_keep _ h := h
  sep_more _ _ h := h
  sep_ext h k := (h 0 (by omega)).trans k
  sep_lies h := h

def prod (M : Lay Y) : Lay (X × Y) where
  st := L.st + M.st
  sz x := L.sz x.1 + M.sz x.2
  lies w B x C := L.lies w B x.1 C ∧ M.lies w B x.2 fun j => C (L.st + j)
  sep w lo hi x C := ∃ m, lo ≤ m ∧ m ≤ hi ∧ L.sep w lo m x.1 C ∧ M.sep w m hi x.2 fun j => C (L.st + j)
  lies_keep hB hk h := ⟨L.lies_keep hB hk h.1, M.lies_keep hB hk h.2⟩
  lies_ext h k := ⟨L.lies_ext (fun j hj => h j (by omega)) k.1, M.lies_ext (fun j hj => h (L.st + j) (by omega)) k.2⟩
  sep_keep hk h := by
    obtain ⟨m, h1, h2, h3, h4⟩ := h
    exact ⟨m, h1, h2, L.sep_keep (fun g a b => hk g a (by omega)) h3, M.sep_keep (fun g a b => hk g (by omega) b) h4⟩
  sep_more a b h := by
    obtain ⟨m, h1, h2, h3, h4⟩ := h
    exact ⟨m, by omega, by omega, L.sep_more a (Nat.le_refl _) h3, M.sep_more (Nat.le_refl _) b h4⟩
  sep_ext h k := by
    obtain ⟨m, h1, h2, h3, h4⟩ := k
    exact ⟨m, h1, h2, L.sep_ext (fun j hj => h j (by omega)) h3, M.sep_ext (fun j hj => h (L.st + j) (by omega)) h4⟩
  sep_lies h := by
    obtain ⟨m, h1, h2, h3, h4⟩ := h
    exact ⟨L.lies_keep h2 (fun _ _ => rfl) (L.sep_lies h3), M.sep_lies h4⟩

def map (f : Y → X) : Lay Y where
  st := L.st
  sz y := L.sz (f y)
  lies w B y C := L.lies w B (f y) C
  sep w lo hi y C := L.sep w lo hi (f y) C
  lies_keep hB hk h := L.lies_keep hB hk h
  lies_ext h k := L.lies_ext h k
  sep_keep hk h := L.sep_keep hk h
  sep_more a b h := L.sep_more a b h
  sep_ext h k := L.sep_ext h k
  sep_lies h := L.sep_lies h

/-- A slice, opened. -/
def Opn (w : World) (B : Nat) (xs : List X) (A : Option Addr) (b off : Nat) (D : Nat → Nat → Value) : Prop :=
  ∀ (i : Nat) (x : X), xs[i]? = some x → A = some ⟨b, off, none⟩ ∧ b < B ∧ (∀ j, j < L.st → w.cell? ⟨b, off + i * L.st + j, none⟩ = some (D i j)) ∧ L.lies w B x (D i)

theorem Opn.keep {L : Lay X} {xs : List X} {A : Option Addr} {b off : Nat} {D : Nat → Nat → Value} (h : L.Opn w B xs A b off D) (hB : B ≤ B') (hk : ∀ p : Addr, p.block < B → w'.cell? p = w.cell? p) : L.Opn w' B' xs A b off D := fun i x hx => by
  obtain ⟨h1, h2, h3, h4⟩ := h i x hx
  exact ⟨h1, by omega, fun j hj => (hk _ h2).trans (h3 j hj), L.lies_keep hB hk h4⟩

theorem Opn.below {L : Lay X} {xs : List X} {A : Option Addr} {b off : Nat} {D : Nat → Nat → Value} (h : L.Opn w B xs A b off D) (hb : Below B w w') : L.Opn w' B xs A b off D := h.keep (Nat.le_refl _) fun _ hp => hb.cell hp
theorem Opn.grow {L : Lay X} {xs : List X} {A : Option Addr} {b off : Nat} {D : Nat → Nat → Value} (h : L.Opn w B xs A b off D) (hb : Below B w w') (hB : B ≤ B') : L.Opn w' B' xs A b off D := h.keep hB fun _ hp => hb.cell hp

def szL (xs : List X) : Nat := (xs.map fun x => 1 + L.sz x).sum

theorem szL_take_succ {xs : List X} {i : Nat} {x : X} (h : xs[i]? = some x) : L.szL (xs.take (i + 1)) = L.szL (xs.take i) + (1 + L.sz x) := by
  have hi := (List.getElem?_eq_some_iff.1 h).1
  unfold szL
  rw [List.take_succ_eq_append_getElem hi, (List.getElem?_eq_some_iff.1 h).2]
  simp
theorem szL_split (xs : List X) (i : Nat) : L.szL xs = L.szL (xs.take i) + L.szL (xs.drop i) := by
  unfold szL
  rw [← List.sum_append, ← List.map_append, List.take_append_drop]
theorem szL_length (xs : List X) : xs.length ≤ L.szL xs := by
  unfold szL
  induction xs with
  | nil => simp
  | cons a r ih => simp only [List.map_cons, List.sum_cons, List.length_cons]; omega
theorem szL_take_len (xs : List X) (i : Nat) : L.szL (xs.take i) + (xs.length - i) ≤ L.szL xs := by
  have h := L.szL_split xs i
  have h2 := L.szL_length (xs.drop i)
  rw [List.length_drop] at h2
  omega
theorem szL_mem {xs : List X} {i : Nat} {x : X} (h : xs[i]? = some x) : 1 + L.sz x ≤ L.szL xs := by
  have h1 := L.szL_take_succ h
  have h2 := L.szL_take_len xs (i + 1)
  omega
theorem szL_nil : L.szL ([] : List X) = 0 := rfl

def slice (t : TypeId) : Lay (List X) where
  st := 1
  sz := L.szL
  lies w B xs C := ∃ (A : Option Addr) (cap b off : Nat) (D : Nat → Nat → Value), C 0 = .slice A xs.length cap ∧ xs.length ≤ maxLen ∧ L.Opn w B xs A b off D
  sep w lo hi xs C := ∃ (A : Option Addr) (cap g : Nat) (cs : Array Value) (D : Nat → Nat → Value) (s : Nat → Nat), C 0 = .slice A xs.length cap ∧ xs.length ≤ maxLen ∧ (∀ i, i < xs.length → s i ≤ s (i + 1)) ∧ lo ≤ s 0 ∧ s xs.length ≤ hi ∧
    ∀ (i : Nat) (x : X), xs[i]? = some x → A = some ⟨g, 0, none⟩ ∧ lo ≤ g ∧ g < hi ∧ (g < s 0 ∨ s xs.length ≤ g) ∧ Row w g t cs ∧ (∀ j, j < L.st → cs[i * L.st + j]? = some (D i j)) ∧ L.sep w (s i) (s (i + 1)) x (D i)
  lies_keep hB hk h := by
    obtain ⟨A, cap, b, off, D, h1, h2, h3⟩ := h
    exact ⟨A, cap, b, off, D, h1, h2, h3.keep hB hk⟩
  lies_ext h k := by
    obtain ⟨A, cap, b, off, D, h1, h2, h3⟩ := k
    exact ⟨A, cap, b, off, D, (h 0 (by omega)).trans h1, h2, h3⟩
  sep_keep hk h := by
    obtain ⟨A, cap, g, cs, D, s, h1, h2, h3, h4, h5, h6⟩ := h
    refine ⟨A, cap, g, cs, D, s, h1, h2, h3, h4, h5, fun i x hx => ?_⟩
    obtain ⟨a1, a2, a3, a4, a5, a6, a7⟩ := h6 i x hx
    have hi := (List.getElem?_eq_some_iff.1 hx).1
    have m1 := mono_to h3 i 0 (Nat.zero_le _) (by omega)
    have m2 := mono_to h3 _ (i + 1) (by omega) (Nat.le_refl _)
    exact ⟨a1, a2, a3, a4, (hk g a2 a3).trans a5, a6, L.sep_keep (fun q b1 b2 => hk q (by omega) (by omega)) a7⟩
  sep_more a b h := by
    obtain ⟨A, cap, g, cs, D, s, h1, h2, h3, h4, h5, h6⟩ := h
    refine ⟨A, cap, g, cs, D, s, h1, h2, h3, by omega, by omega, fun i x hx => ?_⟩
    obtain ⟨a1, a2, a3, a4, a5, a6, a7⟩ := h6 i x hx
    exact ⟨a1, by omega, by omega, a4, a5, a6, a7⟩
  sep_ext h k := by
    obtain ⟨A, cap, g, cs, D, s, h1, h2, h3, h4, h5, h6⟩ := k
    exact ⟨A, cap, g, cs, D, s, (h 0 (by omega)).trans h1, h2, h3, h4, h5, h6⟩
  sep_lies h := by
    obtain ⟨A, cap, g, cs, D, s, h1, h2, h3, h4, h5, h6⟩ := h
    refine ⟨A, cap, g, 0, D, h1, h2, fun i x hx => ?_⟩
    obtain ⟨a1, a2, a3, a4, a5, a6, a7⟩ := h6 i x hx
    have hi := (List.getElem?_eq_some_iff.1 hx).1
    have m2 := mono_to h3 _ (i + 1) (by omega) (Nat.le_refl _)
    exact ⟨a1, a3, fun j hj => by rw [Nat.zero_add, a5.cell]; exact a6 j hj, L.lies_keep (by omega) (fun _ _ => rfl) (L.sep_lies a7)⟩

theorem slice_open {L : Lay X} {t : TypeId} {xs : List X} (h : (L.slice t).lies w B xs C) : ∃ (A : Option Addr) (cap b off : Nat) (D : Nat → Nat → Value), C 0 = .slice A xs.length cap ∧ xs.length ≤ maxLen ∧ L.Opn w B xs A b off D := h
theorem slice_mk {L : Lay X} {t : TypeId} {xs : List X} {A : Option Addr} {cap b off : Nat} {D : Nat → Nat → Value} (h0 : C 0 = .slice A xs.length cap) (hl : xs.length ≤ maxLen) (h : L.Opn w B xs A b off D) : (L.slice t).lies w B xs C := ⟨A, cap, b, off, D, h0, hl, h⟩

end Lay

/-- n cells written one behind the other. -/
def putCells (w : World) (g o : Nat) (d : Nat → Value) : Nat → World
  | 0 => w
  | n + 1 => (putCells w g o d n).setCell ⟨g, o + n, none⟩ (d n)
def putArr (cs : Array Value) (o : Nat) (d : Nat → Value) : Nat → Array Value
  | 0 => cs
  | n + 1 => (putArr cs o d n).setIfInBounds (o + n) (d n)

theorem size_putArr (cs : Array Value) (o : Nat) (d : Nat → Value) (n : Nat) : (putArr cs o d n).size = cs.size := by
  induction n with
  | zero => rfl
  | succ n ih => simp [putArr, ih]
theorem get_putArr (cs : Array Value) (o : Nat) (d : Nat → Value) (n i : Nat) (hs : o + n ≤ cs.size) : (putArr cs o d n)[i]? = if o ≤ i ∧ i < o + n then some (d (i - o)) else cs[i]? := by
  induction n with
  | zero => simp only [putArr]; rw [if_neg (by omega)]
  | succ n ih =>
    simp only [putArr, Array.getElem?_setIfInBounds, size_putArr]
    rw [ih (by omega)]
    by_cases e : o + n = i
    · subst e
      rw [if_pos rfl, if_pos (by omega), if_pos (by omega), Nat.add_sub_cancel_left]
    · rw [if_neg e]
      by_cases e2 : o ≤ i ∧ i < o + n
      · rw [if_pos e2, if_pos (by omega)]
      · rw [if_neg e2, if_neg (by omega)]
theorem Row.put {w : World} {g : Nat} {t : TypeId} {cs : Array Value} (h : Row w g t cs) (o : Nat) (d : Nat → Value) (n : Nat) : Row (putCells w g o d n) g t (putArr cs o d n) := by
  induction n with
  | zero => exact h
  | succ n ih => exact ih.set_ _ _
theorem heap_putCells (w : World) (g o : Nat) (d : Nat → Value) (n q : Nat) (hq : q ≠ g) : (putCells w g o d n).heap[q]? = w.heap[q]? := by
  induction n with
  | zero => rfl
  | succ n ih => simp only [putCells]; rw [Below.heap_setCell _ _ _ _ (by simpa using hq), ih]
theorem size_putCells (w : World) (g o : Nat) (d : Nat → Value) (n : Nat) : (putCells w g o d n).heap.size = w.heap.size := by
  induction n with
  | zero => rfl
  | succ n ih => simp only [putCells, heap_setCell_size, ih]
theorem Below.put {B : Nat} {w0 w : World} {g o : Nat} (h : Below B w0 w) (hg : B ≤ g) (d : Nat → Value) (n : Nat) : Below B w0 (putCells w g o d n) := by
  induction n with
  | zero => exact h
  | succ n ih => exact ih.setCell hg _

/-- The first j elements have been laid into row g, each with an interval of its own behind it. -/
def LaidL {X : Type} (L : Lay X) (t : TypeId) (w : World) (g : Nat) (xs : List X) (j : Nat) : Prop :=
  ∃ (cs : Array Value) (D : Nat → Nat → Value) (s : Nat → Nat), Row w g t cs ∧ cs.size = xs.length * L.st ∧ g < s 0 ∧ (∀ i, i < j → s i ≤ s (i + 1)) ∧ s j ≤ w.heap.size ∧
    ∀ (i : Nat) (x : X), xs[i]? = some x → i < j → (∀ q, q < L.st → cs[i * L.st + q]? = some (D i q)) ∧ L.sep w (s i) (s (i + 1)) x (D i)

section
variable {X : Type} {L : Lay X} {t : TypeId} {w w0 w' : World} {g : Nat} {xs : List X} {j : Nat}
theorem LaidL.lt (h : LaidL L t w g xs j) : g < w.heap.size := by
  obtain ⟨cs, D, s, hr, _⟩ := h
  exact hr.lt
theorem LaidL.under (h : LaidL L t w g xs j) (hb : Below w.heap.size w w') : LaidL L t w' g xs j := by
  obtain ⟨cs, D, s, hr, hz, h0, hs, hj, hk⟩ := h
  refine ⟨cs, D, s, hr.under hb hr.lt, hz, h0, hs, Nat.le_trans hj hb.size, fun i x hx hi => ?_⟩
  obtain ⟨a, d⟩ := hk i x hx hi
  have := mono_to hs j (i + 1) (by omega) (Nat.le_refl _)
  exact ⟨a, L.sunder d hb (by omega)⟩
theorem LaidL.cells (h : LaidL L t w g xs j) (hj : j < xs.length) : (∀ q, q < L.st → ∃ u, w.cell? ⟨g, j * L.st + q, none⟩ = some u) ∧ ∀ i, w.frozen? ⟨g, i, none⟩ = false := by
  obtain ⟨cs, D, s, hr, hz, _⟩ := h
  refine ⟨fun q hq => ⟨cs[j * L.st + q]'?_, ?_⟩, hr.frozen⟩
  · rw [hz]
    have : (j + 1) * L.st ≤ xs.length * L.st := Nat.mul_le_mul_right _ (by omega)
    rw [Nat.succ_mul] at this
    omega
  · rw [hr.cell]; exact Array.getElem?_eq_getElem _
theorem LaidL.start {cs : Array Value} (hs : cs.size = xs.length * L.st) : LaidL L t (w.alloc (.cells cs t)) w.heap.size xs 0 :=
  ⟨cs, fun _ _ => undef, fun _ => w.heap.size + 1, Row.new w t cs, hs, Nat.lt_succ_self _, fun i hi => absurd hi (Nat.not_lt_zero _), by simp, fun _ _ _ hi => absurd hi (Nat.not_lt_zero _)⟩
theorem LaidL.step (h : LaidL L t w0 g xs j) (hb : Below w0.heap.size w0 w) (hj : j < xs.length) {x : X} (hx : xs[j]? = some x) {d : Nat → Value} (ho : L.sep w w0.heap.size w.heap.size x d) :
    LaidL L t (putCells w g (j * L.st) d L.st) g xs (j + 1) := by
  obtain ⟨cs, D, s, hr, hz, h0, hs, hsj, hk⟩ := h
  have hgl := hr.lt
  have hr' := hr.under hb hr.lt
  have hfit : j * L.st + L.st ≤ cs.size := by
    rw [hz, ← Nat.succ_mul]; exact Nat.mul_le_mul_right _ (by omega)
  refine ⟨putArr cs (j * L.st) d L.st, fun i => if i = j then d else D i, fun i => if i = j + 1 then w.heap.size else s i, hr'.put _ _ _, by rw [size_putArr, hz], ?_, fun i hi => ?_, ?_, fun i y hy hi => ?_⟩
  · dsimp only; rw [if_neg (by omega)]; exact h0
  · dsimp only
    by_cases e : i = j
    · subst e
      rw [if_neg (by omega), if_pos rfl]
      have := hb.size
      omega
    · rw [if_neg (by omega), if_neg (by omega)]
      exact hs i (by omega)
  · dsimp only; rw [if_pos rfl, size_putCells]; exact Nat.le_refl _
  · by_cases e : i = j
    · subst e
      rw [hy] at hx
      injection hx with hx
      subst hx
      refine ⟨fun q hq => ?_, ?_⟩
      · dsimp only
        rw [get_putArr _ _ _ _ _ hfit, if_pos (by omega), if_pos rfl, Nat.add_sub_cancel_left]
      · simp only [if_true]
        rw [if_neg (by omega)]
        exact L.sep_more hsj (Nat.le_refl _) (L.sep_keep (fun q hq _ => heap_putCells _ _ _ _ _ _ (by omega)) ho)
    · obtain ⟨a, b⟩ := hk i y hy (by omega)
      have hne : (i + 1) * L.st ≤ j * L.st := Nat.mul_le_mul_right _ (by omega)
      rw [Nat.succ_mul] at hne
      refine ⟨fun q hq => ?_, ?_⟩
      · dsimp only
        rw [get_putArr _ _ _ _ _ hfit, if_neg (by omega), if_neg e]; exact a q hq
      · simp only [if_neg e]
        rw [if_neg (by omega), if_neg (by omega)]
        have m := mono_to hs j (i + 1) (by omega) (Nat.le_refl _)
        have m0 := mono_to hs i 0 (by omega) (by omega)
        exact L.sep_keep (fun q hq hq2 => (heap_putCells _ _ _ _ _ _ (by omega)).trans (hb.block q (by omega))) b
theorem LaidL.sep (h : LaidL L t w g xs xs.length) (hl : xs.length ≤ maxLen) {C : Nat → Value} {cap : Nat} (hC : C 0 = .slice (some ⟨g, 0, none⟩) xs.length cap) : (L.slice t).sep w g w.heap.size xs C := by
  obtain ⟨cs, D, s, hr, hz, h0, hs, hj, hk⟩ := h
  refine ⟨_, cap, g, cs, D, s, hC, hl, hs, by omega, hj, fun i x hx => ?_⟩
  have hi := (List.getElem?_eq_some_iff.1 hx).1
  obtain ⟨a, b⟩ := hk i x hx hi
  exact ⟨rfl, Nat.le_refl _, hr.lt, .inl h0, hr, a, b⟩
end

end Go.Proofs.Ytldnegacgjijlaa
