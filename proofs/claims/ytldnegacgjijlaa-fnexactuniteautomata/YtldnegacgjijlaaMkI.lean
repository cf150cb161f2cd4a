/- Marks of numbers, loosely and exactly: the walks of laws.markIntS and laws.heldIntS. -/
import Derived.Test.YtldnegacgjijlaaSi
import Derived.Test.YtldnegacgjijlaaGr
namespace Go.Proofs.Ytldnegacgjijlaa
open Go.RowKit

/-- From cell n on the row is as it was. -/
def Tail (g : Nat) (t : TypeId) (n : Nat) (w w' : World) : Prop := ∀ cs, Row w g t cs → ∃ cs', Row w' g t cs' ∧ cs'.size = cs.size ∧ ∀ i, n ≤ i → cs'[i]? = cs[i]?
theorem Tail.refl (g : Nat) (t : TypeId) (n : Nat) (w : World) : Tail g t n w w := fun cs h => ⟨cs, h, rfl, fun _ _ => rfl⟩
theorem Tail.set_ {g : Nat} {t : TypeId} {n m i : Nat} {w w' : World} (h : Tail g t n w w') (hi : i < m) (hn : n ≤ m) (u : Value) : Tail g t m w (w'.setCell ⟨g, i, none⟩ u) := fun cs hr => by
  obtain ⟨cs', h1, h2, h3⟩ := h cs hr
  refine ⟨_, h1.set_ i u, by simp [h2], fun q hq => ?_⟩
  rw [Array.getElem?_setIfInBounds, if_neg (by omega)]
  exact h3 q (by omega)
theorem Tail.kept {g : Nat} {t : TypeId} {n lo hi : Nat} {w w' w'' : World} (h : Tail g t n w w') (hk : Kept lo hi w' w'') (hg : g < lo ∨ hi ≤ g) : Tail g t n w w'' := fun cs hr => by
  obtain ⟨cs', h1, h2, h3⟩ := h cs hr
  exact ⟨cs', h1.kept hk hg, h2, h3⟩
/-- From block n on, block g left out, all is as it was. -/
def Beyond (g n : Nat) (w w' : World) : Prop := ∀ q, n ≤ q → q ≠ g → q < w.heap.size → w'.heap[q]? = w.heap[q]?
theorem Beyond.set_ {g n i : Nat} {w w' : World} (h : Beyond g n w w') (u : Value) : Beyond g n w (w'.setCell ⟨g, i, none⟩ u) := fun q h1 h2 h3 => by
  rw [Below.heap_setCell _ _ _ _ (by simpa using h2)]
  exact h q h1 h2 h3
theorem Beyond.kept {g n m lo hi : Nat} {w w' w'' : World} (h : Beyond g n w w') (hs : w.heap.size ≤ w'.heap.size) (hk : Kept lo hi w' w'') (hn : n ≤ m) (hh : hi ≤ m) : Beyond g m w w'' := fun q h1 h2 h3 => by
  rw [hk.other q (by omega) (.inr (by omega))]
  exact h q (by omega) h2 h3

set_option maxHeartbeats 400000 in
theorem mkIn_any (zs : List Int) (C : Nat → Value) (m : Int) (lo hi : Nat) (w : World) (h : (Lay.int.slice 3).sep w lo hi zs C) (hz : zs.length ≤ 1048576) (hm0 : 0 ≤ m) (hm1 : m ≤ 549755813888) :
    Calls Try.prog 38 #[C 0, .int .i64 m] w fun e' w' => e' = .returned (.int .i64 (m + zs.length)) ∧ Kept lo hi w w' := by
  obtain ⟨A, cap, g, cs, D, s, hC, hl, h3, h4, h5, h6⟩ := h
  rw [hC]
  have H6 := Lib.hid h6
  clear hC hl h3 h4 h5 h6
  go_enter Try.func38, Try.ntmps38
  go_wp2_with fail
  go_loopw [1, 5] (fun mm i wl => ∃ j : Nat, j ≤ zs.length ∧ i = .int .i64 j ∧ mm = .int .i64 (m + j) ∧ Hid (Tail g 3 j w wl) ∧ Hid (Kept lo hi w wl)) (fun _ i _ => zs.length - (intOf i).toNat)
  case atStart => exact ⟨0, Nat.zero_le _, rfl, by simp, Tail.refl _ _ _ _, Kept.refl _ _ _⟩
  case round =>
    obtain ⟨j, hj, rfl, rfl, HT, HK⟩ := hrel
    by_cases hlt : j < zs.length
    · obtain ⟨x, hx⟩ : ∃ x, zs[j]? = some x := ⟨_, List.getElem?_eq_getElem hlt⟩
      obtain ⟨rfl, a2, a3, a4, a5, a6, a7⟩ := H6.out j x hx
      obtain ⟨cs', r1, e1, e2⟩ := HT.out cs a5
      have c0 : wr.cell? ⟨g, j, none⟩ = some (D j 0) := by
        rw [r1.cell, e2 j (Nat.le_refl _)]
        have := a6 0 (by decide)
        rw [show Lay.int.st = 1 from rfl, Nat.mul_one, Nat.add_zero] at this
        exact this
      have z0 := r1.frozen j
      have l0 := r1.lt
      have HT2 := Lib.hid (HT.out.set_ (m := j + 1) (i := j) (by omega) (by omega) (.int .i64 (m + j)))
      have HK2 := Lib.hid (HK.out.trans (Kept.set_ lo hi wr a2 a3 j (.int .i64 (m + j))))
      clear hx a5 a6 a7 r1 e1 e2
      go_wp2_with fail
      go_roundw
      case rel => exact ⟨j + 1, by omega, by go_num, by go_num, HT2, HK2⟩
      case measure => simp [intOf]; omega
    · have hjj : j = zs.length := by omega
      subst hjj
      go_wp2_with fail
      go_ret
      exact ⟨rfl, HK.out⟩

/-- The n numbers from m on. -/
def from_ (m : Int) (n : Nat) : List Int := (List.range n).map fun i : Nat => m + (i : Int)
theorem from_length (m : Int) (n : Nat) : (from_ m n).length = n := by simp [from_]
theorem from_get {m : Int} {n i : Nat} {z : Int} (h : (from_ m n)[i]? = some z) : i < n ∧ z = m + i := by
  have hi := (List.getElem?_eq_some_iff.1 h).1
  rw [from_length] at hi
  refine ⟨hi, ?_⟩
  simp [from_, hi] at h
  omega
theorem from_at {m : Int} {n i : Nat} (h : i < n) : (from_ m n)[i]? = some (m + i) := by simp [from_, h]

/-- The first n cells of the row hold the numbers from m on, the others what they held. -/
def HalfI (g : Nat) (t : TypeId) (m : Int) (n : Nat) (w w' : World) : Prop := ∀ cs, Row w g t cs → ∃ cs', Row w' g t cs' ∧ cs'.size = cs.size ∧ (∀ i, n ≤ i → cs'[i]? = cs[i]?) ∧ ∀ i, i < n → i < cs.size → cs'[i]? = some (.int .i64 (m + i))
theorem HalfI.refl (g : Nat) (t : TypeId) (m : Int) (w : World) : HalfI g t m 0 w w := fun cs h => ⟨cs, h, rfl, fun _ _ => rfl, fun _ h => absurd h (Nat.not_lt_zero _)⟩
theorem HalfI.step {g : Nat} {t : TypeId} {m : Int} {n : Nat} {w w' : World} (h : HalfI g t m n w w') : HalfI g t m (n + 1) w (w'.setCell ⟨g, n, none⟩ (.int .i64 (m + n))) := fun cs hr => by
  obtain ⟨cs', h1, h2, h3, h4⟩ := h cs hr
  refine ⟨_, h1.set_ n _, by simp [h2], fun i hi => ?_, fun i hi hs => ?_⟩
  · rw [Array.getElem?_setIfInBounds, if_neg (by omega)]
    exact h3 i (by omega)
  · rw [Array.getElem?_setIfInBounds]
    by_cases e : n = i
    · subst e
      rw [if_pos rfl, if_pos (by omega)]
    · rw [if_neg e]
      exact h4 i (by omega) hs

set_option maxHeartbeats 400000 in
theorem mkInX_any (zs : List Int) (C : Nat → Value) (m : Int) (lo hi : Nat) (w : World) (h : (Lay.int.slice 3).sep w lo hi zs C) (hz : zs.length ≤ 1048576) (hm0 : 0 ≤ m) (hm1 : m ≤ 549755813888) :
    Calls Try.prog 38 #[C 0, .int .i64 m] w fun e' w' => e' = .returned (.int .i64 (m + zs.length)) ∧ (Lay.int.slice 3).sep w' lo hi (from_ m zs.length) C ∧ Kept lo hi w w' := by
  obtain ⟨A, cap, g, cs, D, s, hC, hl, h3, h4, h5, h6⟩ := h
  have KEY : Hid (∀ w', HalfI g 3 m zs.length w w' → (Lay.int.slice 3).sep w' lo hi (from_ m zs.length) C) := fun w' hH => by
    by_cases h0 : zs.length = 0
    · rw [h0] at hC ⊢
      exact ⟨A, cap, g, #[], fun _ _ => undef, fun _ => lo, by rw [from_length]; exact hC, by rw [from_length]; exact Nat.zero_le _, fun _ _ => Nat.le_refl _, Nat.le_refl _, by
        rw [h0] at h5
        dsimp only
        omega, fun i x hx => by have := (from_get hx).1; omega⟩
    · obtain ⟨x0, hx0⟩ : ∃ x, zs[0]? = some x := ⟨_, List.getElem?_eq_getElem (by omega)⟩
      obtain ⟨a1, a2, a3, a4, a5, a6, a7⟩ := h6 0 x0 hx0
      obtain ⟨cs', r1, r2, r3, r4⟩ := hH cs a5
      refine ⟨A, cap, g, cs', fun i _ => .int .i64 (m + i), s, by rw [from_length]; exact hC, by rw [from_length]; exact hl, by rw [from_length]; exact h3, h4, by rw [from_length]; exact h5, fun i x hx => ?_⟩
      rw [from_length]
      obtain ⟨hi, hxe⟩ := from_get hx
      refine ⟨a1, a2, a3, a4, r1, fun j hj => ?_, by rw [hxe]; rfl⟩
      have hj0 : j = 0 := by have : j < 1 := hj; omega
      subst hj0
      obtain ⟨y, hy⟩ : ∃ y, zs[i]? = some y := ⟨_, List.getElem?_eq_getElem hi⟩
      obtain ⟨_, _, _, _, _, b6, _⟩ := h6 i y hy
      have hb := b6 0 (by decide)
      show cs'[i * 1 + 0]? = some (.int .i64 (m + i))
      rw [show Lay.int.st = 1 from rfl, Nat.mul_one, Nat.add_zero] at hb
      rw [Nat.mul_one, Nat.add_zero]
      exact r4 i hi (by
        rcases Nat.lt_or_ge i cs.size with hlt | hge
        · exact hlt
        · rw [Array.getElem?_eq_none hge] at hb; cases hb)
  rw [hC]
  have H6 := Lib.hid h6
  clear hC hl h3 h4 h5 h6
  go_enter Try.func38, Try.ntmps38
  go_wp2_with fail
  go_loopw [1, 5] (fun mm i wl => ∃ j : Nat, j ≤ zs.length ∧ i = .int .i64 j ∧ mm = .int .i64 (m + j) ∧ Hid (HalfI g 3 m j w wl) ∧ Hid (Kept lo hi w wl)) (fun _ i _ => zs.length - (intOf i).toNat)
  case atStart => exact ⟨0, Nat.zero_le _, rfl, by simp, HalfI.refl _ _ _ _, Kept.refl _ _ _⟩
  case round =>
    obtain ⟨j, hj, rfl, rfl, HT, HK⟩ := hrel
    by_cases hlt : j < zs.length
    · obtain ⟨x, hx⟩ : ∃ x, zs[j]? = some x := ⟨_, List.getElem?_eq_getElem hlt⟩
      obtain ⟨rfl, a2, a3, a4, a5, a6, a7⟩ := H6.out j x hx
      obtain ⟨cs', r1, e1, e2, _⟩ := HT.out cs a5
      have c0 : wr.cell? ⟨g, j, none⟩ = some (D j 0) := by
        rw [r1.cell, e2 j (Nat.le_refl _)]
        have := a6 0 (by decide)
        rw [show Lay.int.st = 1 from rfl, Nat.mul_one, Nat.add_zero] at this
        exact this
      have z0 := r1.frozen j
      have l0 := r1.lt
      have HT2 := Lib.hid HT.out.step
      have HK2 := Lib.hid (HK.out.trans (Kept.set_ lo hi wr a2 a3 j (.int .i64 (m + j))))
      clear hx a5 a6 a7 r1 e1 e2
      go_wp2_with fail
      go_roundw
      case rel => exact ⟨j + 1, by omega, by go_num, by go_num, HT2, HK2⟩
      case measure => simp [intOf]; omega
    · have hjj : j = zs.length := by omega
      subst hjj
      go_wp2_with fail
      go_ret
      exact ⟨rfl, KEY.out _ HT.out, HK.out⟩

set_option maxHeartbeats 400000 in
theorem heldIn_any (n : Nat) (C : Nat → Value) (m : Int) (w : World) (h : (Lay.int.slice 3).lies w w.heap.size (from_ m n) C) (hn : n ≤ 1048576) (hm0 : 0 ≤ m) (hm1 : m ≤ 549755813888) :
    Calls Try.prog 39 #[C 0, .int .i64 m] w fun e' w' => e' = .returned (.int .i64 (m + n)) ∧ w = w' := by
  obtain ⟨A, cap, b, off, D, hC, hl, hO⟩ := h
  rw [hC, from_length]
  have HI := Lib.hid (ints_of hO)
  clear hC hl hO
  go_enter Try.func39, Try.ntmps39
  go_wp2_with fail
  go_loopw [1, 5] (fun mm i wl => ∃ q : Nat, q ≤ n ∧ i = .int .i64 q ∧ mm = .int .i64 (m + q) ∧ wl = w) (fun _ i _ => n - (intOf i).toNat)
  case atStart => exact ⟨0, Nat.zero_le _, rfl, by simp, rfl⟩
  case round =>
    obtain ⟨q, hq, rfl, rfl, rfl⟩ := hrel
    by_cases hq3 : q < n
    · obtain ⟨rfl, hb, g0⟩ := HI.out q (m + q) (from_at hq3)
      go_wp2_with fail
      go_roundw
      case rel => exact ⟨q + 1, by omega, by go_num, by go_num, (by first | rfl | trivial)⟩
      case measure => simp [intOf]; omega
    · have hqq : q = n := by omega
      subst hqq
      go_wp2_with fail
      go_ret
      exact ⟨rfl, (by first | rfl | trivial)⟩

end Go.Proofs.Ytldnegacgjijlaa
